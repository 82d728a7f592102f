/- The document's Take. -/
import Derived.Test.YtkgehbonijpdnaaUTake
import Derived.Test.YtkgehbonijpdnaaURefC
import Derived.Test.YtkgehbonijpdnaaURefW
namespace Go.Proofs.Ytkgehbonijpdnaa
open Go.RowKit
set_option maxRecDepth 100000

theorem QIs.drew {w : World} {vl vm : Value} {Q : Qu} {V : Nat → Value} (h : QIs w vl vm Q V) : QIs w.drew vl vm Q V := h.below ((Below.refl _ _).drew)
theorem sl_cut1 {W : World} {s N cap b off : Nat} {c : Nat → Nat → Value} (hN : 1 ≤ N) (h : Sl W s N c (.slice (some ⟨b, off, none⟩) N cap)) : Sl W s (N - 1) (fun j => c (j + 1)) (.slice (if cap = 1 then some ⟨b, off, none⟩ else some ⟨b, off + s, none⟩) (N - 1) (cap - 1)) := by
  obtain ⟨a, cap', e, h1, _, hr⟩ := h
  cases e
  obtain ⟨k, rfl⟩ : ∃ k, N = k + 1 := ⟨N - 1, by omega⟩
  rw [Nat.add_sub_cancel]
  by_cases hc : cap = 1
  · rw [if_pos hc]
    exact ⟨_, _, rfl, by omega, (fun e => by cases e), fun j hj => absurd hj (by omega)⟩
  · rw [if_neg hc]
    exact ⟨_, _, rfl, by omega, (fun e => by cases e), rd_tail hr⟩
end Go.Proofs.Ytkgehbonijpdnaa
