/- The document's Retire. -/
import Derived.Test.YtkgehbonijpdnaaURefT
namespace Go.Proofs.Ytkgehbonijpdnaa
open Go.RowKit
set_option maxRecDepth 100000

/-- a cell of an element is set -/
theorem Rd.put {w : World} {b off n s j f : Nat} {c : Nat → Nat → Value} (h : Rd w (some ⟨b, off, none⟩) n s c) (hj : j < n) (hf : f < s) (u : Value) : Rd (w.setCell ⟨b, off + j * s + f, none⟩ u) (some ⟨b, off, none⟩) n s (fun i e => if i = j ∧ e = f then u else c i e) := fun i hi => by
  refine ⟨b, off, rfl, fun e he => ?_⟩
  have hc : ∀ i, i < n → ∀ e, e < s → w.cell? ⟨b, off + i * s + e, none⟩ = some (c i e) := fun i hi e he => by
    obtain ⟨b', off', e', h'⟩ := h i hi
    cases e'
    exact h' e he
  by_cases hie : i = j ∧ e = f
  · obtain ⟨rfl, rfl⟩ := hie
    show _ = some (if i = i ∧ e = e then u else c i e)
    rw [if_pos ⟨rfl, rfl⟩]
    exact World.cell?_setCell_same' _ _ _ (by rw [hc i hi e he]; rfl)
  · show _ = some (if i = j ∧ e = f then u else c i e)
    rw [if_neg hie]
    rw [World.cell?_setCell_other _ _ _ _ (by
      intro e1
      injection e1 with _ e2
      exact hie (mul_inj he hf (by omega)))]
    exact hc i hi e he
theorem ret_cells {ls : List PLn} {V : Nat → Value} {j : Nat} (hj : j < ls.length) (i e : Nat) (he : e < 6) : (if i = j ∧ e = 2 then Value.int .i64 ((atP ls j).lf + 1) else encLs ls V i e) = encLs (ls.set j (retL (atP ls j))) V i e := by
  unfold encLs
  rw [atP_set hj]
  by_cases h : i = j
  · subst h
    rw [if_pos rfl]
    match e, he with
    | 0, _ => simp [encP, retL]
    | 1, _ => simp [encP, retL]
    | 2, _ => simp [encP, retL]
    | 3, _ => simp [encP]
    | 4, _ => simp [encP, retL]
    | 5, _ => simp [encP, retL]
  · simp [h]
end Go.Proofs.Ytkgehbonijpdnaa
