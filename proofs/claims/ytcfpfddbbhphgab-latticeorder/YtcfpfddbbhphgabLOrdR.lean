/- The document's own Order. -/
import Derived.Test.YtcfpfddbbhphgabLOrdM
import Derived.Test.YtcfpfddbbhphgabLRefB
namespace Go.Proofs.Ytcfpfddbbhphgab
open Go.RowKit Go.Shelf

def lenV : Value → Nat
  | .slice _ n _ => n
  | _ => 0
/-- what was seen: what stands -/
def Seen (L : List Nat) (s : Int) : Prop := 0 ≤ s ∧ s < 18446744073709551616 ∧ ∀ j, tb s j = true ↔ j ∈ L
theorem seen_free {n : Nat} {z : Nat → Int} (hP : Pol n z) {k : Nat} {L : List Nat} {s t : Int} (h : OrdIs n z k L s) (ht : Seen L t) {a : Nat} (ha : a < n) : (anI (blw n z a) t == 0) = frB n z s a := by
  obtain ⟨i1, i2, i3, i4, i5⟩ := h.inv hP.le
  rw [an_sub (blw_lt hP ha) ht.1 ht.2.1, Bool.eq_iff_iff, subB_all (blw_lt hP ha), frB_iff]
  constructor
  · intro hs j hj
    cases hh : tb s j
    · rfl
    · exact absurd ((ht.2.2 j).1 (hs j hj)) ((i4 j).1 hh).2
  · intro hs j hj
    have h1 := hs j hj
    refine (ht.2.2 j).2 (Classical.byContradiction fun hL => ?_)
    rw [(i4 j).2 ⟨((tb_blw hP ha j).1 hj).1, hL⟩] at h1
    cases h1

theorem givesO_own {w w' : World} {n : Nat} {z : Nat → Int} {L : List Nat} {s : Int} {e : Ending} {v : Value} (hP : Pol n z) (he : e = .returned (.tuple #[v, .int .i64 0])) (hO : OrdIs n z n L s) (ho : w'.ownsRow w.heap.size 3 1 v n (encL L)) (hb : Below w.heap.size w w') : GivesO w n z e w' := by
  have hl := (hO.inv hP.le).1
  have ho' : w'.ownsRow w.heap.size 3 1 v L.length (encL L) := by rw [hl]; exact ho
  obtain ⟨a, cap, rfl, hc, _⟩ := cells_of_own ho' (encL_nat L)
  exact ⟨a, cap, L, by rw [hP.ok]; exact he, hc, .inr ⟨hP.ok, s, hO⟩, hb⟩
end Go.Proofs.Ytcfpfddbbhphgab
