/- The document's own answers of layer 2: Check, label, asked, meets, Joins, Meets. -/
import Derived.Test.YtcfpfddbbhphgabLRefA
namespace Go.Proofs.Ytcfpfddbbhphgab
open Go.RowKit Go.Shelf

/-- what keeps a policy's rows: the rows gone through so far -/
def polRow (z : Nat → Int) (a b : Nat) : Prop := ∀ j, j < b → tb (z a) j = true → subB (z j) (z a) = true
theorem pol_iff {n : Nat} {z : Nat → Int} (hz : Bds n z) (hk : shpE n z = 0) : polE n z = 0 ↔ ∀ a, a < n → tb (z a) a = true ∧ polRow z a n := by
  obtain ⟨h1, h2, h3⟩ := shpE_ok hk
  have hp : polE n z = 0 ↔ polB n z = true := by
    unfold polE; rw [if_pos hk]
    cases polB n z <;> simp
  rw [hp, clo_eq_iff (by omega) hz h3]
  constructor
  · rintro ⟨g1, g2⟩ a ha
    exact ⟨g1 a ha, fun j hj ht => (subB_all (hz j hj).2).2 fun q hq => g2 a j q ha ht hq⟩
  · intro h
    refine ⟨fun i hi => (h i hi).1, fun i m j hi g1 g2 => ?_⟩
    have hm := in_rows h3 hz hi g1
    exact (subB_all (hz m hm).2).1 ((h i hi).2 m hm g1) j g2

theorem polE_20 {n : Nat} {z : Nat → Int} (hk : shpE n z = 0) : (if polE n z = 0 then 0 else 20) = polE n z := by
  unfold polE
  rw [if_pos hk]
  cases polB n z <;> simp
def labB (n : Nat) (a : Int) : Bool := decide (0 ≤ a) && decide (a < n)
end Go.Proofs.Ytcfpfddbbhphgab
