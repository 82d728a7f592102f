/- The document's own Lattice. -/
import Derived.Test.YtcfpfddbbhphgabLRefC
import Derived.Test.YtcfpfddbbhphgabLLat
namespace Go.Proofs.Ytcfpfddbbhphgab
open Go.RowKit Go.Shelf

/-- what Lattice tells, with its error -/
def LatE (n : Nat) (z : Nat → Int) (x y : Nat) (ok : Bool) : Prop := (polE n z ≠ 0 ∧ x = 0 ∧ y = 0 ∧ ok = false) ∨ (polE n z = 0 ∧ LatIs n z x y ok)
theorem LatE.one {n : Nat} {z : Nat → Int} {x y x' y' : Nat} {ok ok' : Bool} (h : LatE n z x y ok) (h' : LatE n z x' y' ok') : x = x' ∧ y = y' ∧ ok = ok' := by
  rcases h with ⟨h0, rfl, rfl, rfl⟩ | ⟨h0, h⟩ <;> rcases h' with ⟨g0, rfl, rfl, rfl⟩ | ⟨g0, g⟩
  · exact ⟨rfl, rfl, rfl⟩
  · exact absurd g0 h0
  · exact absurd h0 g0
  · exact h.one g
def LatAns (w : World) (n : Nat) (z : Nat → Int) (e : Ending) (w' : World) : Prop :=
  ∃ x y : Nat, ∃ ok, e = .returned (.tuple #[.agg #[.int .i64 x, .int .i64 y], .bool ok, .int .i64 (polE n z)]) ∧ LatE n z x y ok ∧ Below w.heap.size w w'
theorem lattice_un (a : Option Addr) (n cap : Nat) (z : Nat → Int) (w : World) (hn : n < 9223372036854775807) (hc : Cells w .u64 a n z) (hz : Bds n z) :
    Calls Try.prog 8 #[.slice a n cap] w (LatAns w n z) := by
  by_cases hk : polE n z = 0
  · refine (lattice_ok a n cap z w hn hc hz hk).mono ?_
    rintro e w' ⟨x, y, ok, rfl, hl, hb⟩
    exact ⟨x, y, ok, by rw [hk], .inr ⟨hk, hl⟩, hb⟩
  · refine (lattice_bad a n cap z w hn hc hz hk).mono ?_
    rintro e w' ⟨rfl, hb⟩
    exact ⟨0, 0, false, rfl, .inl ⟨hk, rfl, rfl, rfl⟩, hb⟩

theorem flow_put {w W : World} (hb : Below (w.alloc (.cells #[.int .i64 0, .int .i64 0] 26)).heap.size (w.alloc (.cells #[.int .i64 0, .int .i64 0] 26)) W) (x y : Value) :
    PBox ((W.setCell ⟨w.heap.size, 0, none⟩ x).setCell ⟨w.heap.size, 1, none⟩ y) w.heap.size x y ∧ Below w.heap.size w ((W.setCell ⟨w.heap.size, 0, none⟩ x).setCell ⟨w.heap.size, 1, none⟩ y) :=
  ⟨pbox_set ((pbox_new w _ _ _).below hb) x y, below_set2 (Below.onto ((Below.refl _ w).alloc (Nat.le_refl _) _) hb) (Nat.le_refl _) x y⟩

end Go.Proofs.Ytcfpfddbbhphgab
