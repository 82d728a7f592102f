/- The statements' head: a set, and a closure. -/
import Derived.Test.YtcfpfddbbhphgabClo
namespace Go.Proofs.Ytcfpfddbbhphgab
open Go.RowKit Go.Shelf

def tri (x y z : Int) : Nat → Int := fun j => if j = 0 then x else if j = 1 then y else z
theorem three_cells (w : World) (k : IntKind) (x y z : Int) (t : TypeId) : Cells (w.alloc (.cells #[.int k x, .int k y, .int k z] t)) k (some ⟨w.heap.size, 0, none⟩) 3 (tri x y z) := by
  have hb : (w.alloc (.cells #[.int k x, .int k y, .int k z] t)).heap[w.heap.size]? = some (.cells #[.int k x, .int k y, .int k z] t (0, 0)) := World.alloc_heap_new w _
  intro j hj
  refine ⟨w.heap.size, 0, rfl, ?_⟩
  rw [Nat.zero_add, cell_of_row _ _ j _ t (0, 0) hb]
  match j, hj with
  | 0, _ => rfl
  | 1, _ => rfl
  | 2, _ => rfl
theorem closure_three (w : World) : Calls Try.prog 39 #[.slice (some ⟨w.heap.size, 0, none⟩) 3 3] (w.alloc (.cells #[.int .u64 2, .int .u64 4, .int .u64 0] 35)) fun e w' => ∃ a cap, e = .returned (.tuple #[.slice a 3 cap, .int .i64 0]) ∧ Cells w' .u64 a 3 (tri 7 6 4) ∧ Below w.heap.size w w' := by
  refine (closure_ok _ 3 3 _ _ (three_cells w .u64 2 4 0 35) ?_ (by decide +kernel)).mono ?_
  · intro j hj
    match j, hj with
    | 0, _ => decide
    | 1, _ => decide
    | 2, _ => decide
  · rintro e w' ⟨v, rfl, hown, hb⟩
    obtain ⟨a, cap, rfl, hc, _⟩ := cells_of_own hown (encU_at 3 _)
    refine ⟨a, cap, rfl, hc.congr ?_, ?_⟩
    · intro j hj
      match j, hj with
      | 0, _ => decide +kernel
      | 1, _ => decide +kernel
      | 2, _ => decide +kernel
    · exact ((Below.refl _ w).alloc (Nat.le_refl _) _).trans (hb.mono (by simp))

end Go.Proofs.Ytcfpfddbbhphgab
