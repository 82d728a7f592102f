/- The statements' head: a set, and a closure. -/
import Derived.Test.YtlfmkgfhopbegabClo
namespace Go.Proofs.Ytlfmkgfhopbegab
open Go.RowKit Go.Shelf

def tri (x y z : Int) : Nat → Int := fun j => if j = 0 then x else if j = 1 then y else z
theorem three_cells (w : World) (k : IntKind) (x y z : Int) (t : TypeId) : Cells (w.alloc (.cells #[.int k x, .int k y, .int k z] t)) k (some ⟨w.heap.size, 0, none⟩) 3 (tri x y z) := by
  have hb : (w.alloc (.cells #[.int k x, .int k y, .int k z] t)).heap[w.heap.size]? = some (.cells #[.int k x, .int k y, .int k z] t (0, 0)) := World.alloc_heap_new w _
  intro j hj
  refine ⟨w.heap.size, 0, rfl, ?_⟩
  rw [Nat.zero_add, cell_of_row _ _ j _ t (0, 0) hb]
  match j, hj with
  | 0, _ => rfl
  | 1, _ => rfl
  | 2, _ => rfl
theorem of_three (w : World) : Calls Try.prog 16 #[.slice (some ⟨w.heap.size, 0, none⟩) 3 3] (w.alloc (.cells #[.int .i64 3, .int .i64 0, .int .i64 3] 3)) fun e w' => e = .returned (.tuple #[.int .u64 9, .int .i64 0]) ∧ w' = w.alloc (.cells #[.int .i64 3, .int .i64 0, .int .i64 3] 3) := by
  refine (of_any _ 3 3 _ _ (by omega) (three_cells w .i64 3 0 3 3)).mono ?_
  rintro e w' ⟨⟨_, rfl⟩ | ⟨⟨j, hj, hb⟩, _⟩, rfl⟩
  · exact ⟨by rw [show ofSet (tri 3 0 3) 3 = 9 by decide], rfl⟩
  · exfalso
    match j, hj with
    | 0, _ => revert hb; decide
    | 1, _ => revert hb; decide
    | 2, _ => revert hb; decide
theorem nth_nine (w : World) : Calls Try.prog 17 #[.int .u64 9, .int .i64 1] w fun e w' => e = .returned (.tuple #[.int .i64 3, .bool true]) ∧ Below w.heap.size w w' := by
  refine (nth_any 9 1 w (by omega) (by omega)).mono ?_
  rintro e w' ⟨rfl, hb⟩
  exact ⟨by rw [show nthI 9 1 = 3 by decide +kernel, show nthB 9 1 = true by decide +kernel], hb⟩
theorem closure_three (w : World) : Calls Try.prog 11 #[.slice (some ⟨w.heap.size, 0, none⟩) 3 3] (w.alloc (.cells #[.int .u64 2, .int .u64 4, .int .u64 0] 31)) fun e w' => ∃ a cap, e = .returned (.tuple #[.slice a 3 cap, .int .i64 0]) ∧ Cells w' .u64 a 3 (tri 7 6 4) ∧ Below w.heap.size w w' := by
  refine (closure_ok _ 3 3 _ _ (three_cells w .u64 2 4 0 31) ?_ (by decide +kernel)).mono ?_
  · intro j hj
    match j, hj with
    | 0, _ => decide
    | 1, _ => decide
    | 2, _ => decide
  · rintro e w' ⟨v, rfl, hown, hb⟩
    obtain ⟨a, cap, rfl, hc, _⟩ := cells_of_own hown (encU_at 3 _)
    refine ⟨a, cap, rfl, hc.congr ?_, ?_⟩
    · intro j hj
      match j, hj with
      | 0, _ => decide +kernel
      | 1, _ => decide +kernel
      | 2, _ => decide +kernel
    · exact ((Below.refl _ w).alloc (Nat.le_refl _) _).trans (hb.mono (by simp))

set_option maxRecDepth 100000 in
set_option maxHeartbeats 2000000 in
theorem alive_any (w : World) : Calls Try.prog 9 #[] w fun e w' => e = .returned (.bool true) ∧ Below w.heap.size w w' := by
  go_enter Try.func9, Try.ntmps9
  go_wp2_with fail
  refine (of_three w).mono ?_
  rintro e w1 ⟨rfl, h1⟩
  have hb1 : Below w.heap.size w w1 := by rw [h1]; exact (Below.refl _ w).alloc (Nat.le_refl _) _
  clear h1
  go_wp2_with fail
  refine (nth_nine _).mono ?_
  rintro e w2 ⟨rfl, h2⟩
  have hb2 := Below.onto hb1 h2
  clear h2 hb1
  go_wp2_with fail
  refine (closure_three _).mono ?_
  rintro e w3 ⟨a, cap, rfl, hc, h3⟩
  have hb3 := Below.onto hb2 h3
  have HC : Hid (Cells w3 .u64 a 3 (tri 7 6 4)) := hc
  clear h3 hb2 hc
  go_wp2_with fail
  refine (rsame_true a _ 3 cap 3 (tri 7 6 4) (tri 7 6 4) _ (by omega) (HC.out.below ((Below.refl _ w3).alloc (Nat.le_refl _) _)) (three_cells w3 .u64 7 6 4 31) (fun _ _ => rfl)).mono ?_
  rintro e w4 ⟨rfl, h4⟩
  go_wp2_with fail
  go_ret
  exact ⟨rfl, Below.onto (hb3.alloc hb3.size _) h4⟩

end Go.Proofs.Ytlfmkgfhopbegab
