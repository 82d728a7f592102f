/- Which replies may be: the code's answer and the document's. -/
import Derived.Test.YtmhkkdbfejajeaaWNum
import Derived.Deep.Light
namespace Go.Proofs.Ytmhkkdbfejajeaa
open Go.RowKit

set_option maxHeartbeats 2000000 in
theorem crep_1 (a h p : Int) (w : World) :
    Calls Try.prog 33 #[.agg #[.int .u8 1, .int .u8 a, .int .u32 h, .int .u64 p]] w fun e w' => e = .returned (.int .i64 (errI (repB 1 a h p))) ∧ Below w.heap.size w w' := by
  go_enter Try.func33, Try.ntmps33
  go_wp2
  all_goals
    go_light
    go_ret
    exact ⟨ret_int (by simp [errI, repB, *] <;> first | rfl | (intros; omega) | (simp_all <;> (intros; omega))), (Below.refl _ _).alloc (Nat.le_refl _) _⟩
set_option maxHeartbeats 2000000 in
theorem crep_2 (a h p : Int) (w : World) :
    Calls Try.prog 33 #[.agg #[.int .u8 2, .int .u8 a, .int .u32 h, .int .u64 p]] w fun e w' => e = .returned (.int .i64 (errI (repB 2 a h p))) ∧ Below w.heap.size w w' := by
  go_enter Try.func33, Try.ntmps33
  go_wp2
  all_goals
    go_light
    go_ret
    exact ⟨ret_int (by simp [errI, repB, *] <;> first | rfl | (intros; omega) | (simp_all <;> (intros; omega))), (Below.refl _ _).alloc (Nat.le_refl _) _⟩
set_option maxHeartbeats 2000000 in
theorem crep_3 (a h p : Int) (w : World) :
    Calls Try.prog 33 #[.agg #[.int .u8 3, .int .u8 a, .int .u32 h, .int .u64 p]] w fun e w' => e = .returned (.int .i64 (errI (repB 3 a h p))) ∧ Below w.heap.size w w' := by
  go_enter Try.func33, Try.ntmps33
  go_wp2
  all_goals
    go_light
    go_ret
    exact ⟨ret_int (by simp [errI, repB, *] <;> first | rfl | (intros; omega) | (simp_all <;> (intros; omega))), (Below.refl _ _).alloc (Nat.le_refl _) _⟩
set_option maxHeartbeats 2000000 in
theorem crep_4 (a h p : Int) (w : World) :
    Calls Try.prog 33 #[.agg #[.int .u8 4, .int .u8 a, .int .u32 h, .int .u64 p]] w fun e w' => e = .returned (.int .i64 (errI (repB 4 a h p))) ∧ Below w.heap.size w w' := by
  go_enter Try.func33, Try.ntmps33
  go_wp2
  all_goals
    go_light
    go_ret
    exact ⟨ret_int (by simp [errI, repB, *] <;> first | rfl | (intros; omega) | (simp_all <;> (intros; omega))), (Below.refl _ _).alloc (Nat.le_refl _) _⟩
set_option maxHeartbeats 2000000 in
theorem crep_else (k a h p : Int) (w : World) (h1 : k ≠ 1) (h2 : k ≠ 2) (h3 : k ≠ 3) (h4 : k ≠ 4) :
    Calls Try.prog 33 #[.agg #[.int .u8 k, .int .u8 a, .int .u32 h, .int .u64 p]] w fun e w' => e = .returned (.int .i64 (errI (repB k a h p))) ∧ Below w.heap.size w w' := by
  go_enter Try.func33, Try.ntmps33
  go_wp2
  all_goals
    go_light
    go_ret
    exact ⟨ret_int (by simp [errI, repB, *] <;> first | rfl | (intros; omega) | (simp_all <;> (intros; omega))), (Below.refl _ _).alloc (Nat.le_refl _) _⟩
theorem crep_any (k a h p : Int) (w : World) :
    Calls Try.prog 33 #[.agg #[.int .u8 k, .int .u8 a, .int .u32 h, .int .u64 p]] w fun e w' => e = .returned (.int .i64 (errI (repB k a h p))) ∧ Below w.heap.size w w' := by
  by_cases h1 : k = 1
  · subst h1; exact crep_1 a h p w
  by_cases h2 : k = 2
  · subst h2; exact crep_2 a h p w
  by_cases h3 : k = 3
  · subst h3; exact crep_3 a h p w
  by_cases h4 : k = 4
  · subst h4; exact crep_4 a h p w
  exact crep_else k a h p w h1 h2 h3 h4
set_option maxHeartbeats 2000000 in
theorem isrep_1 (a h p : Int) (w : World) :
    Calls Try.prog 28 #[.agg #[.int .u8 1, .int .u8 a, .int .u32 h, .int .u64 p]] w fun e w' => e = .returned (.bool (repB 1 a h p)) ∧ Below w.heap.size w w' := by
  go_enter Try.func28, Try.ntmps28
  go_wp2
  all_goals
    go_light
    go_ret
    exact ⟨ret_bool (by simp [repB, *] <;> first | rfl | (intros; omega) | (simp_all <;> (intros; omega))), (Below.refl _ _).alloc (Nat.le_refl _) _⟩
set_option maxHeartbeats 2000000 in
theorem isrep_2 (a h p : Int) (w : World) :
    Calls Try.prog 28 #[.agg #[.int .u8 2, .int .u8 a, .int .u32 h, .int .u64 p]] w fun e w' => e = .returned (.bool (repB 2 a h p)) ∧ Below w.heap.size w w' := by
  go_enter Try.func28, Try.ntmps28
  go_wp2
  all_goals
    go_light
    go_ret
    exact ⟨ret_bool (by simp [repB, *] <;> first | rfl | (intros; omega) | (simp_all <;> (intros; omega))), (Below.refl _ _).alloc (Nat.le_refl _) _⟩
set_option maxHeartbeats 2000000 in
theorem isrep_3 (a h p : Int) (w : World) :
    Calls Try.prog 28 #[.agg #[.int .u8 3, .int .u8 a, .int .u32 h, .int .u64 p]] w fun e w' => e = .returned (.bool (repB 3 a h p)) ∧ Below w.heap.size w w' := by
  go_enter Try.func28, Try.ntmps28
  go_wp2
  all_goals
    go_light
    go_ret
    exact ⟨ret_bool (by simp [repB, *] <;> first | rfl | (intros; omega) | (simp_all <;> (intros; omega))), (Below.refl _ _).alloc (Nat.le_refl _) _⟩
set_option maxHeartbeats 2000000 in
theorem isrep_4 (a h p : Int) (w : World) :
    Calls Try.prog 28 #[.agg #[.int .u8 4, .int .u8 a, .int .u32 h, .int .u64 p]] w fun e w' => e = .returned (.bool (repB 4 a h p)) ∧ Below w.heap.size w w' := by
  go_enter Try.func28, Try.ntmps28
  go_wp2
  all_goals
    go_light
    go_ret
    exact ⟨ret_bool (by simp [repB, *] <;> first | rfl | (intros; omega) | (simp_all <;> (intros; omega))), (Below.refl _ _).alloc (Nat.le_refl _) _⟩
set_option maxHeartbeats 2000000 in
theorem isrep_else (k a h p : Int) (w : World) (h1 : k ≠ 1) (h2 : k ≠ 2) (h3 : k ≠ 3) (h4 : k ≠ 4) :
    Calls Try.prog 28 #[.agg #[.int .u8 k, .int .u8 a, .int .u32 h, .int .u64 p]] w fun e w' => e = .returned (.bool (repB k a h p)) ∧ Below w.heap.size w w' := by
  go_enter Try.func28, Try.ntmps28
  go_wp2
  all_goals
    go_light
    go_ret
    exact ⟨ret_bool (by simp [repB, *] <;> first | rfl | (intros; omega) | (simp_all <;> (intros; omega))), (Below.refl _ _).alloc (Nat.le_refl _) _⟩
theorem isrep_any (k a h p : Int) (w : World) :
    Calls Try.prog 28 #[.agg #[.int .u8 k, .int .u8 a, .int .u32 h, .int .u64 p]] w fun e w' => e = .returned (.bool (repB k a h p)) ∧ Below w.heap.size w w' := by
  by_cases h1 : k = 1
  · subst h1; exact isrep_1 a h p w
  by_cases h2 : k = 2
  · subst h2; exact isrep_2 a h p w
  by_cases h3 : k = 3
  · subst h3; exact isrep_3 a h p w
  by_cases h4 : k = 4
  · subst h4; exact isrep_4 a h p w
  exact isrep_else k a h p w h1 h2 h3 h4

end Go.Proofs.Ytmhkkdbfejajeaa
