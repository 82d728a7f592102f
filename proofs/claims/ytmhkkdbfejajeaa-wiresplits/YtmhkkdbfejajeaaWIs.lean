/- The document: which requests are well-formed. -/
import Derived.Test.YtmhkkdbfejajeaaWNum
import Derived.Deep.Light
namespace Go.Proofs.Ytmhkkdbfejajeaa
open Go.RowKit

set_option maxHeartbeats 2000000 in
theorem is_1 (a r h p : Int) (w : World) :
    Calls Try.prog 12 #[.agg #[.int .u8 1, .int .u8 a, .int .u8 r, .int .u32 h, .int .u64 p]] w fun e w' => e = .returned (.bool ((okB 1 a r h p))) ∧ Below w.heap.size w w' := by
  go_enter Try.func12, Try.ntmps12
  go_wp2
  all_goals
    go_light
    go_ret
    exact ⟨ret_bool (by simp [okB, *] <;> first | rfl | (intros; omega) | (simp_all <;> (intros; omega))), (Below.refl _ _).alloc (Nat.le_refl _) _⟩
set_option maxHeartbeats 2000000 in
theorem is_2 (a r h p : Int) (w : World) :
    Calls Try.prog 12 #[.agg #[.int .u8 2, .int .u8 a, .int .u8 r, .int .u32 h, .int .u64 p]] w fun e w' => e = .returned (.bool ((okB 2 a r h p))) ∧ Below w.heap.size w w' := by
  go_enter Try.func12, Try.ntmps12
  go_wp2
  all_goals
    go_light
    go_ret
    exact ⟨ret_bool (by simp [okB, *] <;> first | rfl | (intros; omega) | (simp_all <;> (intros; omega))), (Below.refl _ _).alloc (Nat.le_refl _) _⟩
set_option maxHeartbeats 2000000 in
theorem is_3 (a r h p : Int) (w : World) :
    Calls Try.prog 12 #[.agg #[.int .u8 3, .int .u8 a, .int .u8 r, .int .u32 h, .int .u64 p]] w fun e w' => e = .returned (.bool ((okB 3 a r h p))) ∧ Below w.heap.size w w' := by
  go_enter Try.func12, Try.ntmps12
  go_wp2
  all_goals
    go_light
    go_ret
    exact ⟨ret_bool (by simp [okB, *] <;> first | rfl | (intros; omega) | (simp_all <;> (intros; omega))), (Below.refl _ _).alloc (Nat.le_refl _) _⟩
set_option maxHeartbeats 2000000 in
theorem is_4 (a r h p : Int) (w : World) :
    Calls Try.prog 12 #[.agg #[.int .u8 4, .int .u8 a, .int .u8 r, .int .u32 h, .int .u64 p]] w fun e w' => e = .returned (.bool ((okB 4 a r h p))) ∧ Below w.heap.size w w' := by
  go_enter Try.func12, Try.ntmps12
  go_wp2
  all_goals
    go_light
    go_ret
    exact ⟨ret_bool (by simp [okB, *] <;> first | rfl | (intros; omega) | (simp_all <;> (intros; omega))), (Below.refl _ _).alloc (Nat.le_refl _) _⟩
set_option maxHeartbeats 2000000 in
theorem is_5 (a r h p : Int) (w : World) :
    Calls Try.prog 12 #[.agg #[.int .u8 5, .int .u8 a, .int .u8 r, .int .u32 h, .int .u64 p]] w fun e w' => e = .returned (.bool ((okB 5 a r h p))) ∧ Below w.heap.size w w' := by
  go_enter Try.func12, Try.ntmps12
  go_wp2
  all_goals
    go_light
    go_ret
    exact ⟨ret_bool (by simp [okB, *] <;> first | rfl | (intros; omega) | (simp_all <;> (intros; omega))), (Below.refl _ _).alloc (Nat.le_refl _) _⟩
set_option maxHeartbeats 2000000 in
theorem is_6 (a r h p : Int) (w : World) :
    Calls Try.prog 12 #[.agg #[.int .u8 6, .int .u8 a, .int .u8 r, .int .u32 h, .int .u64 p]] w fun e w' => e = .returned (.bool ((okB 6 a r h p))) ∧ Below w.heap.size w w' := by
  go_enter Try.func12, Try.ntmps12
  go_wp2
  all_goals
    go_light
    go_ret
    exact ⟨ret_bool (by simp [okB, *] <;> first | rfl | (intros; omega) | (simp_all <;> (intros; omega))), (Below.refl _ _).alloc (Nat.le_refl _) _⟩
set_option maxHeartbeats 2000000 in
theorem is_7 (a r h p : Int) (w : World) :
    Calls Try.prog 12 #[.agg #[.int .u8 7, .int .u8 a, .int .u8 r, .int .u32 h, .int .u64 p]] w fun e w' => e = .returned (.bool ((okB 7 a r h p))) ∧ Below w.heap.size w w' := by
  go_enter Try.func12, Try.ntmps12
  go_wp2
  all_goals
    go_light
    go_ret
    exact ⟨ret_bool (by simp [okB, *] <;> first | rfl | (intros; omega) | (simp_all <;> (intros; omega))), (Below.refl _ _).alloc (Nat.le_refl _) _⟩
set_option maxHeartbeats 2000000 in
theorem is_8 (a r h p : Int) (w : World) :
    Calls Try.prog 12 #[.agg #[.int .u8 8, .int .u8 a, .int .u8 r, .int .u32 h, .int .u64 p]] w fun e w' => e = .returned (.bool ((okB 8 a r h p))) ∧ Below w.heap.size w w' := by
  go_enter Try.func12, Try.ntmps12
  go_wp2
  all_goals
    go_light
    go_ret
    exact ⟨ret_bool (by simp [okB, *] <;> first | rfl | (intros; omega) | (simp_all <;> (intros; omega))), (Below.refl _ _).alloc (Nat.le_refl _) _⟩
set_option maxHeartbeats 2000000 in
theorem is_9 (a r h p : Int) (w : World) :
    Calls Try.prog 12 #[.agg #[.int .u8 9, .int .u8 a, .int .u8 r, .int .u32 h, .int .u64 p]] w fun e w' => e = .returned (.bool ((okB 9 a r h p))) ∧ Below w.heap.size w w' := by
  go_enter Try.func12, Try.ntmps12
  go_wp2
  all_goals
    go_light
    go_ret
    exact ⟨ret_bool (by simp [okB, *] <;> first | rfl | (intros; omega) | (simp_all <;> (intros; omega))), (Below.refl _ _).alloc (Nat.le_refl _) _⟩
set_option maxHeartbeats 2000000 in
theorem is_else (k a r h p : Int) (w : World) (h1 : k ≠ 1) (h2 : k ≠ 2) (h3 : k ≠ 3) (h4 : k ≠ 4) (h5 : k ≠ 5) (h6 : k ≠ 6) (h7 : k ≠ 7) (h8 : k ≠ 8) (h9 : k ≠ 9) :
    Calls Try.prog 12 #[.agg #[.int .u8 k, .int .u8 a, .int .u8 r, .int .u32 h, .int .u64 p]] w fun e w' => e = .returned (.bool ((okB k a r h p))) ∧ Below w.heap.size w w' := by
  go_enter Try.func12, Try.ntmps12
  go_wp2
  all_goals
    go_light
    go_ret
    exact ⟨ret_bool (by simp [okB, *]), (Below.refl _ _).alloc (Nat.le_refl _) _⟩
theorem is_any (k a r h p : Int) (w : World) :
    Calls Try.prog 12 #[.agg #[.int .u8 k, .int .u8 a, .int .u8 r, .int .u32 h, .int .u64 p]] w fun e w' => e = .returned (.bool ((okB k a r h p))) ∧ Below w.heap.size w w' := by
  by_cases h1 : k = 1
  · subst h1; exact is_1 a r h p w
  by_cases h2 : k = 2
  · subst h2; exact is_2 a r h p w
  by_cases h3 : k = 3
  · subst h3; exact is_3 a r h p w
  by_cases h4 : k = 4
  · subst h4; exact is_4 a r h p w
  by_cases h5 : k = 5
  · subst h5; exact is_5 a r h p w
  by_cases h6 : k = 6
  · subst h6; exact is_6 a r h p w
  by_cases h7 : k = 7
  · subst h7; exact is_7 a r h p w
  by_cases h8 : k = 8
  · subst h8; exact is_8 a r h p w
  by_cases h9 : k = 9
  · subst h9; exact is_9 a r h p w
  exact is_else k a r h p w h1 h2 h3 h4 h5 h6 h7 h8 h9

end Go.Proofs.Ytmhkkdbfejajeaa
