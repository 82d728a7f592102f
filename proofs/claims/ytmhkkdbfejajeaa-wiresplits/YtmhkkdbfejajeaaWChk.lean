/- wire.Check: which requests are well-formed. -/
import Derived.Test.YtmhkkdbfejajeaaWNum
import Derived.Deep.Light
namespace Go.Proofs.Ytmhkkdbfejajeaa
open Go.RowKit

set_option maxHeartbeats 2000000 in
theorem check_1 (a r h p : Int) (w : World) (hr0 : 0 ≤ r) :
    Calls Try.prog 11 #[.agg #[.int .u8 1, .int .u8 a, .int .u8 r, .int .u32 h, .int .u64 p]] w fun e w' => e = .returned (.int .i64 (errI (okB 1 a r h p))) ∧ Below w.heap.size w w' := by
  go_enter Try.func11, Try.ntmps11
  go_wp2
  all_goals
    go_light
    go_ret
    exact ⟨ret_int (by simp [errI, okB, *] <;> simp_all <;> (intros; omega)), (Below.refl _ _).alloc (Nat.le_refl _) _⟩
set_option maxHeartbeats 2000000 in
theorem check_2 (a r h p : Int) (w : World) :
    Calls Try.prog 11 #[.agg #[.int .u8 2, .int .u8 a, .int .u8 r, .int .u32 h, .int .u64 p]] w fun e w' => e = .returned (.int .i64 (errI (okB 2 a r h p))) ∧ Below w.heap.size w w' := by
  go_enter Try.func11, Try.ntmps11
  go_wp2
  all_goals
    go_light
    go_ret
    exact ⟨ret_int (by simp [errI, okB, *] <;> simp_all <;> (intros; omega)), (Below.refl _ _).alloc (Nat.le_refl _) _⟩
set_option maxHeartbeats 2000000 in
theorem check_3 (a r h p : Int) (w : World) :
    Calls Try.prog 11 #[.agg #[.int .u8 3, .int .u8 a, .int .u8 r, .int .u32 h, .int .u64 p]] w fun e w' => e = .returned (.int .i64 (errI (okB 3 a r h p))) ∧ Below w.heap.size w w' := by
  go_enter Try.func11, Try.ntmps11
  go_wp2
  all_goals
    go_light
    go_ret
    exact ⟨ret_int (by simp [errI, okB, *] <;> simp_all <;> (intros; omega)), (Below.refl _ _).alloc (Nat.le_refl _) _⟩
set_option maxHeartbeats 2000000 in
theorem check_4 (a r h p : Int) (w : World) :
    Calls Try.prog 11 #[.agg #[.int .u8 4, .int .u8 a, .int .u8 r, .int .u32 h, .int .u64 p]] w fun e w' => e = .returned (.int .i64 (errI (okB 4 a r h p))) ∧ Below w.heap.size w w' := by
  go_enter Try.func11, Try.ntmps11
  go_wp2
  all_goals
    go_light
    go_ret
    exact ⟨ret_int (by simp [errI, okB, *] <;> simp_all <;> (intros; omega)), (Below.refl _ _).alloc (Nat.le_refl _) _⟩
set_option maxHeartbeats 2000000 in
theorem check_5 (a r h p : Int) (w : World) (hr0 : 0 ≤ r) :
    Calls Try.prog 11 #[.agg #[.int .u8 5, .int .u8 a, .int .u8 r, .int .u32 h, .int .u64 p]] w fun e w' => e = .returned (.int .i64 (errI (okB 5 a r h p))) ∧ Below w.heap.size w w' := by
  go_enter Try.func11, Try.ntmps11
  go_wp2
  all_goals
    go_light
    go_ret
    exact ⟨ret_int (by simp [errI, okB, *] <;> simp_all <;> (intros; omega)), (Below.refl _ _).alloc (Nat.le_refl _) _⟩
set_option maxHeartbeats 2000000 in
theorem check_6 (a r h p : Int) (w : World) :
    Calls Try.prog 11 #[.agg #[.int .u8 6, .int .u8 a, .int .u8 r, .int .u32 h, .int .u64 p]] w fun e w' => e = .returned (.int .i64 (errI (okB 6 a r h p))) ∧ Below w.heap.size w w' := by
  go_enter Try.func11, Try.ntmps11
  go_wp2
  all_goals
    go_light
    go_ret
    exact ⟨ret_int (by simp [errI, okB, *] <;> simp_all <;> (intros; omega)), (Below.refl _ _).alloc (Nat.le_refl _) _⟩
set_option maxHeartbeats 2000000 in
theorem check_7 (a r h p : Int) (w : World) :
    Calls Try.prog 11 #[.agg #[.int .u8 7, .int .u8 a, .int .u8 r, .int .u32 h, .int .u64 p]] w fun e w' => e = .returned (.int .i64 (errI (okB 7 a r h p))) ∧ Below w.heap.size w w' := by
  go_enter Try.func11, Try.ntmps11
  go_wp2
  all_goals
    go_light
    go_ret
    exact ⟨ret_int (by simp [errI, okB, *] <;> simp_all <;> (intros; omega)), (Below.refl _ _).alloc (Nat.le_refl _) _⟩
set_option maxHeartbeats 2000000 in
theorem check_8 (a r h p : Int) (w : World) :
    Calls Try.prog 11 #[.agg #[.int .u8 8, .int .u8 a, .int .u8 r, .int .u32 h, .int .u64 p]] w fun e w' => e = .returned (.int .i64 (errI (okB 8 a r h p))) ∧ Below w.heap.size w w' := by
  go_enter Try.func11, Try.ntmps11
  go_wp2
  all_goals
    go_light
    go_ret
    exact ⟨ret_int (by simp [errI, okB, *] <;> simp_all <;> (intros; omega)), (Below.refl _ _).alloc (Nat.le_refl _) _⟩
set_option maxHeartbeats 2000000 in
theorem check_9 (a r h p : Int) (w : World) :
    Calls Try.prog 11 #[.agg #[.int .u8 9, .int .u8 a, .int .u8 r, .int .u32 h, .int .u64 p]] w fun e w' => e = .returned (.int .i64 (errI (okB 9 a r h p))) ∧ Below w.heap.size w w' := by
  go_enter Try.func11, Try.ntmps11
  go_wp2
  all_goals
    go_light
    go_ret
    exact ⟨ret_int (by simp [errI, okB, *] <;> simp_all <;> (intros; omega)), (Below.refl _ _).alloc (Nat.le_refl _) _⟩
set_option maxHeartbeats 2000000 in
theorem check_else (k a r h p : Int) (w : World) (h1 : k ≠ 1) (h2 : k ≠ 2) (h3 : k ≠ 3) (h4 : k ≠ 4) (h5 : k ≠ 5) (h6 : k ≠ 6) (h7 : k ≠ 7) (h8 : k ≠ 8) (h9 : k ≠ 9) :
    Calls Try.prog 11 #[.agg #[.int .u8 k, .int .u8 a, .int .u8 r, .int .u32 h, .int .u64 p]] w fun e w' => e = .returned (.int .i64 (errI (okB k a r h p))) ∧ Below w.heap.size w w' := by
  go_enter Try.func11, Try.ntmps11
  go_wp2
  all_goals
    go_light
    go_ret
    exact ⟨ret_int (by simp [errI, okB, *]), (Below.refl _ _).alloc (Nat.le_refl _) _⟩
theorem check_any (k a r h p : Int) (w : World) (hr0 : 0 ≤ r) :
    Calls Try.prog 11 #[.agg #[.int .u8 k, .int .u8 a, .int .u8 r, .int .u32 h, .int .u64 p]] w fun e w' => e = .returned (.int .i64 (errI (okB k a r h p))) ∧ Below w.heap.size w w' := by
  by_cases h1 : k = 1
  · subst h1; exact check_1 a r h p w hr0
  by_cases h2 : k = 2
  · subst h2; exact check_2 a r h p w
  by_cases h3 : k = 3
  · subst h3; exact check_3 a r h p w
  by_cases h4 : k = 4
  · subst h4; exact check_4 a r h p w
  by_cases h5 : k = 5
  · subst h5; exact check_5 a r h p w hr0
  by_cases h6 : k = 6
  · subst h6; exact check_6 a r h p w
  by_cases h7 : k = 7
  · subst h7; exact check_7 a r h p w
  by_cases h8 : k = 8
  · subst h8; exact check_8 a r h p w
  by_cases h9 : k = 9
  · subst h9; exact check_9 a r h p w
  exact check_else k a r h p w h1 h2 h3 h4 h5 h6 h7 h8 h9

end Go.Proofs.Ytmhkkdbfejajeaa
