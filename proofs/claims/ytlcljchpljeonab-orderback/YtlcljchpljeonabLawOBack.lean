/- PROVED: for all stamps and every budget the statement OrderBack returns true: stamps of one budget are in the order of their numbers, and are read of them (P7.7). No condition. -/
import Derived.Test.YtlcljchpljeonabRows
import Derived.Test.YtlcljchpljeonabORow
import Derived.Test.YtlcljchpljeonabOBackM
import Derived.Test.YtlcljchpljeonabORow
import Derived.ProofKit
import Derived.ShutString
import Derived.ChangeOld
import Derived.OpenShut
namespace Go.Proofs.Ytlcljchpljeonab.orderBack
open Go.ChangeShapes Go.WideShapes Go.ChangeAt Go.RowKit

theorem own : ownKnob Try.prog.godebug = none := by kernel_rfl
theorem laidOut : laidOutB Try.prog = true := by kernel_rfl

set_option maxRecDepth 100000 in
set_option maxHeartbeats 4000000 in
theorem bad1 (t s t' s' b x y r : Int) (w : World) (h1 : ∀ w, Calls Try.prog 4 #[stV t s, .int .i64 b] w fun e w' => e = .returned (.tuple #[.int .u64 x, .int .i64 70]) ∧ Below w.heap.size w w') (h2 : ∀ w, Calls Try.prog 4 #[stV t' s', .int .i64 b] w fun e w' => e = .returned (.tuple #[.int .u64 y, .int .i64 r]) ∧ Below w.heap.size w w') (g1 : ∀ w, Calls Try.prog 5 #[stV t s, .int .i64 b] w fun e w' => e = .returned (.tuple #[.int .u64 x, .int .i64 70]) ∧ Below w.heap.size w w') (g2 : ∀ w, Calls Try.prog 5 #[stV t' s', .int .i64 b] w fun e w' => e = .returned (.tuple #[.int .u64 y, .int .i64 r]) ∧ Below w.heap.size w w') :
    Calls Try.prog 3 #[stV t s, stV t' s', .int .i64 b] w fun e w' => e = .returned (.bool true) ∧ Below w.heap.size w w' := by
  go_enter Try.func3, Try.ntmps3
  go_wp2_with fail
  refine (h1 _).mono ?_
  rintro e w1 ⟨rfl, b1⟩
  have T1 := (two_new w _ _ _ _ _ _).below b1
  have hb1 : Below w.heap.size w w1 := Below.onto (((Below.refl _ w).alloc (Nat.le_refl _) _).alloc (by simp) _) b1
  clear b1
  obtain ⟨c0, c1, c2, c3, c4⟩ := T1
  go_wp2_with fail
  refine (h2 _).mono ?_
  rintro e w2 ⟨rfl, b2⟩
  have T2 := Two.below ⟨c0, c1, c2, c3, c4⟩ b2
  have hb2 := Below.onto hb1 b2
  clear b2 hb1 c0 c1 c2 c3 c4
  obtain ⟨c0, c1, c2, c3, c4⟩ := T2
  go_wp2_with fail
  refine (g1 _).mono ?_
  rintro e w3 ⟨rfl, b3⟩
  have T3 := Two.below ⟨c0, c1, c2, c3, c4⟩ b3
  have hb3 := Below.onto hb2 b3
  clear b3 hb2 c0 c1 c2 c3 c4
  obtain ⟨c0, c1, c2, c3, c4⟩ := T3
  go_wp2_with fail
  refine (g2 _).mono ?_
  rintro e w4 ⟨rfl, b4⟩
  have hb4 := Below.onto hb3 b4
  clear b4 hb3 c0 c1 c2 c3 c4
  go_wp2_with fail
  refine (oalive_any _).mono ?_
  rintro e w9 ⟨rfl, h9⟩
  go_wp2_with fail
  go_ret
  exact ⟨rfl, Below.onto hb4 h9⟩
set_option maxRecDepth 100000 in
set_option maxHeartbeats 4000000 in
theorem bad2 (t s t' s' b x y : Int) (w : World) (h1 : ∀ w, Calls Try.prog 4 #[stV t s, .int .i64 b] w fun e w' => e = .returned (.tuple #[.int .u64 x, .int .i64 0]) ∧ Below w.heap.size w w') (h2 : ∀ w, Calls Try.prog 4 #[stV t' s', .int .i64 b] w fun e w' => e = .returned (.tuple #[.int .u64 y, .int .i64 70]) ∧ Below w.heap.size w w') (g1 : ∀ w, Calls Try.prog 5 #[stV t s, .int .i64 b] w fun e w' => e = .returned (.tuple #[.int .u64 x, .int .i64 0]) ∧ Below w.heap.size w w') (g2 : ∀ w, Calls Try.prog 5 #[stV t' s', .int .i64 b] w fun e w' => e = .returned (.tuple #[.int .u64 y, .int .i64 70]) ∧ Below w.heap.size w w') :
    Calls Try.prog 3 #[stV t s, stV t' s', .int .i64 b] w fun e w' => e = .returned (.bool true) ∧ Below w.heap.size w w' := by
  go_enter Try.func3, Try.ntmps3
  go_wp2_with fail
  refine (h1 _).mono ?_
  rintro e w1 ⟨rfl, b1⟩
  have T1 := (two_new w _ _ _ _ _ _).below b1
  have hb1 : Below w.heap.size w w1 := Below.onto (((Below.refl _ w).alloc (Nat.le_refl _) _).alloc (by simp) _) b1
  clear b1
  obtain ⟨c0, c1, c2, c3, c4⟩ := T1
  go_wp2_with fail
  refine (h2 _).mono ?_
  rintro e w2 ⟨rfl, b2⟩
  have T2 := Two.below ⟨c0, c1, c2, c3, c4⟩ b2
  have hb2 := Below.onto hb1 b2
  clear b2 hb1 c0 c1 c2 c3 c4
  obtain ⟨c0, c1, c2, c3, c4⟩ := T2
  go_wp2_with fail
  refine (g1 _).mono ?_
  rintro e w3 ⟨rfl, b3⟩
  have T3 := Two.below ⟨c0, c1, c2, c3, c4⟩ b3
  have hb3 := Below.onto hb2 b3
  clear b3 hb2 c0 c1 c2 c3 c4
  obtain ⟨c0, c1, c2, c3, c4⟩ := T3
  go_wp2_with fail
  refine (g2 _).mono ?_
  rintro e w4 ⟨rfl, b4⟩
  have hb4 := Below.onto hb3 b4
  clear b4 hb3 c0 c1 c2 c3 c4
  go_wp2_with fail
  refine (oalive_any _).mono ?_
  rintro e w9 ⟨rfl, h9⟩
  go_wp2_with fail
  go_ret
  exact ⟨rfl, Below.onto hb4 h9⟩
set_option maxRecDepth 100000 in
set_option maxHeartbeats 4000000 in
theorem good1 (t s t' s' b x y : Int) (w : World) (h1 : ∀ w, Calls Try.prog 4 #[stV t s, .int .i64 b] w fun e w' => e = .returned (.tuple #[.int .u64 x, .int .i64 0]) ∧ Below w.heap.size w w') (h2 : ∀ w, Calls Try.prog 4 #[stV t' s', .int .i64 b] w fun e w' => e = .returned (.tuple #[.int .u64 y, .int .i64 0]) ∧ Below w.heap.size w w')
    (h3 : ∀ w, Calls Try.prog 7 #[.int .u64 x, .int .i64 b] w fun e w' => e = .returned (.tuple #[stV t s, .int .i64 0]) ∧ Below w.heap.size w w')
    (h4 : ∀ w, Calls Try.prog 8 #[stV t s, stV t' s'] w fun e w' => e = .returned (.int .i64 (-1)) ∧ Below w.heap.size w w') (hn : ¬ t = t') (hl : x < y) (hne : ¬ x = y) :
    Calls Try.prog 3 #[stV t s, stV t' s', .int .i64 b] w fun e w' => e = .returned (.bool true) ∧ Below w.heap.size w w' := by
  go_enter Try.func3, Try.ntmps3
  go_wp2_with fail
  refine (h1 _).mono ?_
  rintro e w1 ⟨rfl, b1⟩
  have T1 := (two_new w _ _ _ _ _ _).below b1
  have hb1 : Below w.heap.size w w1 := Below.onto (((Below.refl _ w).alloc (Nat.le_refl _) _).alloc (by simp) _) b1
  clear b1
  obtain ⟨c0, c1, c2, c3, c4⟩ := T1
  go_wp2_with fail
  refine (h2 _).mono ?_
  rintro e w2 ⟨rfl, b2⟩
  have T2 := Two.below ⟨c0, c1, c2, c3, c4⟩ b2
  have hb2 := Below.onto hb1 b2
  clear b2 hb1 c0 c1 c2 c3 c4
  obtain ⟨c0, c1, c2, c3, c4⟩ := T2
  go_wp2_with fail
  refine (h3 _).mono ?_
  rintro e w3 ⟨rfl, b3⟩
  have T3 := Two.below ⟨c0, c1, c2, c3, c4⟩ b3
  have hb3 := Below.onto hb2 b3
  clear b3 hb2 c0 c1 c2 c3 c4
  obtain ⟨c0, c1, c2, c3, c4⟩ := T3
  have z0 : w.heap.size < w3.heap.size := by omega
  go_wp2_with fail
  refine (h4 _).mono ?_
  rintro e w4 ⟨rfl, b4⟩
  have T4 := (Two.below ⟨c0, c1, c2, c3, c4⟩ ((Below.refl _ w3).alloc (Nat.le_refl _) (.cells #[.int .i64 t, .int .i64 s] 23))).below b4
  have hb4 := Below.onto (hb3.alloc hb3.size _) b4
  clear b4 hb3 c0 c1 c2 c3 c4 z0
  obtain ⟨c0, c1, c2, c3, c4⟩ := T4
  have z0 : w.heap.size < w4.heap.size := by omega
  go_wp2_with fail
  refine (oalive_any _).mono ?_
  rintro e w9 ⟨rfl, h9⟩
  go_wp2_with fail
  go_ret
  exact ⟨ret_bool (by simp [hne]), Below.onto hb4 h9⟩
set_option maxRecDepth 100000 in
set_option maxHeartbeats 4000000 in
theorem good2 (t s s' b x y : Int) (w : World) (h1 : ∀ w, Calls Try.prog 4 #[stV t s, .int .i64 b] w fun e w' => e = .returned (.tuple #[.int .u64 x, .int .i64 0]) ∧ Below w.heap.size w w') (h2 : ∀ w, Calls Try.prog 4 #[stV t s', .int .i64 b] w fun e w' => e = .returned (.tuple #[.int .u64 y, .int .i64 0]) ∧ Below w.heap.size w w')
    (h3 : ∀ w, Calls Try.prog 7 #[.int .u64 x, .int .i64 b] w fun e w' => e = .returned (.tuple #[stV t s, .int .i64 0]) ∧ Below w.heap.size w w')
    (h4 : ∀ w, Calls Try.prog 8 #[stV t s, stV t s'] w fun e w' => e = .returned (.int .i64 (-1)) ∧ Below w.heap.size w w') (hn : ¬ s = s') (hl : x < y) (hne : ¬ x = y) :
    Calls Try.prog 3 #[stV t s, stV t s', .int .i64 b] w fun e w' => e = .returned (.bool true) ∧ Below w.heap.size w w' := by
  go_enter Try.func3, Try.ntmps3
  go_wp2_with fail
  refine (h1 _).mono ?_
  rintro e w1 ⟨rfl, b1⟩
  have T1 := (two_new w _ _ _ _ _ _).below b1
  have hb1 : Below w.heap.size w w1 := Below.onto (((Below.refl _ w).alloc (Nat.le_refl _) _).alloc (by simp) _) b1
  clear b1
  obtain ⟨c0, c1, c2, c3, c4⟩ := T1
  go_wp2_with fail
  refine (h2 _).mono ?_
  rintro e w2 ⟨rfl, b2⟩
  have T2 := Two.below ⟨c0, c1, c2, c3, c4⟩ b2
  have hb2 := Below.onto hb1 b2
  clear b2 hb1 c0 c1 c2 c3 c4
  obtain ⟨c0, c1, c2, c3, c4⟩ := T2
  go_wp2_with fail
  refine (h3 _).mono ?_
  rintro e w3 ⟨rfl, b3⟩
  have T3 := Two.below ⟨c0, c1, c2, c3, c4⟩ b3
  have hb3 := Below.onto hb2 b3
  clear b3 hb2 c0 c1 c2 c3 c4
  obtain ⟨c0, c1, c2, c3, c4⟩ := T3
  have z0 : w.heap.size < w3.heap.size := by omega
  go_wp2_with fail
  refine (h4 _).mono ?_
  rintro e w4 ⟨rfl, b4⟩
  have T4 := (Two.below ⟨c0, c1, c2, c3, c4⟩ ((Below.refl _ w3).alloc (Nat.le_refl _) (.cells #[.int .i64 t, .int .i64 s] 23))).below b4
  have hb4 := Below.onto (hb3.alloc hb3.size _) b4
  clear b4 hb3 c0 c1 c2 c3 c4 z0
  obtain ⟨c0, c1, c2, c3, c4⟩ := T4
  have z0 : w.heap.size < w4.heap.size := by omega
  go_wp2_with fail
  refine (oalive_any _).mono ?_
  rintro e w9 ⟨rfl, h9⟩
  go_wp2_with fail
  go_ret
  exact ⟨ret_bool (by simp [hne]), Below.onto hb4 h9⟩
set_option maxRecDepth 100000 in
set_option maxHeartbeats 4000000 in
theorem good3 (t s b x : Int) (w : World) (h1 : ∀ w, Calls Try.prog 4 #[stV t s, .int .i64 b] w fun e w' => e = .returned (.tuple #[.int .u64 x, .int .i64 0]) ∧ Below w.heap.size w w') (h2 : ∀ w, Calls Try.prog 4 #[stV t s, .int .i64 b] w fun e w' => e = .returned (.tuple #[.int .u64 x, .int .i64 0]) ∧ Below w.heap.size w w')
    (h3 : ∀ w, Calls Try.prog 7 #[.int .u64 x, .int .i64 b] w fun e w' => e = .returned (.tuple #[stV t s, .int .i64 0]) ∧ Below w.heap.size w w')
    (h4 : ∀ w, Calls Try.prog 8 #[stV t s, stV t s] w fun e w' => e = .returned (.int .i64 0) ∧ Below w.heap.size w w') :
    Calls Try.prog 3 #[stV t s, stV t s, .int .i64 b] w fun e w' => e = .returned (.bool true) ∧ Below w.heap.size w w' := by
  go_enter Try.func3, Try.ntmps3
  go_wp2_with fail
  refine (h1 _).mono ?_
  rintro e w1 ⟨rfl, b1⟩
  have T1 := (two_new w _ _ _ _ _ _).below b1
  have hb1 : Below w.heap.size w w1 := Below.onto (((Below.refl _ w).alloc (Nat.le_refl _) _).alloc (by simp) _) b1
  clear b1
  obtain ⟨c0, c1, c2, c3, c4⟩ := T1
  go_wp2_with fail
  refine (h2 _).mono ?_
  rintro e w2 ⟨rfl, b2⟩
  have T2 := Two.below ⟨c0, c1, c2, c3, c4⟩ b2
  have hb2 := Below.onto hb1 b2
  clear b2 hb1 c0 c1 c2 c3 c4
  obtain ⟨c0, c1, c2, c3, c4⟩ := T2
  go_wp2_with fail
  refine (h3 _).mono ?_
  rintro e w3 ⟨rfl, b3⟩
  have T3 := Two.below ⟨c0, c1, c2, c3, c4⟩ b3
  have hb3 := Below.onto hb2 b3
  clear b3 hb2 c0 c1 c2 c3 c4
  obtain ⟨c0, c1, c2, c3, c4⟩ := T3
  have z0 : w.heap.size < w3.heap.size := by omega
  go_wp2_with fail
  refine (h4 _).mono ?_
  rintro e w4 ⟨rfl, b4⟩
  have T4 := (Two.below ⟨c0, c1, c2, c3, c4⟩ ((Below.refl _ w3).alloc (Nat.le_refl _) (.cells #[.int .i64 t, .int .i64 s] 23))).below b4
  have hb4 := Below.onto (hb3.alloc hb3.size _) b4
  clear b4 hb3 c0 c1 c2 c3 c4 z0
  obtain ⟨c0, c1, c2, c3, c4⟩ := T4
  have z0 : w.heap.size < w4.heap.size := by omega
  go_wp2_with fail
  refine (oalive_any _).mono ?_
  rintro e w9 ⟨rfl, h9⟩
  go_wp2_with fail
  go_ret
  exact ⟨rfl, Below.onto hb4 h9⟩
set_option maxRecDepth 100000 in
set_option maxHeartbeats 4000000 in
theorem good4 (t s s' b x y : Int) (w : World) (h1 : ∀ w, Calls Try.prog 4 #[stV t s, .int .i64 b] w fun e w' => e = .returned (.tuple #[.int .u64 x, .int .i64 0]) ∧ Below w.heap.size w w') (h2 : ∀ w, Calls Try.prog 4 #[stV t s', .int .i64 b] w fun e w' => e = .returned (.tuple #[.int .u64 y, .int .i64 0]) ∧ Below w.heap.size w w')
    (h3 : ∀ w, Calls Try.prog 7 #[.int .u64 x, .int .i64 b] w fun e w' => e = .returned (.tuple #[stV t s, .int .i64 0]) ∧ Below w.heap.size w w')
    (h4 : ∀ w, Calls Try.prog 8 #[stV t s, stV t s'] w fun e w' => e = .returned (.int .i64 1) ∧ Below w.heap.size w w') (hn : ¬ s = s') (hl : ¬ x < y) (hne : ¬ x = y) :
    Calls Try.prog 3 #[stV t s, stV t s', .int .i64 b] w fun e w' => e = .returned (.bool true) ∧ Below w.heap.size w w' := by
  go_enter Try.func3, Try.ntmps3
  go_wp2_with fail
  refine (h1 _).mono ?_
  rintro e w1 ⟨rfl, b1⟩
  have T1 := (two_new w _ _ _ _ _ _).below b1
  have hb1 : Below w.heap.size w w1 := Below.onto (((Below.refl _ w).alloc (Nat.le_refl _) _).alloc (by simp) _) b1
  clear b1
  obtain ⟨c0, c1, c2, c3, c4⟩ := T1
  go_wp2_with fail
  refine (h2 _).mono ?_
  rintro e w2 ⟨rfl, b2⟩
  have T2 := Two.below ⟨c0, c1, c2, c3, c4⟩ b2
  have hb2 := Below.onto hb1 b2
  clear b2 hb1 c0 c1 c2 c3 c4
  obtain ⟨c0, c1, c2, c3, c4⟩ := T2
  go_wp2_with fail
  refine (h3 _).mono ?_
  rintro e w3 ⟨rfl, b3⟩
  have T3 := Two.below ⟨c0, c1, c2, c3, c4⟩ b3
  have hb3 := Below.onto hb2 b3
  clear b3 hb2 c0 c1 c2 c3 c4
  obtain ⟨c0, c1, c2, c3, c4⟩ := T3
  have z0 : w.heap.size < w3.heap.size := by omega
  go_wp2_with fail
  refine (h4 _).mono ?_
  rintro e w4 ⟨rfl, b4⟩
  have T4 := (Two.below ⟨c0, c1, c2, c3, c4⟩ ((Below.refl _ w3).alloc (Nat.le_refl _) (.cells #[.int .i64 t, .int .i64 s] 23))).below b4
  have hb4 := Below.onto (hb3.alloc hb3.size _) b4
  clear b4 hb3 c0 c1 c2 c3 c4 z0
  obtain ⟨c0, c1, c2, c3, c4⟩ := T4
  have z0 : w.heap.size < w4.heap.size := by omega
  go_wp2_with fail
  refine (oalive_any _).mono ?_
  rintro e w9 ⟨rfl, h9⟩
  go_wp2_with fail
  go_ret
  exact ⟨ret_bool (by simp [hne]; exact hl), Below.onto hb4 h9⟩
set_option maxRecDepth 100000 in
set_option maxHeartbeats 4000000 in
theorem good5 (t s t' s' b x y : Int) (w : World) (h1 : ∀ w, Calls Try.prog 4 #[stV t s, .int .i64 b] w fun e w' => e = .returned (.tuple #[.int .u64 x, .int .i64 0]) ∧ Below w.heap.size w w') (h2 : ∀ w, Calls Try.prog 4 #[stV t' s', .int .i64 b] w fun e w' => e = .returned (.tuple #[.int .u64 y, .int .i64 0]) ∧ Below w.heap.size w w')
    (h3 : ∀ w, Calls Try.prog 7 #[.int .u64 x, .int .i64 b] w fun e w' => e = .returned (.tuple #[stV t s, .int .i64 0]) ∧ Below w.heap.size w w')
    (h4 : ∀ w, Calls Try.prog 8 #[stV t s, stV t' s'] w fun e w' => e = .returned (.int .i64 1) ∧ Below w.heap.size w w') (hn : ¬ t = t') (hl : ¬ x < y) (hne : ¬ x = y) :
    Calls Try.prog 3 #[stV t s, stV t' s', .int .i64 b] w fun e w' => e = .returned (.bool true) ∧ Below w.heap.size w w' := by
  go_enter Try.func3, Try.ntmps3
  go_wp2_with fail
  refine (h1 _).mono ?_
  rintro e w1 ⟨rfl, b1⟩
  have T1 := (two_new w _ _ _ _ _ _).below b1
  have hb1 : Below w.heap.size w w1 := Below.onto (((Below.refl _ w).alloc (Nat.le_refl _) _).alloc (by simp) _) b1
  clear b1
  obtain ⟨c0, c1, c2, c3, c4⟩ := T1
  go_wp2_with fail
  refine (h2 _).mono ?_
  rintro e w2 ⟨rfl, b2⟩
  have T2 := Two.below ⟨c0, c1, c2, c3, c4⟩ b2
  have hb2 := Below.onto hb1 b2
  clear b2 hb1 c0 c1 c2 c3 c4
  obtain ⟨c0, c1, c2, c3, c4⟩ := T2
  go_wp2_with fail
  refine (h3 _).mono ?_
  rintro e w3 ⟨rfl, b3⟩
  have T3 := Two.below ⟨c0, c1, c2, c3, c4⟩ b3
  have hb3 := Below.onto hb2 b3
  clear b3 hb2 c0 c1 c2 c3 c4
  obtain ⟨c0, c1, c2, c3, c4⟩ := T3
  have z0 : w.heap.size < w3.heap.size := by omega
  go_wp2_with fail
  refine (h4 _).mono ?_
  rintro e w4 ⟨rfl, b4⟩
  have T4 := (Two.below ⟨c0, c1, c2, c3, c4⟩ ((Below.refl _ w3).alloc (Nat.le_refl _) (.cells #[.int .i64 t, .int .i64 s] 23))).below b4
  have hb4 := Below.onto (hb3.alloc hb3.size _) b4
  clear b4 hb3 c0 c1 c2 c3 c4 z0
  obtain ⟨c0, c1, c2, c3, c4⟩ := T4
  have z0 : w.heap.size < w4.heap.size := by omega
  go_wp2_with fail
  refine (oalive_any _).mono ?_
  rintro e w9 ⟨rfl, h9⟩
  go_wp2_with fail
  go_ret
  exact ⟨ret_bool (by simp [hne]; exact hl), Below.onto hb4 h9⟩
set_option maxRecDepth 100000 in
set_option maxHeartbeats 4000000 in
theorem walk (t s t' s' b : Int) (w : World) :
    Calls Try.prog 3 #[stV t s, stV t' s', .int .i64 b] w fun e w' => e = .returned (.bool true) ∧ Below w.heap.size w w' := by
  have h1 := fun w => number_any t s b w
  have h2 := fun w => number_any t' s' b w
  have g1 := fun w => rnumber_any t s b w
  have g2 := fun w => rnumber_any t' s' b w
  cases hx : numB t s b
  · have e1 : errNu t s b = 70 := by simp [errNu, hx]
    rw [e1] at h1 g1
    exact bad1 t s t' s' b _ _ _ w h1 h2 g1 g2
  cases hy : numB t' s' b
  · have e1 : errNu t s b = 0 := by simp [errNu, hx]
    have e2 : errNu t' s' b = 70 := by simp [errNu, hy]
    rw [e1] at h1 g1
    rw [e2] at h2 g2
    exact bad2 t s t' s' b _ _ w h1 h2 g1 g2
  clear g1 g2
  obtain ⟨hA, e1, _⟩ := num_facts hx
  obtain ⟨_, e2, _⟩ := num_facts hy
  have h3 := fun w => stamp_any (numI t s b) b w hA.1 hA.2
  rw [(back_facts hx).1, (back_facts hx).2.1, (back_facts hx).2.2] at h3
  rw [e1] at h1
  rw [e2] at h2
  have h4 := fun w => cmp_any t s t' s' w
  rcases Int.lt_trichotomy t t' with h | rfl | h
  · have hl := num_lt hx hy (Or.inl h)
    rw [cmpI_lt (Or.inl h)] at h4
    exact good1 t s t' s' b _ _ w h1 h2 h3 h4 (by omega) hl (by omega)
  · rcases Int.lt_trichotomy s s' with h | rfl | h
    · have hl := num_lt hx hy (Or.inr ⟨rfl, h⟩)
      rw [cmpI_lt (Or.inr ⟨rfl, h⟩)] at h4
      exact good2 t s s' b _ _ w h1 h2 h3 h4 (by omega) hl (by omega)
    · rw [cmpI_eq] at h4
      exact good3 t s b _ w h1 h2 h3 h4
    · have hl := num_lt hy hx (Or.inr ⟨rfl, h⟩)
      rw [cmpI_gt (Or.inr ⟨rfl, h⟩)] at h4
      exact good4 t s s' b _ _ w h1 h2 h3 h4 (by omega) (by omega) (by omega)
  · have hl := num_lt hy hx (Or.inl h)
    rw [cmpI_gt (Or.inl h)] at h4
    exact good5 t s t' s' b _ _ w h1 h2 h3 h4 (by omega) (by omega) (by omega)

set_option maxRecDepth 100000 in
theorem lifted (os : Os) (started : os.Started) (H : Type) (enc : TypeId × Value → H) :
    ReturnsInHanded {} Try.checked os 3 .any (Rows.orderBackSpec.pre6 enc Try.prog Try.f3 Rows.orderBackRow.domain false) (Rows.orderBackSpec.post enc Try.prog Try.f3 false true false false) := by
  refine returnsInHanded_of_change (C := Try.checked) own started (by kernel_rfl) Try.func3
    (ChangeSpec.witness6 (enc := enc) (C := Try.checked) false ⟨#[], #[.agg #[.int .i64 0, .int .i64 0], .agg #[.int .i64 0, .int .i64 0], .int .i64 0], []⟩ 8 (by kernel_rfl) (by kernel_rfl) (by kernel_rfl) (by kernel_rfl)) ?_
  intro W base args ds gs before hval0 hW hcnd _
  have hval : ∀ (j : Nat) t v, Try.f3.params[j]? = some t → args[j]? = some v → Value.okWide Try.prog W .any base t v := hval0
  have hW' := hW
  obtain ⟨p, q, hA0, hV, rfl, hfz, hnd⟩ := hW
  have hA : DataW.TrodAll enc Try.prog W 0 (fun _ => true) true Try.f3.params.toList args.toList ds p := hA0
  rw [Try.params3] at hA hval
  obtain ⟨v0, vs0, d0, ds0, p0, q0, hargs, rfl, rfl, h0, r0⟩ := trodAll_cons hA
  obtain ⟨v1, vs1, d1, ds1, p1, q1, rfl, rfl, rfl, h1, r1⟩ := trodAll_cons r0
  obtain ⟨v2, vs2, d2, ds2, p2, q2, rfl, rfl, rfl, h2, r2⟩ := trodAll_cons r1
  obtain ⟨rfl, rfl, rfl⟩ := trodAll_nil r2
  obtain rfl : args = #[v0, v1, v2] := by cases args; simp_all
  obtain ⟨rfl, rfl⟩ := trodVars_none hV
  have k0 := h0
  have lt0 : ∀ x ∈ p0, x.block < W.heap.size := by obtain ⟨m, hm⟩ := k0; exact DataW.trod_lt m _ _ _ hm
  obtain ⟨t, s, rfl, w0⟩ := open_st (hval 0 23 v0 rfl rfl) h0
  have k1 := h1
  have lt1 : ∀ x ∈ p1, x.block < W.heap.size := by obtain ⟨m, hm⟩ := k1; exact DataW.trod_lt m _ _ _ hm
  obtain ⟨t', s', rfl, w1⟩ := open_st (hval 1 23 v1 rfl rfl) h1
  obtain ⟨a2, rfl, rfl, rfl, w2⟩ := open_int Try.underlying3 (hval 2 3 v2 rfl rfl) h2
  clear hA0 hval0
  refine (walk t s t' s' a2 W).mono fun e W' ⟨he, bel⟩ => ?_
  subst he
  exact ⟨_, rfl, _, _, _, [], _, [], hW', trodAll_mk1 (shut_bool Try.underlying4 _), (trodAll_cons_mk (Below.trod laidOut (by kernel_rfl) (of_decide_eq_true (by kernel_rfl)) k0 bel lt0) (trodAll_cons_mk (Below.trod laidOut (by kernel_rfl) (of_decide_eq_true (by kernel_rfl)) k1 bel lt1) (trodAll_cons_mk (shut_int Try.underlying3 w2) trodAll_mk0))), rfl, bel.frame _, fun h => by cases h⟩

end Go.Proofs.Ytlcljchpljeonab.orderBack
namespace Go.Proofs.Ytlcljchpljeonab

/-- The statement OrderBack. -/
theorem OrderBackHolds : Rows.OrderBackSaid :=
  OpenClaim.holds_of_wide 3 Try.f3 rfl rfl rfl rfl rfl rfl rfl ⟨rfl, rfl, rfl, rfl, rfl⟩ rfl rfl rfl rfl rfl (by kernel_rfl) Try.func3 (by kernel_rfl)
    (of_decide_eq_true (by kernel_rfl)) (by unfold Func.isWrapper; first | (rw [if_pos (by decide +kernel)]; kernel_rfl) | (rw [if_neg (by decide +kernel)]; exact ⟨rfl, rfl⟩))
    (fun os started H enc _ => orderBack.lifted os started H enc)

end Go.Proofs.Ytlcljchpljeonab
