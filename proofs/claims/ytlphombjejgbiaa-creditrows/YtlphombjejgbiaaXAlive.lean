/- The laws' head: the example. -/
import Derived.Test.YtlphombjejgbiaaXRefS
import Derived.Test.YtlphombjejgbiaaXRefB
import Derived.Test.YtlphombjejgbiaaXRefR
namespace Go.Proofs.Ytlphombjejgbiaa
open Go.RowKit Go.Sort Go.Shelf
set_option maxRecDepth 100000

set_option maxHeartbeats 8000000 in
theorem xalive_any (w : World) : Calls Try.prog 19 #[] w fun e w' => e = .returned (.bool true) ∧ Below w.heap.size w w' := by
  have h0 : ∀ W, Calls Try.prog 46 #[.int .i64 2] W fun e w' => e = .returned (.tuple #[acV ⟨2, 0, 0⟩, .int .i64 0]) ∧ Below W.heap.size W w' := fun W => xopen_any 2 W
  have h1 : ∀ W, Calls Try.prog 47 #[acV ⟨2, 0, 0⟩] W fun e w' => e = .returned (.tuple #[acV ⟨2, 1, 0⟩, .int .i64 0]) ∧ Below W.heap.size W w' := fun W => xspend_any ⟨2, 0, 0⟩ W
  have h2 : ∀ W, Calls Try.prog 47 #[acV ⟨2, 1, 0⟩] W fun e w' => e = .returned (.tuple #[acV ⟨2, 2, 0⟩, .int .i64 0]) ∧ Below W.heap.size W w' := fun W => xspend_any ⟨2, 1, 0⟩ W
  have h3 : ∀ W, Calls Try.prog 47 #[acV ⟨2, 2, 0⟩] W fun e w' => e = .returned (.tuple #[acV ac0, .int .i64 130]) ∧ Below W.heap.size W w' := fun W => xspend_any ⟨2, 2, 0⟩ W
  have h4 : ∀ W, Calls Try.prog 48 #[acV ⟨2, 2, 0⟩] W fun e w' => e = .returned (.tuple #[acV ⟨2, 0, 1⟩, .int .i64 0]) ∧ Below W.heap.size W w' := fun W => xreset_any ⟨2, 2, 0⟩ W
  have h5 : ∀ W, Calls Try.prog 49 #[acV ⟨2, 0, 1⟩, .int .i64 0] W fun e w' => e = .returned (.tuple #[acV ⟨2, 0, 1⟩, .int .i64 0]) ∧ Below W.heap.size W w' := fun W => xback_any ⟨2, 0, 1⟩ 0 W
  have h6 : ∀ W, Calls Try.prog 50 #[acV ⟨2, 0, 1⟩] W fun e w' => e = .returned (.int .i64 2) ∧ Below W.heap.size W w' := fun W => xLeft_any ⟨2, 0, 1⟩ W
  have BW : Hid (Below w.heap.size w w) := Below.refl _ _
  go_enter Try.func19, Try.ntmps19
  go_wp2_with fail
  refine (h0 _).mono ?_
  rintro e w1 ⟨rfl, hb⟩
  have BW : Hid (Below w.heap.size w w1) := Below.onto BW.out hb
  clear hb
  have K1 : Hid (Bx (w1.alloc (.cells #[.int .i64 ((⟨2, 0, 0⟩ : Ac)).rm, .int .i64 ((⟨2, 0, 0⟩ : Ac)).sp, .int .i64 ((⟨2, 0, 0⟩ : Ac)).ep] 90)) w1.heap.size (acL ((⟨2, 0, 0⟩ : Ac)))) := bx_new w1 (acL ((⟨2, 0, 0⟩ : Ac))) _
  have B9 : Hid (Below w1.heap.size w1 (w1.alloc (.cells #[.int .i64 ((⟨2, 0, 0⟩ : Ac)).rm, .int .i64 ((⟨2, 0, 0⟩ : Ac)).sp, .int .i64 ((⟨2, 0, 0⟩ : Ac)).ep] 90))) := below_new _ _
  go_wp2_with fail
  generalize w1.alloc (.cells #[.int .i64 ((⟨2, 0, 0⟩ : Ac)).rm, .int .i64 ((⟨2, 0, 0⟩ : Ac)).sp, .int .i64 ((⟨2, 0, 0⟩ : Ac)).ep] 90) = w2 at *
  have BW : Hid (Below w.heap.size w w2) := Below.onto BW.out B9.out
  clear B9
  refine (h1 _).mono ?_
  rintro e w3 ⟨rfl, hb⟩
  have K1 : Hid (Bx w3 _ _) := K1.out.below hb
  have BW : Hid (Below w.heap.size w w3) := Below.onto BW.out hb
  clear hb
  obtain ⟨k1_0, k1_1, k1_2⟩ := acc_three K1.out
  have k1_l := cell_lt k1_0
  have K2 : Hid (Bx (w3.alloc (.cells #[.int .i64 ((⟨2, 1, 0⟩ : Ac)).rm, .int .i64 ((⟨2, 1, 0⟩ : Ac)).sp, .int .i64 ((⟨2, 1, 0⟩ : Ac)).ep] 90)) w3.heap.size (acL ((⟨2, 1, 0⟩ : Ac)))) := bx_new w3 (acL ((⟨2, 1, 0⟩ : Ac))) _
  have B9 : Hid (Below w3.heap.size w3 (w3.alloc (.cells #[.int .i64 ((⟨2, 1, 0⟩ : Ac)).rm, .int .i64 ((⟨2, 1, 0⟩ : Ac)).sp, .int .i64 ((⟨2, 1, 0⟩ : Ac)).ep] 90))) := below_new _ _
  go_wp2_with fail
  clear k1_0 k1_1 k1_2 k1_l
  generalize w3.alloc (.cells #[.int .i64 ((⟨2, 1, 0⟩ : Ac)).rm, .int .i64 ((⟨2, 1, 0⟩ : Ac)).sp, .int .i64 ((⟨2, 1, 0⟩ : Ac)).ep] 90) = w4 at *
  have K1 : Hid (Bx w4 _ _) := K1.out.below B9.out
  have BW : Hid (Below w.heap.size w w4) := Below.onto BW.out B9.out
  clear B9
  refine (h2 _).mono ?_
  rintro e w5 ⟨rfl, hb⟩
  have K1 : Hid (Bx w5 _ _) := K1.out.below hb
  have K2 : Hid (Bx w5 _ _) := K2.out.below hb
  have BW : Hid (Below w.heap.size w w5) := Below.onto BW.out hb
  clear hb
  obtain ⟨k1_0, k1_1, k1_2⟩ := acc_three K1.out
  have k1_l := cell_lt k1_0
  obtain ⟨k2_0, k2_1, k2_2⟩ := acc_three K2.out
  have k2_l := cell_lt k2_0
  have K3 : Hid (Bx (w5.alloc (.cells #[.int .i64 ((⟨2, 2, 0⟩ : Ac)).rm, .int .i64 ((⟨2, 2, 0⟩ : Ac)).sp, .int .i64 ((⟨2, 2, 0⟩ : Ac)).ep] 90)) w5.heap.size (acL ((⟨2, 2, 0⟩ : Ac)))) := bx_new w5 (acL ((⟨2, 2, 0⟩ : Ac))) _
  have B9 : Hid (Below w5.heap.size w5 (w5.alloc (.cells #[.int .i64 ((⟨2, 2, 0⟩ : Ac)).rm, .int .i64 ((⟨2, 2, 0⟩ : Ac)).sp, .int .i64 ((⟨2, 2, 0⟩ : Ac)).ep] 90))) := below_new _ _
  go_wp2_with fail
  clear k1_0 k1_1 k1_2 k1_l k2_0 k2_1 k2_2 k2_l
  generalize w5.alloc (.cells #[.int .i64 ((⟨2, 2, 0⟩ : Ac)).rm, .int .i64 ((⟨2, 2, 0⟩ : Ac)).sp, .int .i64 ((⟨2, 2, 0⟩ : Ac)).ep] 90) = w6 at *
  have K1 : Hid (Bx w6 _ _) := K1.out.below B9.out
  have K2 : Hid (Bx w6 _ _) := K2.out.below B9.out
  have BW : Hid (Below w.heap.size w w6) := Below.onto BW.out B9.out
  clear B9
  refine (h3 _).mono ?_
  rintro e w7 ⟨rfl, hb⟩
  have K1 : Hid (Bx w7 _ _) := K1.out.below hb
  have K2 : Hid (Bx w7 _ _) := K2.out.below hb
  have K3 : Hid (Bx w7 _ _) := K3.out.below hb
  have BW : Hid (Below w.heap.size w w7) := Below.onto BW.out hb
  clear hb
  obtain ⟨k1_0, k1_1, k1_2⟩ := acc_three K1.out
  have k1_l := cell_lt k1_0
  obtain ⟨k2_0, k2_1, k2_2⟩ := acc_three K2.out
  have k2_l := cell_lt k2_0
  obtain ⟨k3_0, k3_1, k3_2⟩ := acc_three K3.out
  have k3_l := cell_lt k3_0
  have K4 : Hid (Bx (w7.alloc (.cells #[.int .i64 (ac0).rm, .int .i64 (ac0).sp, .int .i64 (ac0).ep] 90)) w7.heap.size (acL (ac0))) := bx_new w7 (acL (ac0)) _
  have B9 : Hid (Below w7.heap.size w7 (w7.alloc (.cells #[.int .i64 (ac0).rm, .int .i64 (ac0).sp, .int .i64 (ac0).ep] 90))) := below_new _ _
  go_wp2_with fail
  clear k1_0 k1_1 k1_2 k1_l k2_0 k2_1 k2_2 k2_l k3_0 k3_1 k3_2 k3_l
  generalize w7.alloc (.cells #[.int .i64 (ac0).rm, .int .i64 (ac0).sp, .int .i64 (ac0).ep] 90) = w8 at *
  have K1 : Hid (Bx w8 _ _) := K1.out.below B9.out
  have K2 : Hid (Bx w8 _ _) := K2.out.below B9.out
  have K3 : Hid (Bx w8 _ _) := K3.out.below B9.out
  have BW : Hid (Below w.heap.size w w8) := Below.onto BW.out B9.out
  clear B9
  refine (h4 _).mono ?_
  rintro e w9 ⟨rfl, hb⟩
  have K1 : Hid (Bx w9 _ _) := K1.out.below hb
  have K2 : Hid (Bx w9 _ _) := K2.out.below hb
  have K3 : Hid (Bx w9 _ _) := K3.out.below hb
  have K4 : Hid (Bx w9 _ _) := K4.out.below hb
  have BW : Hid (Below w.heap.size w w9) := Below.onto BW.out hb
  clear hb
  obtain ⟨k1_0, k1_1, k1_2⟩ := acc_three K1.out
  have k1_l := cell_lt k1_0
  obtain ⟨k2_0, k2_1, k2_2⟩ := acc_three K2.out
  have k2_l := cell_lt k2_0
  obtain ⟨k3_0, k3_1, k3_2⟩ := acc_three K3.out
  have k3_l := cell_lt k3_0
  obtain ⟨k4_0, k4_1, k4_2⟩ := acc_three K4.out
  have k4_l := cell_lt k4_0
  have K5 : Hid (Bx (w9.alloc (.cells #[.int .i64 ((⟨2, 0, 1⟩ : Ac)).rm, .int .i64 ((⟨2, 0, 1⟩ : Ac)).sp, .int .i64 ((⟨2, 0, 1⟩ : Ac)).ep] 90)) w9.heap.size (acL ((⟨2, 0, 1⟩ : Ac)))) := bx_new w9 (acL ((⟨2, 0, 1⟩ : Ac))) _
  have B9 : Hid (Below w9.heap.size w9 (w9.alloc (.cells #[.int .i64 ((⟨2, 0, 1⟩ : Ac)).rm, .int .i64 ((⟨2, 0, 1⟩ : Ac)).sp, .int .i64 ((⟨2, 0, 1⟩ : Ac)).ep] 90))) := below_new _ _
  go_wp2_with fail
  clear k1_0 k1_1 k1_2 k1_l k2_0 k2_1 k2_2 k2_l k3_0 k3_1 k3_2 k3_l k4_0 k4_1 k4_2 k4_l
  generalize w9.alloc (.cells #[.int .i64 ((⟨2, 0, 1⟩ : Ac)).rm, .int .i64 ((⟨2, 0, 1⟩ : Ac)).sp, .int .i64 ((⟨2, 0, 1⟩ : Ac)).ep] 90) = w10 at *
  have K1 : Hid (Bx w10 _ _) := K1.out.below B9.out
  have K2 : Hid (Bx w10 _ _) := K2.out.below B9.out
  have K3 : Hid (Bx w10 _ _) := K3.out.below B9.out
  have K4 : Hid (Bx w10 _ _) := K4.out.below B9.out
  have BW : Hid (Below w.heap.size w w10) := Below.onto BW.out B9.out
  clear B9
  refine (h5 _).mono ?_
  rintro e w11 ⟨rfl, hb⟩
  have K1 : Hid (Bx w11 _ _) := K1.out.below hb
  have K2 : Hid (Bx w11 _ _) := K2.out.below hb
  have K3 : Hid (Bx w11 _ _) := K3.out.below hb
  have K4 : Hid (Bx w11 _ _) := K4.out.below hb
  have K5 : Hid (Bx w11 _ _) := K5.out.below hb
  have BW : Hid (Below w.heap.size w w11) := Below.onto BW.out hb
  clear hb
  obtain ⟨k1_0, k1_1, k1_2⟩ := acc_three K1.out
  have k1_l := cell_lt k1_0
  obtain ⟨k2_0, k2_1, k2_2⟩ := acc_three K2.out
  have k2_l := cell_lt k2_0
  obtain ⟨k3_0, k3_1, k3_2⟩ := acc_three K3.out
  have k3_l := cell_lt k3_0
  obtain ⟨k4_0, k4_1, k4_2⟩ := acc_three K4.out
  have k4_l := cell_lt k4_0
  obtain ⟨k5_0, k5_1, k5_2⟩ := acc_three K5.out
  have k5_l := cell_lt k5_0
  have K6 : Hid (Bx (w11.alloc (.cells #[.int .i64 ((⟨2, 0, 1⟩ : Ac)).rm, .int .i64 ((⟨2, 0, 1⟩ : Ac)).sp, .int .i64 ((⟨2, 0, 1⟩ : Ac)).ep] 90)) w11.heap.size (acL ((⟨2, 0, 1⟩ : Ac)))) := bx_new w11 (acL ((⟨2, 0, 1⟩ : Ac))) _
  have B9 : Hid (Below w11.heap.size w11 (w11.alloc (.cells #[.int .i64 ((⟨2, 0, 1⟩ : Ac)).rm, .int .i64 ((⟨2, 0, 1⟩ : Ac)).sp, .int .i64 ((⟨2, 0, 1⟩ : Ac)).ep] 90))) := below_new _ _
  go_wp2_with fail
  clear k1_0 k1_1 k1_2 k1_l k2_0 k2_1 k2_2 k2_l k3_0 k3_1 k3_2 k3_l k4_0 k4_1 k4_2 k4_l k5_0 k5_1 k5_2 k5_l
  generalize w11.alloc (.cells #[.int .i64 ((⟨2, 0, 1⟩ : Ac)).rm, .int .i64 ((⟨2, 0, 1⟩ : Ac)).sp, .int .i64 ((⟨2, 0, 1⟩ : Ac)).ep] 90) = w12 at *
  have K1 : Hid (Bx w12 _ _) := K1.out.below B9.out
  have K2 : Hid (Bx w12 _ _) := K2.out.below B9.out
  have K3 : Hid (Bx w12 _ _) := K3.out.below B9.out
  have K4 : Hid (Bx w12 _ _) := K4.out.below B9.out
  have K5 : Hid (Bx w12 _ _) := K5.out.below B9.out
  have BW : Hid (Below w.heap.size w w12) := Below.onto BW.out B9.out
  clear B9
  refine (h6 _).mono ?_
  rintro e w13 ⟨rfl, hb⟩
  have K1 : Hid (Bx w13 _ _) := K1.out.below hb
  have K2 : Hid (Bx w13 _ _) := K2.out.below hb
  have K3 : Hid (Bx w13 _ _) := K3.out.below hb
  have K4 : Hid (Bx w13 _ _) := K4.out.below hb
  have K5 : Hid (Bx w13 _ _) := K5.out.below hb
  have K6 : Hid (Bx w13 _ _) := K6.out.below hb
  have BW : Hid (Below w.heap.size w w13) := Below.onto BW.out hb
  clear hb
  go_wp2_with fail
  go_ret
  exact ⟨rfl, BW.out⟩
end Go.Proofs.Ytlphombjejgbiaa
