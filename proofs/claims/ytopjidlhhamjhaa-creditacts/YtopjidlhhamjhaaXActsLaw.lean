/- CreditActs, walked. -/
import Derived.Test.YtopjidlhhamjhaaXAlive
namespace Go.Proofs.Ytopjidlhhamjhaa
open Go.RowKit Go.Sort Go.Shelf
set_option maxRecDepth 100000

set_option maxHeartbeats 8000000 in
theorem xacts_any (c : Ac) (r t : Int) (w : World) : Calls Try.prog 8 #[acV c, .int .i64 r, .int .i64 t] w fun e w' => e = .returned (.bool true) ∧ Below w.heap.size w w' := by
  have hA := fun W => xopen_any r W
  have hA' := fun W => xropen_any r W
  have hS := fun W => xspend_any c W
  have hS' := fun W => xrspend_any c W
  have hB := fun W => xback_any c t W
  have hB' := fun W => xrback_any c t W
  have hR := fun W => xreset_any c W
  have hR' := fun W => xrreset_any c W
  have hC := fun W => xcheck_any c W
  have hI := fun W => xris_any c W
  have hL := fun W => xLeft_any c W
  have hL' := fun W => xrLeft_any c W
  have hO := fun W => xalive_any W
  unfold ckE at hC
  generalize okA c = ok at *
  obtain ⟨E0, hE0⟩ : ∃ E0 : Int, (if ok = true then (0 : Int) else 131) = E0 := ⟨_, rfl⟩
  rw [hE0] at hC
  have hE1 : (E0 == 0) = ok := by rw [← hE0]; cases ok <;> rfl
  clear hE0
  generalize opA r = A1, opE r = E1 at *
  generalize spA c = A2, spE c = E2 at *
  generalize bkA t c = A3, bkE t c = E3 at *
  generalize rsA c = A4, rsE c = E4 at *
  generalize lfI c = E5 at *
  have BW : Hid (Below w.heap.size w w) := Below.refl _ _
  go_enter Try.func8, Try.ntmps8
  have K0 : Hid (Bx (w.alloc (.cells #[.int .i64 (c).rm, .int .i64 (c).sp, .int .i64 (c).ep] 61)) w.heap.size (acL (c))) := bx_new w (acL (c)) _
  have B9 : Hid (Below w.heap.size w (w.alloc (.cells #[.int .i64 (c).rm, .int .i64 (c).sp, .int .i64 (c).ep] 61))) := below_new _ _
  go_wp2_with fail
  generalize w.alloc (.cells #[.int .i64 (c).rm, .int .i64 (c).sp, .int .i64 (c).ep] 61) = w1 at *
  have BW : Hid (Below w.heap.size w w1) := Below.onto BW.out B9.out
  clear B9
  refine (hA _).mono ?_
  rintro e w2 ⟨rfl, hb⟩
  have K0 : Hid (Bx w2 _ _) := K0.out.below hb
  have BW : Hid (Below w.heap.size w w2) := Below.onto BW.out hb
  clear hb
  obtain ⟨k0_0, k0_1, k0_2⟩ := acc_three K0.out
  have k0_l := cell_lt k0_0
  have K1 : Hid (Bx (w2.alloc (.cells #[.int .i64 (A1).rm, .int .i64 (A1).sp, .int .i64 (A1).ep] 61)) w2.heap.size (acL (A1))) := bx_new w2 (acL (A1)) _
  have B9 : Hid (Below w2.heap.size w2 (w2.alloc (.cells #[.int .i64 (A1).rm, .int .i64 (A1).sp, .int .i64 (A1).ep] 61))) := below_new _ _
  go_wp2_with fail
  clear k0_0 k0_1 k0_2 k0_l
  generalize w2.alloc (.cells #[.int .i64 (A1).rm, .int .i64 (A1).sp, .int .i64 (A1).ep] 61) = w3 at *
  have K0 : Hid (Bx w3 _ _) := K0.out.below B9.out
  have BW : Hid (Below w.heap.size w w3) := Below.onto BW.out B9.out
  clear B9
  refine (hA' _).mono ?_
  rintro e w4 ⟨rfl, hb⟩
  have K0 : Hid (Bx w4 _ _) := K0.out.below hb
  have K1 : Hid (Bx w4 _ _) := K1.out.below hb
  have BW : Hid (Below w.heap.size w w4) := Below.onto BW.out hb
  clear hb
  obtain ⟨k0_0, k0_1, k0_2⟩ := acc_three K0.out
  have k0_l := cell_lt k0_0
  obtain ⟨k1_0, k1_1, k1_2⟩ := acc_three K1.out
  have k1_l := cell_lt k1_0
  have K2 : Hid (Bx (w4.alloc (.cells #[.int .i64 (A1).rm, .int .i64 (A1).sp, .int .i64 (A1).ep] 61)) w4.heap.size (acL (A1))) := bx_new w4 (acL (A1)) _
  have B9 : Hid (Below w4.heap.size w4 (w4.alloc (.cells #[.int .i64 (A1).rm, .int .i64 (A1).sp, .int .i64 (A1).ep] 61))) := below_new _ _
  go_wp2_with fail
  clear k0_0 k0_1 k0_2 k0_l k1_0 k1_1 k1_2 k1_l
  generalize w4.alloc (.cells #[.int .i64 (A1).rm, .int .i64 (A1).sp, .int .i64 (A1).ep] 61) = w5 at *
  have K0 : Hid (Bx w5 _ _) := K0.out.below B9.out
  have K1 : Hid (Bx w5 _ _) := K1.out.below B9.out
  have BW : Hid (Below w.heap.size w w5) := Below.onto BW.out B9.out
  clear B9
  refine (hS _).mono ?_
  rintro e w6 ⟨rfl, hb⟩
  have K0 : Hid (Bx w6 _ _) := K0.out.below hb
  have K1 : Hid (Bx w6 _ _) := K1.out.below hb
  have K2 : Hid (Bx w6 _ _) := K2.out.below hb
  have BW : Hid (Below w.heap.size w w6) := Below.onto BW.out hb
  clear hb
  obtain ⟨k0_0, k0_1, k0_2⟩ := acc_three K0.out
  have k0_l := cell_lt k0_0
  obtain ⟨k1_0, k1_1, k1_2⟩ := acc_three K1.out
  have k1_l := cell_lt k1_0
  obtain ⟨k2_0, k2_1, k2_2⟩ := acc_three K2.out
  have k2_l := cell_lt k2_0
  have K3 : Hid (Bx (w6.alloc (.cells #[.int .i64 (A2).rm, .int .i64 (A2).sp, .int .i64 (A2).ep] 61)) w6.heap.size (acL (A2))) := bx_new w6 (acL (A2)) _
  have B9 : Hid (Below w6.heap.size w6 (w6.alloc (.cells #[.int .i64 (A2).rm, .int .i64 (A2).sp, .int .i64 (A2).ep] 61))) := below_new _ _
  go_wp2_with fail
  clear k0_0 k0_1 k0_2 k0_l k1_0 k1_1 k1_2 k1_l k2_0 k2_1 k2_2 k2_l
  generalize w6.alloc (.cells #[.int .i64 (A2).rm, .int .i64 (A2).sp, .int .i64 (A2).ep] 61) = w7 at *
  have K0 : Hid (Bx w7 _ _) := K0.out.below B9.out
  have K1 : Hid (Bx w7 _ _) := K1.out.below B9.out
  have K2 : Hid (Bx w7 _ _) := K2.out.below B9.out
  have BW : Hid (Below w.heap.size w w7) := Below.onto BW.out B9.out
  clear B9
  refine (hS' _).mono ?_
  rintro e w8 ⟨rfl, hb⟩
  have K0 : Hid (Bx w8 _ _) := K0.out.below hb
  have K1 : Hid (Bx w8 _ _) := K1.out.below hb
  have K2 : Hid (Bx w8 _ _) := K2.out.below hb
  have K3 : Hid (Bx w8 _ _) := K3.out.below hb
  have BW : Hid (Below w.heap.size w w8) := Below.onto BW.out hb
  clear hb
  obtain ⟨k0_0, k0_1, k0_2⟩ := acc_three K0.out
  have k0_l := cell_lt k0_0
  obtain ⟨k1_0, k1_1, k1_2⟩ := acc_three K1.out
  have k1_l := cell_lt k1_0
  obtain ⟨k2_0, k2_1, k2_2⟩ := acc_three K2.out
  have k2_l := cell_lt k2_0
  obtain ⟨k3_0, k3_1, k3_2⟩ := acc_three K3.out
  have k3_l := cell_lt k3_0
  have K4 : Hid (Bx (w8.alloc (.cells #[.int .i64 (A2).rm, .int .i64 (A2).sp, .int .i64 (A2).ep] 61)) w8.heap.size (acL (A2))) := bx_new w8 (acL (A2)) _
  have B9 : Hid (Below w8.heap.size w8 (w8.alloc (.cells #[.int .i64 (A2).rm, .int .i64 (A2).sp, .int .i64 (A2).ep] 61))) := below_new _ _
  go_wp2_with fail
  clear k0_0 k0_1 k0_2 k0_l k1_0 k1_1 k1_2 k1_l k2_0 k2_1 k2_2 k2_l k3_0 k3_1 k3_2 k3_l
  generalize w8.alloc (.cells #[.int .i64 (A2).rm, .int .i64 (A2).sp, .int .i64 (A2).ep] 61) = w9 at *
  have K0 : Hid (Bx w9 _ _) := K0.out.below B9.out
  have K1 : Hid (Bx w9 _ _) := K1.out.below B9.out
  have K2 : Hid (Bx w9 _ _) := K2.out.below B9.out
  have K3 : Hid (Bx w9 _ _) := K3.out.below B9.out
  have BW : Hid (Below w.heap.size w w9) := Below.onto BW.out B9.out
  clear B9
  refine (hB _).mono ?_
  rintro e w10 ⟨rfl, hb⟩
  have K0 : Hid (Bx w10 _ _) := K0.out.below hb
  have K1 : Hid (Bx w10 _ _) := K1.out.below hb
  have K2 : Hid (Bx w10 _ _) := K2.out.below hb
  have K3 : Hid (Bx w10 _ _) := K3.out.below hb
  have K4 : Hid (Bx w10 _ _) := K4.out.below hb
  have BW : Hid (Below w.heap.size w w10) := Below.onto BW.out hb
  clear hb
  obtain ⟨k0_0, k0_1, k0_2⟩ := acc_three K0.out
  have k0_l := cell_lt k0_0
  obtain ⟨k1_0, k1_1, k1_2⟩ := acc_three K1.out
  have k1_l := cell_lt k1_0
  obtain ⟨k2_0, k2_1, k2_2⟩ := acc_three K2.out
  have k2_l := cell_lt k2_0
  obtain ⟨k3_0, k3_1, k3_2⟩ := acc_three K3.out
  have k3_l := cell_lt k3_0
  obtain ⟨k4_0, k4_1, k4_2⟩ := acc_three K4.out
  have k4_l := cell_lt k4_0
  have K5 : Hid (Bx (w10.alloc (.cells #[.int .i64 (A3).rm, .int .i64 (A3).sp, .int .i64 (A3).ep] 61)) w10.heap.size (acL (A3))) := bx_new w10 (acL (A3)) _
  have B9 : Hid (Below w10.heap.size w10 (w10.alloc (.cells #[.int .i64 (A3).rm, .int .i64 (A3).sp, .int .i64 (A3).ep] 61))) := below_new _ _
  go_wp2_with fail
  clear k0_0 k0_1 k0_2 k0_l k1_0 k1_1 k1_2 k1_l k2_0 k2_1 k2_2 k2_l k3_0 k3_1 k3_2 k3_l k4_0 k4_1 k4_2 k4_l
  generalize w10.alloc (.cells #[.int .i64 (A3).rm, .int .i64 (A3).sp, .int .i64 (A3).ep] 61) = w11 at *
  have K0 : Hid (Bx w11 _ _) := K0.out.below B9.out
  have K1 : Hid (Bx w11 _ _) := K1.out.below B9.out
  have K2 : Hid (Bx w11 _ _) := K2.out.below B9.out
  have K3 : Hid (Bx w11 _ _) := K3.out.below B9.out
  have K4 : Hid (Bx w11 _ _) := K4.out.below B9.out
  have BW : Hid (Below w.heap.size w w11) := Below.onto BW.out B9.out
  clear B9
  refine (hB' _).mono ?_
  rintro e w12 ⟨rfl, hb⟩
  have K0 : Hid (Bx w12 _ _) := K0.out.below hb
  have K1 : Hid (Bx w12 _ _) := K1.out.below hb
  have K2 : Hid (Bx w12 _ _) := K2.out.below hb
  have K3 : Hid (Bx w12 _ _) := K3.out.below hb
  have K4 : Hid (Bx w12 _ _) := K4.out.below hb
  have K5 : Hid (Bx w12 _ _) := K5.out.below hb
  have BW : Hid (Below w.heap.size w w12) := Below.onto BW.out hb
  clear hb
  obtain ⟨k0_0, k0_1, k0_2⟩ := acc_three K0.out
  have k0_l := cell_lt k0_0
  obtain ⟨k1_0, k1_1, k1_2⟩ := acc_three K1.out
  have k1_l := cell_lt k1_0
  obtain ⟨k2_0, k2_1, k2_2⟩ := acc_three K2.out
  have k2_l := cell_lt k2_0
  obtain ⟨k3_0, k3_1, k3_2⟩ := acc_three K3.out
  have k3_l := cell_lt k3_0
  obtain ⟨k4_0, k4_1, k4_2⟩ := acc_three K4.out
  have k4_l := cell_lt k4_0
  obtain ⟨k5_0, k5_1, k5_2⟩ := acc_three K5.out
  have k5_l := cell_lt k5_0
  have K6 : Hid (Bx (w12.alloc (.cells #[.int .i64 (A3).rm, .int .i64 (A3).sp, .int .i64 (A3).ep] 61)) w12.heap.size (acL (A3))) := bx_new w12 (acL (A3)) _
  have B9 : Hid (Below w12.heap.size w12 (w12.alloc (.cells #[.int .i64 (A3).rm, .int .i64 (A3).sp, .int .i64 (A3).ep] 61))) := below_new _ _
  go_wp2_with fail
  clear k0_0 k0_1 k0_2 k0_l k1_0 k1_1 k1_2 k1_l k2_0 k2_1 k2_2 k2_l k3_0 k3_1 k3_2 k3_l k4_0 k4_1 k4_2 k4_l k5_0 k5_1 k5_2 k5_l
  generalize w12.alloc (.cells #[.int .i64 (A3).rm, .int .i64 (A3).sp, .int .i64 (A3).ep] 61) = w13 at *
  have K0 : Hid (Bx w13 _ _) := K0.out.below B9.out
  have K1 : Hid (Bx w13 _ _) := K1.out.below B9.out
  have K2 : Hid (Bx w13 _ _) := K2.out.below B9.out
  have K3 : Hid (Bx w13 _ _) := K3.out.below B9.out
  have K4 : Hid (Bx w13 _ _) := K4.out.below B9.out
  have K5 : Hid (Bx w13 _ _) := K5.out.below B9.out
  have BW : Hid (Below w.heap.size w w13) := Below.onto BW.out B9.out
  clear B9
  refine (hR _).mono ?_
  rintro e w14 ⟨rfl, hb⟩
  have K0 : Hid (Bx w14 _ _) := K0.out.below hb
  have K1 : Hid (Bx w14 _ _) := K1.out.below hb
  have K2 : Hid (Bx w14 _ _) := K2.out.below hb
  have K3 : Hid (Bx w14 _ _) := K3.out.below hb
  have K4 : Hid (Bx w14 _ _) := K4.out.below hb
  have K5 : Hid (Bx w14 _ _) := K5.out.below hb
  have K6 : Hid (Bx w14 _ _) := K6.out.below hb
  have BW : Hid (Below w.heap.size w w14) := Below.onto BW.out hb
  clear hb
  obtain ⟨k0_0, k0_1, k0_2⟩ := acc_three K0.out
  have k0_l := cell_lt k0_0
  obtain ⟨k1_0, k1_1, k1_2⟩ := acc_three K1.out
  have k1_l := cell_lt k1_0
  obtain ⟨k2_0, k2_1, k2_2⟩ := acc_three K2.out
  have k2_l := cell_lt k2_0
  obtain ⟨k3_0, k3_1, k3_2⟩ := acc_three K3.out
  have k3_l := cell_lt k3_0
  obtain ⟨k4_0, k4_1, k4_2⟩ := acc_three K4.out
  have k4_l := cell_lt k4_0
  obtain ⟨k5_0, k5_1, k5_2⟩ := acc_three K5.out
  have k5_l := cell_lt k5_0
  obtain ⟨k6_0, k6_1, k6_2⟩ := acc_three K6.out
  have k6_l := cell_lt k6_0
  have K7 : Hid (Bx (w14.alloc (.cells #[.int .i64 (A4).rm, .int .i64 (A4).sp, .int .i64 (A4).ep] 61)) w14.heap.size (acL (A4))) := bx_new w14 (acL (A4)) _
  have B9 : Hid (Below w14.heap.size w14 (w14.alloc (.cells #[.int .i64 (A4).rm, .int .i64 (A4).sp, .int .i64 (A4).ep] 61))) := below_new _ _
  go_wp2_with fail
  clear k0_0 k0_1 k0_2 k0_l k1_0 k1_1 k1_2 k1_l k2_0 k2_1 k2_2 k2_l k3_0 k3_1 k3_2 k3_l k4_0 k4_1 k4_2 k4_l k5_0 k5_1 k5_2 k5_l k6_0 k6_1 k6_2 k6_l
  generalize w14.alloc (.cells #[.int .i64 (A4).rm, .int .i64 (A4).sp, .int .i64 (A4).ep] 61) = w15 at *
  have K0 : Hid (Bx w15 _ _) := K0.out.below B9.out
  have K1 : Hid (Bx w15 _ _) := K1.out.below B9.out
  have K2 : Hid (Bx w15 _ _) := K2.out.below B9.out
  have K3 : Hid (Bx w15 _ _) := K3.out.below B9.out
  have K4 : Hid (Bx w15 _ _) := K4.out.below B9.out
  have K5 : Hid (Bx w15 _ _) := K5.out.below B9.out
  have K6 : Hid (Bx w15 _ _) := K6.out.below B9.out
  have BW : Hid (Below w.heap.size w w15) := Below.onto BW.out B9.out
  clear B9
  refine (hR' _).mono ?_
  rintro e w16 ⟨rfl, hb⟩
  have K0 : Hid (Bx w16 _ _) := K0.out.below hb
  have K1 : Hid (Bx w16 _ _) := K1.out.below hb
  have K2 : Hid (Bx w16 _ _) := K2.out.below hb
  have K3 : Hid (Bx w16 _ _) := K3.out.below hb
  have K4 : Hid (Bx w16 _ _) := K4.out.below hb
  have K5 : Hid (Bx w16 _ _) := K5.out.below hb
  have K6 : Hid (Bx w16 _ _) := K6.out.below hb
  have K7 : Hid (Bx w16 _ _) := K7.out.below hb
  have BW : Hid (Below w.heap.size w w16) := Below.onto BW.out hb
  clear hb
  obtain ⟨k0_0, k0_1, k0_2⟩ := acc_three K0.out
  have k0_l := cell_lt k0_0
  obtain ⟨k1_0, k1_1, k1_2⟩ := acc_three K1.out
  have k1_l := cell_lt k1_0
  obtain ⟨k2_0, k2_1, k2_2⟩ := acc_three K2.out
  have k2_l := cell_lt k2_0
  obtain ⟨k3_0, k3_1, k3_2⟩ := acc_three K3.out
  have k3_l := cell_lt k3_0
  obtain ⟨k4_0, k4_1, k4_2⟩ := acc_three K4.out
  have k4_l := cell_lt k4_0
  obtain ⟨k5_0, k5_1, k5_2⟩ := acc_three K5.out
  have k5_l := cell_lt k5_0
  obtain ⟨k6_0, k6_1, k6_2⟩ := acc_three K6.out
  have k6_l := cell_lt k6_0
  obtain ⟨k7_0, k7_1, k7_2⟩ := acc_three K7.out
  have k7_l := cell_lt k7_0
  have K8 : Hid (Bx (w16.alloc (.cells #[.int .i64 (A4).rm, .int .i64 (A4).sp, .int .i64 (A4).ep] 61)) w16.heap.size (acL (A4))) := bx_new w16 (acL (A4)) _
  have B9 : Hid (Below w16.heap.size w16 (w16.alloc (.cells #[.int .i64 (A4).rm, .int .i64 (A4).sp, .int .i64 (A4).ep] 61))) := below_new _ _
  go_wp2_with fail
  clear k0_0 k0_1 k0_2 k0_l k1_0 k1_1 k1_2 k1_l k2_0 k2_1 k2_2 k2_l k3_0 k3_1 k3_2 k3_l k4_0 k4_1 k4_2 k4_l k5_0 k5_1 k5_2 k5_l k6_0 k6_1 k6_2 k6_l k7_0 k7_1 k7_2 k7_l
  generalize w16.alloc (.cells #[.int .i64 (A4).rm, .int .i64 (A4).sp, .int .i64 (A4).ep] 61) = w17 at *
  have K0 : Hid (Bx w17 _ _) := K0.out.below B9.out
  have K1 : Hid (Bx w17 _ _) := K1.out.below B9.out
  have K2 : Hid (Bx w17 _ _) := K2.out.below B9.out
  have K3 : Hid (Bx w17 _ _) := K3.out.below B9.out
  have K4 : Hid (Bx w17 _ _) := K4.out.below B9.out
  have K5 : Hid (Bx w17 _ _) := K5.out.below B9.out
  have K6 : Hid (Bx w17 _ _) := K6.out.below B9.out
  have K7 : Hid (Bx w17 _ _) := K7.out.below B9.out
  have BW : Hid (Below w.heap.size w w17) := Below.onto BW.out B9.out
  clear B9
  obtain ⟨k0_0, k0_1, k0_2⟩ := acc_three K0.out
  have k0_0' := cell_regrown k0_0
  have k0_1' := cell_regrown k0_1
  have k0_2' := cell_regrown k0_2
  clear k0_0 k0_1 k0_2
  obtain ⟨k1_0, k1_1, k1_2⟩ := acc_three K1.out
  have k1_0' := cell_regrown k1_0
  have k1_1' := cell_regrown k1_1
  have k1_2' := cell_regrown k1_2
  clear k1_0 k1_1 k1_2
  obtain ⟨k2_0, k2_1, k2_2⟩ := acc_three K2.out
  have k2_0' := cell_regrown k2_0
  have k2_1' := cell_regrown k2_1
  have k2_2' := cell_regrown k2_2
  clear k2_0 k2_1 k2_2
  obtain ⟨k3_0, k3_1, k3_2⟩ := acc_three K3.out
  have k3_0' := cell_regrown k3_0
  have k3_1' := cell_regrown k3_1
  have k3_2' := cell_regrown k3_2
  clear k3_0 k3_1 k3_2
  obtain ⟨k4_0, k4_1, k4_2⟩ := acc_three K4.out
  have k4_0' := cell_regrown k4_0
  have k4_1' := cell_regrown k4_1
  have k4_2' := cell_regrown k4_2
  clear k4_0 k4_1 k4_2
  obtain ⟨k5_0, k5_1, k5_2⟩ := acc_three K5.out
  have k5_0' := cell_regrown k5_0
  have k5_1' := cell_regrown k5_1
  have k5_2' := cell_regrown k5_2
  clear k5_0 k5_1 k5_2
  obtain ⟨k6_0, k6_1, k6_2⟩ := acc_three K6.out
  have k6_0' := cell_regrown k6_0
  have k6_1' := cell_regrown k6_1
  have k6_2' := cell_regrown k6_2
  clear k6_0 k6_1 k6_2
  obtain ⟨k7_0, k7_1, k7_2⟩ := acc_three K7.out
  have k7_0' := cell_regrown k7_0
  have k7_1' := cell_regrown k7_1
  have k7_2' := cell_regrown k7_2
  clear k7_0 k7_1 k7_2
  obtain ⟨k8_0, k8_1, k8_2⟩ := acc_three K8.out
  have k8_0' := cell_regrown k8_0
  have k8_1' := cell_regrown k8_1
  have k8_2' := cell_regrown k8_2
  clear k8_0 k8_1 k8_2
  have q0 := regrown_call (w := w17) fun W _ => hC W
  have q1 := regrown_call (w := w17) fun W _ => hI W
  have q2 := regrown_call (w := w17) fun W _ => hL W
  have q3 := regrown_call (w := w17) fun W _ => hL' W
  have q4 := regrown_call (w := w17) fun W _ => hO W
  refine wp_region_quiet_below (by kernel_rfl) (by kernel_rfl) ?_
  repeat (go_big_quiet_step (first | with_reducible exact q0 _ _ | with_reducible exact q1 _ _ | with_reducible exact q2 _ _ | with_reducible exact q3 _ _ | with_reducible exact q4 _ _))
  refine wpQuiet_nil ?_
  intro _ hw'
  obtain ⟨⟨dq, osq⟩, hw''⟩ := hw'
  subst hw''
  go_wp2_with fail
  go_ret
  exact ⟨rfl, Below.onto BW.out (below_regrown _ _ _)⟩
end Go.Proofs.Ytopjidlhhamjhaa
