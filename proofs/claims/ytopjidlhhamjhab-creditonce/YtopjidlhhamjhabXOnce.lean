/- CreditOnce, walked. -/
import Derived.Test.YtopjidlhhamjhabXAlive
namespace Go.Proofs.Ytopjidlhhamjhab
open Go.RowKit Go.Sort Go.Shelf
set_option maxRecDepth 100000

set_option maxHeartbeats 8000000 in
theorem xonce_no (c : Ac) (t : Int) (w : World) (ho : okA c = false) : Calls Try.prog 6 #[acV c, .int .i64 t] w fun e w' => e = .returned (.bool true) ∧ Below w.heap.size w w' := by
  have hO := fun W => xalive_any W
  have hI := fun W => xris_any c W
  have hR : ∀ W, Calls Try.prog 19 #[acV c] W fun e w' => e = .returned (.tuple #[acV ac0, .int .i64 131]) ∧ Below W.heap.size W w' := fun W => by
    have h := xreset_any c W
    rw [show rsA c = ac0 by simp [bhA, ho], show rsE c = 131 by simp [bhE, ho]] at h
    exact h
  rw [ho] at hI
  clear ho
  have BW : Hid (Below w.heap.size w w) := Below.refl _ _
  go_enter Try.func6, Try.ntmps6
  have K0 : Hid (Bx (w.alloc (.cells #[.int .i64 (c).rm, .int .i64 (c).sp, .int .i64 (c).ep] 38)) w.heap.size (acL (c))) := bx_new w (acL (c)) _
  have B9 : Hid (Below w.heap.size w (w.alloc (.cells #[.int .i64 (c).rm, .int .i64 (c).sp, .int .i64 (c).ep] 38))) := below_new _ _
  go_wp2_with fail
  generalize w.alloc (.cells #[.int .i64 (c).rm, .int .i64 (c).sp, .int .i64 (c).ep] 38) = w1 at *
  have BW : Hid (Below w.heap.size w w1) := Below.onto BW.out B9.out
  clear B9
  refine (hR _).mono ?_
  rintro e w2 ⟨rfl, hb⟩
  have K0 : Hid (Bx w2 _ _) := K0.out.below hb
  have BW : Hid (Below w.heap.size w w2) := Below.onto BW.out hb
  clear hb
  obtain ⟨k0_0, k0_1, k0_2⟩ := acc_three K0.out
  have k0_l := cell_lt k0_0
  have K1 : Hid (Bx (w2.alloc (.cells #[.int .i64 (ac0).rm, .int .i64 (ac0).sp, .int .i64 (ac0).ep] 38)) w2.heap.size (acL (ac0))) := bx_new w2 (acL (ac0)) _
  have B9 : Hid (Below w2.heap.size w2 (w2.alloc (.cells #[.int .i64 (ac0).rm, .int .i64 (ac0).sp, .int .i64 (ac0).ep] 38))) := below_new _ _
  go_wp2_with fail
  clear k0_0 k0_1 k0_2 k0_l
  generalize w2.alloc (.cells #[.int .i64 (ac0).rm, .int .i64 (ac0).sp, .int .i64 (ac0).ep] 38) = w3 at *
  have K0 : Hid (Bx w3 _ _) := K0.out.below B9.out
  have BW : Hid (Below w.heap.size w w3) := Below.onto BW.out B9.out
  clear B9
  refine (hI _).mono ?_
  rintro e w4 ⟨rfl, hb⟩
  have K0 : Hid (Bx w4 _ _) := K0.out.below hb
  have K1 : Hid (Bx w4 _ _) := K1.out.below hb
  have BW : Hid (Below w.heap.size w w4) := Below.onto BW.out hb
  clear hb
  obtain ⟨k0_0, k0_1, k0_2⟩ := acc_three K0.out
  have k0_l := cell_lt k0_0
  obtain ⟨k1_0, k1_1, k1_2⟩ := acc_three K1.out
  have k1_l := cell_lt k1_0
  go_wp2_with fail
  clear k0_0 k0_1 k0_2 k0_l k1_0 k1_1 k1_2 k1_l
  refine (hO _).mono ?_
  rintro e w5 ⟨rfl, hb⟩
  have K0 : Hid (Bx w5 _ _) := K0.out.below hb
  have K1 : Hid (Bx w5 _ _) := K1.out.below hb
  have BW : Hid (Below w.heap.size w w5) := Below.onto BW.out hb
  clear hb
  go_wp2_with fail
  go_ret
  exact ⟨rfl, BW.out⟩
set_option maxHeartbeats 8000000 in
theorem xonce_most (c : Ac) (t : Int) (w : World) (ho : okA c = true) (hz : c.ep = 1099511627776) : Calls Try.prog 6 #[acV c, .int .i64 t] w fun e w' => e = .returned (.bool true) ∧ Below w.heap.size w w' := by
  have hO := fun W => xalive_any W
  have hI := fun W => xris_any c W
  have hR : ∀ W, Calls Try.prog 19 #[acV c] W fun e w' => e = .returned (.tuple #[acV ac0, .int .i64 3]) ∧ Below W.heap.size W w' := fun W => by
    have h := xreset_any c W
    rw [show rsA c = ac0 by simp [bhA, ho, drE, hz], show rsE c = 3 by simp [bhE, ho, drE, hz]] at h
    exact h
  rw [ho] at hI
  clear ho
  have BW : Hid (Below w.heap.size w w) := Below.refl _ _
  have HZ : Hid (c.ep = 1099511627776) := hz
  clear hz
  go_enter Try.func6, Try.ntmps6
  have K0 : Hid (Bx (w.alloc (.cells #[.int .i64 (c).rm, .int .i64 (c).sp, .int .i64 (c).ep] 38)) w.heap.size (acL (c))) := bx_new w (acL (c)) _
  have B9 : Hid (Below w.heap.size w (w.alloc (.cells #[.int .i64 (c).rm, .int .i64 (c).sp, .int .i64 (c).ep] 38))) := below_new _ _
  go_wp2_with fail
  generalize w.alloc (.cells #[.int .i64 (c).rm, .int .i64 (c).sp, .int .i64 (c).ep] 38) = w1 at *
  have BW : Hid (Below w.heap.size w w1) := Below.onto BW.out B9.out
  clear B9
  refine (hR _).mono ?_
  rintro e w2 ⟨rfl, hb⟩
  have K0 : Hid (Bx w2 _ _) := K0.out.below hb
  have BW : Hid (Below w.heap.size w w2) := Below.onto BW.out hb
  clear hb
  obtain ⟨k0_0, k0_1, k0_2⟩ := acc_three K0.out
  have k0_l := cell_lt k0_0
  have K1 : Hid (Bx (w2.alloc (.cells #[.int .i64 (ac0).rm, .int .i64 (ac0).sp, .int .i64 (ac0).ep] 38)) w2.heap.size (acL (ac0))) := bx_new w2 (acL (ac0)) _
  have B9 : Hid (Below w2.heap.size w2 (w2.alloc (.cells #[.int .i64 (ac0).rm, .int .i64 (ac0).sp, .int .i64 (ac0).ep] 38))) := below_new _ _
  go_wp2_with fail
  clear k0_0 k0_1 k0_2 k0_l
  generalize w2.alloc (.cells #[.int .i64 (ac0).rm, .int .i64 (ac0).sp, .int .i64 (ac0).ep] 38) = w3 at *
  have K0 : Hid (Bx w3 _ _) := K0.out.below B9.out
  have BW : Hid (Below w.heap.size w w3) := Below.onto BW.out B9.out
  clear B9
  refine (hI _).mono ?_
  rintro e w4 ⟨rfl, hb⟩
  have K0 : Hid (Bx w4 _ _) := K0.out.below hb
  have K1 : Hid (Bx w4 _ _) := K1.out.below hb
  have BW : Hid (Below w.heap.size w w4) := Below.onto BW.out hb
  clear hb
  obtain ⟨k0_0, k0_1, k0_2⟩ := acc_three K0.out
  have k0_l := cell_lt k0_0
  obtain ⟨k1_0, k1_1, k1_2⟩ := acc_three K1.out
  have k1_l := cell_lt k1_0
  have hz := HZ.out
  go_wp2_with fail
  clear k0_0 k0_1 k0_2 k0_l k1_0 k1_1 k1_2 k1_l
  refine (hO _).mono ?_
  rintro e w5 ⟨rfl, hb⟩
  have K0 : Hid (Bx w5 _ _) := K0.out.below hb
  have K1 : Hid (Bx w5 _ _) := K1.out.below hb
  have BW : Hid (Below w.heap.size w w5) := Below.onto BW.out hb
  clear hb
  go_wp2_with fail
  go_ret
  exact ⟨rfl, BW.out⟩
set_option maxHeartbeats 8000000 in
theorem xonce_late (c : Ac) (t : Int) (w : World) (ho : okA c = true) (hz : ¬ c.ep = 1099511627776) (ht : c.ep < t) : Calls Try.prog 6 #[acV c, .int .i64 t] w fun e w' => e = .returned (.bool true) ∧ Below w.heap.size w w' := by
  have hO := fun W => xalive_any W
  obtain ⟨⟨h1, h2⟩, ⟨h3, h4⟩, h5, h6⟩ := okA_iff.1 ho
  have hR : ∀ W, Calls Try.prog 19 #[acV c] W fun e w' => e = .returned (.tuple #[acV ⟨c.rm, 0, c.ep + 1⟩, .int .i64 0]) ∧ Below W.heap.size W w' := fun W => by
    have h := xreset_any c W
    rw [show rsA c = ⟨c.rm, 0, c.ep + 1⟩ by simp [bhA, ho, drE, drA, hz], show rsE c = 0 by simp [bhE, ho, drE, hz]] at h
    exact h
  clear ho hz h1 h2 h3 h4 h5 h6
  have BW : Hid (Below w.heap.size w w) := Below.refl _ _
  go_enter Try.func6, Try.ntmps6
  have K0 : Hid (Bx (w.alloc (.cells #[.int .i64 (c).rm, .int .i64 (c).sp, .int .i64 (c).ep] 38)) w.heap.size (acL (c))) := bx_new w (acL (c)) _
  have B9 : Hid (Below w.heap.size w (w.alloc (.cells #[.int .i64 (c).rm, .int .i64 (c).sp, .int .i64 (c).ep] 38))) := below_new _ _
  go_wp2_with fail
  generalize w.alloc (.cells #[.int .i64 (c).rm, .int .i64 (c).sp, .int .i64 (c).ep] 38) = w1 at *
  have BW : Hid (Below w.heap.size w w1) := Below.onto BW.out B9.out
  clear B9
  refine (hR _).mono ?_
  rintro e w2 ⟨rfl, hb⟩
  have K0 : Hid (Bx w2 _ _) := K0.out.below hb
  have BW : Hid (Below w.heap.size w w2) := Below.onto BW.out hb
  clear hb
  obtain ⟨k0_0, k0_1, k0_2⟩ := acc_three K0.out
  have k0_l := cell_lt k0_0
  have K1 : Hid (Bx (w2.alloc (.cells #[.int .i64 ((⟨c.rm, 0, c.ep + 1⟩ : Ac)).rm, .int .i64 ((⟨c.rm, 0, c.ep + 1⟩ : Ac)).sp, .int .i64 ((⟨c.rm, 0, c.ep + 1⟩ : Ac)).ep] 38)) w2.heap.size (acL ((⟨c.rm, 0, c.ep + 1⟩ : Ac)))) := bx_new w2 (acL ((⟨c.rm, 0, c.ep + 1⟩ : Ac))) _
  have B9 : Hid (Below w2.heap.size w2 (w2.alloc (.cells #[.int .i64 ((⟨c.rm, 0, c.ep + 1⟩ : Ac)).rm, .int .i64 ((⟨c.rm, 0, c.ep + 1⟩ : Ac)).sp, .int .i64 ((⟨c.rm, 0, c.ep + 1⟩ : Ac)).ep] 38))) := below_new _ _
  go_wp2_with fail
  clear k0_0 k0_1 k0_2 k0_l
  generalize w2.alloc (.cells #[.int .i64 ((⟨c.rm, 0, c.ep + 1⟩ : Ac)).rm, .int .i64 ((⟨c.rm, 0, c.ep + 1⟩ : Ac)).sp, .int .i64 ((⟨c.rm, 0, c.ep + 1⟩ : Ac)).ep] 38) = w3 at *
  have K0 : Hid (Bx w3 _ _) := K0.out.below B9.out
  have BW : Hid (Below w.heap.size w w3) := Below.onto BW.out B9.out
  clear B9
  refine (hO _).mono ?_
  rintro e w4 ⟨rfl, hb⟩
  have K0 : Hid (Bx w4 _ _) := K0.out.below hb
  have K1 : Hid (Bx w4 _ _) := K1.out.below hb
  have BW : Hid (Below w.heap.size w w4) := Below.onto BW.out hb
  clear hb
  go_wp2_with fail
  go_ret
  exact ⟨rfl, BW.out⟩
set_option maxHeartbeats 8000000 in
theorem xonce_early (c : Ac) (t : Int) (w : World) (ho : okA c = true) (hz : ¬ c.ep = 1099511627776) (ht : t ≤ c.ep) : Calls Try.prog 6 #[acV c, .int .i64 t] w fun e w' => e = .returned (.bool true) ∧ Below w.heap.size w w' := by
  have hO := fun W => xalive_any W
  obtain ⟨⟨h1, h2⟩, ⟨h3, h4⟩, h5, h6⟩ := okA_iff.1 ho
  have hR : ∀ W, Calls Try.prog 19 #[acV c] W fun e w' => e = .returned (.tuple #[acV ⟨c.rm, 0, c.ep + 1⟩, .int .i64 0]) ∧ Below W.heap.size W w' := fun W => by
    have h := xreset_any c W
    rw [show rsA c = ⟨c.rm, 0, c.ep + 1⟩ by simp [bhA, ho, drE, drA, hz], show rsE c = 0 by simp [bhE, ho, drE, hz]] at h
    exact h
  have hd : okA ⟨c.rm, 0, c.ep + 1⟩ = true := okA_iff.2 ⟨⟨h1, h2⟩, ⟨by simp, by simp; omega⟩, by simp; omega, by simp; omega⟩
  have hs : okA ⟨c.rm, 1, c.ep + 1⟩ = true := okA_iff.2 ⟨⟨h1, h2⟩, ⟨by simp, by simp; omega⟩, by simp; omega, by simp; omega⟩
  have n1 : ¬ t = c.ep + 1 := by omega
  have n2 : ¬ c.rm = 0 := by omega
  have hB : ∀ W, Calls Try.prog 21 #[acV ⟨c.rm, 0, c.ep + 1⟩, .int .i64 t] W fun e w' => e = .returned (.tuple #[acV ⟨c.rm, 0, c.ep + 1⟩, .int .i64 0]) ∧ Below W.heap.size W w' := fun W => by
    have h := xback_any ⟨c.rm, 0, c.ep + 1⟩ t W
    rw [show bkA t ⟨c.rm, 0, c.ep + 1⟩ = ⟨c.rm, 0, c.ep + 1⟩ by simp [bhA, hd, dbE, dbA, n1], show bkE t ⟨c.rm, 0, c.ep + 1⟩ = 0 by simp [bhE, hd, dbE, n1]] at h
    exact h
  have hS : ∀ W, Calls Try.prog 22 #[acV ⟨c.rm, 0, c.ep + 1⟩] W fun e w' => e = .returned (.tuple #[acV ⟨c.rm, 1, c.ep + 1⟩, .int .i64 0]) ∧ Below W.heap.size W w' := fun W => by
    have h := xspend_any ⟨c.rm, 0, c.ep + 1⟩ W
    rw [show spA ⟨c.rm, 0, c.ep + 1⟩ = ⟨c.rm, 1, c.ep + 1⟩ by simp [bhA, hd, dsE, dsA, n2], show spE ⟨c.rm, 0, c.ep + 1⟩ = 0 by simp [bhE, hd, dsE, n2]] at h
    exact h
  have hY : ∀ W, Calls Try.prog 21 #[acV ⟨c.rm, 1, c.ep + 1⟩, .int .i64 t] W fun e w' => e = .returned (.tuple #[acV ⟨c.rm, 1, c.ep + 1⟩, .int .i64 0]) ∧ Below W.heap.size W w' := fun W => by
    have h := xback_any ⟨c.rm, 1, c.ep + 1⟩ t W
    rw [show bkA t ⟨c.rm, 1, c.ep + 1⟩ = ⟨c.rm, 1, c.ep + 1⟩ by simp [bhA, hs, dbE, dbA, n1], show bkE t ⟨c.rm, 1, c.ep + 1⟩ = 0 by simp [bhE, hs, dbE, n1]] at h
    exact h
  have hZ : ∀ W, Calls Try.prog 21 #[acV ⟨c.rm, 1, c.ep + 1⟩, .int .i64 (c.ep + 1)] W fun e w' => e = .returned (.tuple #[acV ⟨c.rm, 0, c.ep + 1⟩, .int .i64 0]) ∧ Below W.heap.size W w' := fun W => by
    have h := xback_any ⟨c.rm, 1, c.ep + 1⟩ (c.ep + 1) W
    rw [show bkA (c.ep + 1) ⟨c.rm, 1, c.ep + 1⟩ = ⟨c.rm, 0, c.ep + 1⟩ by simp [bhA, hs, dbE, dbA], show bkE (c.ep + 1) ⟨c.rm, 1, c.ep + 1⟩ = 0 by simp [bhE, hs, dbE]] at h
    exact h
  clear ho hz h1 h2 h3 h4 h5 h6 hd hs n1 n2
  generalize c.ep + 1 = ep1 at *
  have BW : Hid (Below w.heap.size w w) := Below.refl _ _
  go_enter Try.func6, Try.ntmps6
  have K0 : Hid (Bx (w.alloc (.cells #[.int .i64 (c).rm, .int .i64 (c).sp, .int .i64 (c).ep] 38)) w.heap.size (acL (c))) := bx_new w (acL (c)) _
  have B9 : Hid (Below w.heap.size w (w.alloc (.cells #[.int .i64 (c).rm, .int .i64 (c).sp, .int .i64 (c).ep] 38))) := below_new _ _
  go_wp2_with fail
  generalize w.alloc (.cells #[.int .i64 (c).rm, .int .i64 (c).sp, .int .i64 (c).ep] 38) = w1 at *
  have BW : Hid (Below w.heap.size w w1) := Below.onto BW.out B9.out
  clear B9
  refine (hR _).mono ?_
  rintro e w2 ⟨rfl, hb⟩
  have K0 : Hid (Bx w2 _ _) := K0.out.below hb
  have BW : Hid (Below w.heap.size w w2) := Below.onto BW.out hb
  clear hb
  obtain ⟨k0_0, k0_1, k0_2⟩ := acc_three K0.out
  have k0_l := cell_lt k0_0
  have K1 : Hid (Bx (w2.alloc (.cells #[.int .i64 ((⟨c.rm, 0, ep1⟩ : Ac)).rm, .int .i64 ((⟨c.rm, 0, ep1⟩ : Ac)).sp, .int .i64 ((⟨c.rm, 0, ep1⟩ : Ac)).ep] 38)) w2.heap.size (acL ((⟨c.rm, 0, ep1⟩ : Ac)))) := bx_new w2 (acL ((⟨c.rm, 0, ep1⟩ : Ac))) _
  have B9 : Hid (Below w2.heap.size w2 (w2.alloc (.cells #[.int .i64 ((⟨c.rm, 0, ep1⟩ : Ac)).rm, .int .i64 ((⟨c.rm, 0, ep1⟩ : Ac)).sp, .int .i64 ((⟨c.rm, 0, ep1⟩ : Ac)).ep] 38))) := below_new _ _
  go_wp2_with fail
  clear k0_0 k0_1 k0_2 k0_l
  generalize w2.alloc (.cells #[.int .i64 ((⟨c.rm, 0, ep1⟩ : Ac)).rm, .int .i64 ((⟨c.rm, 0, ep1⟩ : Ac)).sp, .int .i64 ((⟨c.rm, 0, ep1⟩ : Ac)).ep] 38) = w3 at *
  have K0 : Hid (Bx w3 _ _) := K0.out.below B9.out
  have BW : Hid (Below w.heap.size w w3) := Below.onto BW.out B9.out
  clear B9
  refine (hB _).mono ?_
  rintro e w4 ⟨rfl, hb⟩
  have K0 : Hid (Bx w4 _ _) := K0.out.below hb
  have K1 : Hid (Bx w4 _ _) := K1.out.below hb
  have BW : Hid (Below w.heap.size w w4) := Below.onto BW.out hb
  clear hb
  obtain ⟨k0_0, k0_1, k0_2⟩ := acc_three K0.out
  have k0_l := cell_lt k0_0
  obtain ⟨k1_0, k1_1, k1_2⟩ := acc_three K1.out
  have k1_l := cell_lt k1_0
  have K2 : Hid (Bx (w4.alloc (.cells #[.int .i64 ((⟨c.rm, 0, ep1⟩ : Ac)).rm, .int .i64 ((⟨c.rm, 0, ep1⟩ : Ac)).sp, .int .i64 ((⟨c.rm, 0, ep1⟩ : Ac)).ep] 38)) w4.heap.size (acL ((⟨c.rm, 0, ep1⟩ : Ac)))) := bx_new w4 (acL ((⟨c.rm, 0, ep1⟩ : Ac))) _
  have B9 : Hid (Below w4.heap.size w4 (w4.alloc (.cells #[.int .i64 ((⟨c.rm, 0, ep1⟩ : Ac)).rm, .int .i64 ((⟨c.rm, 0, ep1⟩ : Ac)).sp, .int .i64 ((⟨c.rm, 0, ep1⟩ : Ac)).ep] 38))) := below_new _ _
  go_wp2_with fail
  clear k0_0 k0_1 k0_2 k0_l k1_0 k1_1 k1_2 k1_l
  generalize w4.alloc (.cells #[.int .i64 ((⟨c.rm, 0, ep1⟩ : Ac)).rm, .int .i64 ((⟨c.rm, 0, ep1⟩ : Ac)).sp, .int .i64 ((⟨c.rm, 0, ep1⟩ : Ac)).ep] 38) = w5 at *
  have K0 : Hid (Bx w5 _ _) := K0.out.below B9.out
  have K1 : Hid (Bx w5 _ _) := K1.out.below B9.out
  have BW : Hid (Below w.heap.size w w5) := Below.onto BW.out B9.out
  clear B9
  refine (hS _).mono ?_
  rintro e w6 ⟨rfl, hb⟩
  have K0 : Hid (Bx w6 _ _) := K0.out.below hb
  have K1 : Hid (Bx w6 _ _) := K1.out.below hb
  have K2 : Hid (Bx w6 _ _) := K2.out.below hb
  have BW : Hid (Below w.heap.size w w6) := Below.onto BW.out hb
  clear hb
  obtain ⟨k0_0, k0_1, k0_2⟩ := acc_three K0.out
  have k0_l := cell_lt k0_0
  obtain ⟨k1_0, k1_1, k1_2⟩ := acc_three K1.out
  have k1_l := cell_lt k1_0
  obtain ⟨k2_0, k2_1, k2_2⟩ := acc_three K2.out
  have k2_l := cell_lt k2_0
  have K3 : Hid (Bx (w6.alloc (.cells #[.int .i64 ((⟨c.rm, 1, ep1⟩ : Ac)).rm, .int .i64 ((⟨c.rm, 1, ep1⟩ : Ac)).sp, .int .i64 ((⟨c.rm, 1, ep1⟩ : Ac)).ep] 38)) w6.heap.size (acL ((⟨c.rm, 1, ep1⟩ : Ac)))) := bx_new w6 (acL ((⟨c.rm, 1, ep1⟩ : Ac))) _
  have B9 : Hid (Below w6.heap.size w6 (w6.alloc (.cells #[.int .i64 ((⟨c.rm, 1, ep1⟩ : Ac)).rm, .int .i64 ((⟨c.rm, 1, ep1⟩ : Ac)).sp, .int .i64 ((⟨c.rm, 1, ep1⟩ : Ac)).ep] 38))) := below_new _ _
  go_wp2_with fail
  clear k0_0 k0_1 k0_2 k0_l k1_0 k1_1 k1_2 k1_l k2_0 k2_1 k2_2 k2_l
  generalize w6.alloc (.cells #[.int .i64 ((⟨c.rm, 1, ep1⟩ : Ac)).rm, .int .i64 ((⟨c.rm, 1, ep1⟩ : Ac)).sp, .int .i64 ((⟨c.rm, 1, ep1⟩ : Ac)).ep] 38) = w7 at *
  have K0 : Hid (Bx w7 _ _) := K0.out.below B9.out
  have K1 : Hid (Bx w7 _ _) := K1.out.below B9.out
  have K2 : Hid (Bx w7 _ _) := K2.out.below B9.out
  have BW : Hid (Below w.heap.size w w7) := Below.onto BW.out B9.out
  clear B9
  refine (hY _).mono ?_
  rintro e w8 ⟨rfl, hb⟩
  have K0 : Hid (Bx w8 _ _) := K0.out.below hb
  have K1 : Hid (Bx w8 _ _) := K1.out.below hb
  have K2 : Hid (Bx w8 _ _) := K2.out.below hb
  have K3 : Hid (Bx w8 _ _) := K3.out.below hb
  have BW : Hid (Below w.heap.size w w8) := Below.onto BW.out hb
  clear hb
  obtain ⟨k0_0, k0_1, k0_2⟩ := acc_three K0.out
  have k0_l := cell_lt k0_0
  obtain ⟨k1_0, k1_1, k1_2⟩ := acc_three K1.out
  have k1_l := cell_lt k1_0
  obtain ⟨k2_0, k2_1, k2_2⟩ := acc_three K2.out
  have k2_l := cell_lt k2_0
  obtain ⟨k3_0, k3_1, k3_2⟩ := acc_three K3.out
  have k3_l := cell_lt k3_0
  have K4 : Hid (Bx (w8.alloc (.cells #[.int .i64 ((⟨c.rm, 1, ep1⟩ : Ac)).rm, .int .i64 ((⟨c.rm, 1, ep1⟩ : Ac)).sp, .int .i64 ((⟨c.rm, 1, ep1⟩ : Ac)).ep] 38)) w8.heap.size (acL ((⟨c.rm, 1, ep1⟩ : Ac)))) := bx_new w8 (acL ((⟨c.rm, 1, ep1⟩ : Ac))) _
  have B9 : Hid (Below w8.heap.size w8 (w8.alloc (.cells #[.int .i64 ((⟨c.rm, 1, ep1⟩ : Ac)).rm, .int .i64 ((⟨c.rm, 1, ep1⟩ : Ac)).sp, .int .i64 ((⟨c.rm, 1, ep1⟩ : Ac)).ep] 38))) := below_new _ _
  go_wp2_with fail
  clear k0_0 k0_1 k0_2 k0_l k1_0 k1_1 k1_2 k1_l k2_0 k2_1 k2_2 k2_l k3_0 k3_1 k3_2 k3_l
  generalize w8.alloc (.cells #[.int .i64 ((⟨c.rm, 1, ep1⟩ : Ac)).rm, .int .i64 ((⟨c.rm, 1, ep1⟩ : Ac)).sp, .int .i64 ((⟨c.rm, 1, ep1⟩ : Ac)).ep] 38) = w9 at *
  have K0 : Hid (Bx w9 _ _) := K0.out.below B9.out
  have K1 : Hid (Bx w9 _ _) := K1.out.below B9.out
  have K2 : Hid (Bx w9 _ _) := K2.out.below B9.out
  have K3 : Hid (Bx w9 _ _) := K3.out.below B9.out
  have BW : Hid (Below w.heap.size w w9) := Below.onto BW.out B9.out
  clear B9
  refine (hZ _).mono ?_
  rintro e w10 ⟨rfl, hb⟩
  have K0 : Hid (Bx w10 _ _) := K0.out.below hb
  have K1 : Hid (Bx w10 _ _) := K1.out.below hb
  have K2 : Hid (Bx w10 _ _) := K2.out.below hb
  have K3 : Hid (Bx w10 _ _) := K3.out.below hb
  have K4 : Hid (Bx w10 _ _) := K4.out.below hb
  have BW : Hid (Below w.heap.size w w10) := Below.onto BW.out hb
  clear hb
  obtain ⟨k0_0, k0_1, k0_2⟩ := acc_three K0.out
  have k0_l := cell_lt k0_0
  obtain ⟨k1_0, k1_1, k1_2⟩ := acc_three K1.out
  have k1_l := cell_lt k1_0
  obtain ⟨k2_0, k2_1, k2_2⟩ := acc_three K2.out
  have k2_l := cell_lt k2_0
  obtain ⟨k3_0, k3_1, k3_2⟩ := acc_three K3.out
  have k3_l := cell_lt k3_0
  obtain ⟨k4_0, k4_1, k4_2⟩ := acc_three K4.out
  have k4_l := cell_lt k4_0
  have K5 : Hid (Bx (w10.alloc (.cells #[.int .i64 ((⟨c.rm, 0, ep1⟩ : Ac)).rm, .int .i64 ((⟨c.rm, 0, ep1⟩ : Ac)).sp, .int .i64 ((⟨c.rm, 0, ep1⟩ : Ac)).ep] 38)) w10.heap.size (acL ((⟨c.rm, 0, ep1⟩ : Ac)))) := bx_new w10 (acL ((⟨c.rm, 0, ep1⟩ : Ac))) _
  have B9 : Hid (Below w10.heap.size w10 (w10.alloc (.cells #[.int .i64 ((⟨c.rm, 0, ep1⟩ : Ac)).rm, .int .i64 ((⟨c.rm, 0, ep1⟩ : Ac)).sp, .int .i64 ((⟨c.rm, 0, ep1⟩ : Ac)).ep] 38))) := below_new _ _
  go_wp2_with fail
  clear k0_0 k0_1 k0_2 k0_l k1_0 k1_1 k1_2 k1_l k2_0 k2_1 k2_2 k2_l k3_0 k3_1 k3_2 k3_l k4_0 k4_1 k4_2 k4_l
  generalize w10.alloc (.cells #[.int .i64 ((⟨c.rm, 0, ep1⟩ : Ac)).rm, .int .i64 ((⟨c.rm, 0, ep1⟩ : Ac)).sp, .int .i64 ((⟨c.rm, 0, ep1⟩ : Ac)).ep] 38) = w11 at *
  have K0 : Hid (Bx w11 _ _) := K0.out.below B9.out
  have K1 : Hid (Bx w11 _ _) := K1.out.below B9.out
  have K2 : Hid (Bx w11 _ _) := K2.out.below B9.out
  have K3 : Hid (Bx w11 _ _) := K3.out.below B9.out
  have K4 : Hid (Bx w11 _ _) := K4.out.below B9.out
  have BW : Hid (Below w.heap.size w w11) := Below.onto BW.out B9.out
  clear B9
  refine (hO _).mono ?_
  rintro e w12 ⟨rfl, hb⟩
  have K0 : Hid (Bx w12 _ _) := K0.out.below hb
  have K1 : Hid (Bx w12 _ _) := K1.out.below hb
  have K2 : Hid (Bx w12 _ _) := K2.out.below hb
  have K3 : Hid (Bx w12 _ _) := K3.out.below hb
  have K4 : Hid (Bx w12 _ _) := K4.out.below hb
  have K5 : Hid (Bx w12 _ _) := K5.out.below hb
  have BW : Hid (Below w.heap.size w w12) := Below.onto BW.out hb
  clear hb
  go_wp2_with fail
  go_ret
  exact ⟨rfl, BW.out⟩
theorem xonce_any (c : Ac) (t : Int) (w : World) : Calls Try.prog 6 #[acV c, .int .i64 t] w fun e w' => e = .returned (.bool true) ∧ Below w.heap.size w w' := by
  cases ho : okA c
  · exact xonce_no c t w ho
  · by_cases hz : c.ep = 1099511627776
    · exact xonce_most c t w ho hz
    · by_cases ht : t ≤ c.ep
      · exact xonce_early c t w ho hz ht
      · exact xonce_late c t w ho hz (by omega)
end Go.Proofs.Ytopjidlhhamjhab
