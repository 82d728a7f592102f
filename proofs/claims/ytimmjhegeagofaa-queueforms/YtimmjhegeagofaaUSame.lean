/- queue.Same. -/
import Derived.Test.YtimmjhegeagofaaUEq
namespace Go.Proofs.Ytimmjhegeagofaa
open Go.RowKit
set_option maxRecDepth 100000

set_option maxHeartbeats 4000000 in
theorem uequalF_any (va vb ua ub : Value) (A B : Qu) (V U : Nat → Value) (w : World) (hoa : OkQ A) (ha : QIs w va vb A V) (hb : QIs w ua ub B U) : Calls Try.prog 58 #[va, ua, fnV 59] w fun e w' => e = .returned (.bool (eqF eqL pl0 A.ls B.ls)) ∧ Below w.heap.size w w' := by
  have HA : Hid (QIs w va vb A V) := ha
  have HB : Hid (QIs w ua ub B U) := hb
  have HO : Hid (OkQ A) := hoa
  have hnl := hoa.nl
  obtain ⟨xa, xc, rfl, _, _, _⟩ := ha.l
  obtain ⟨ya, yc, rfl, _, _, _⟩ := hb.l
  clear ha hb hoa
  by_cases hll : A.ls.length = B.ls.length
  case neg =>
    have HR : Hid (eqF eqL pl0 A.ls B.ls = false) := eqF_len hll
    have hl2 : ¬ (A.ls.length : Int) = (B.ls.length : Int) := by omega
    clear hll
    go_enter Try.func58, Try.ntmps58
    go_wp2_with fail
    go_ret
    exact ⟨ret_bool HR.out.symm, Below.refl _ _⟩
  case pos =>
  have HLL : Hid (A.ls.length = B.ls.length) := hll
  rw [hll.symm]
  clear hll
  go_enter Try.func58, Try.ntmps58
  go_wp2_with fail
  go_loopw [17] (fun i wr => ∃ k : Nat, k ≤ A.ls.length ∧ i = .int .i64 k ∧ Hid (∀ j, j < k → eqL (atP A.ls j) (atP B.ls j) = true) ∧ Hid (Below w.heap.size w wr)) (fun i _ => A.ls.length - (intOf i).toNat)
  case atStart => exact ⟨0, Nat.zero_le _, rfl, fun j hj => absurd hj (by omega), Below.refl _ _⟩
  case round =>
    obtain ⟨k, hk, rfl, hall, hbel⟩ := hrel
    by_cases hlt : k < A.ls.length
    · have hkB : k < B.ls.length := by have := HLL.out; omega
      obtain ⟨b1, o1, _, ca, cc, e1, hV, a0, a1, a2, a3, a4, a5⟩ := (HA.out.below hbel.out).at hlt
      cases e1
      obtain ⟨b2, o2, yc', da, dc, e2, hU, d0, d1, d2, d3, d4, d5⟩ := (HB.out.below hbel.out).at hkB
      obtain ⟨rfl, rfl⟩ : ya = some ⟨b2, o2, none⟩ ∧ yc = yc' := by injection e2 with h1 _ h2; exact ⟨h1, h2⟩
      have HCA := (HA.out.below hbel.out).c k hlt
      have HCB := (HB.out.below hbel.out).c k hkB
      rw [hV] at HCA
      rw [hU] at HCB
      have HCA : Hid (Cl _ _ _) := HCA
      have HCB : Hid (Cl _ _ _) := HCB
      have hnc := HO.out.nc k hlt
      have HYES : Hid (eqL (atP A.ls k) (atP B.ls k) = true → ∀ j, j < k + 1 → eqL (atP A.ls j) (atP B.ls j) = true) := fun h j hj => by
        by_cases e : j = k
        · rw [e]; exact h
        · exact hall.out j (by omega)
      have HNOT : Hid (eqL (atP A.ls k) (atP B.ls k) = false → eqF eqL pl0 A.ls B.ls = false) := fun h => eqF_no hlt h
      have i1 : (0 : Int) ≤ (k : Int) := by omega
      have i2 : (k : Int) < (A.ls.length : Int) := by omega
      have hz1 := cell_lt a0
      have hz2 := cell_lt d0
      clear e2 hV hU
      generalize atP A.ls k = x at *
      generalize atP B.ls k = y at *
      obtain ⟨_, _, b9, s9⟩ := alloc2 wr [.int .i64 x.cr, .bool x.tw, .int .i64 x.lf, .slice ca x.cl.length cc, .int .i64 x.nx, .int .i64 x.ep] 94 [.int .i64 y.cr, .bool y.tw, .int .i64 y.lf, .slice da y.cl.length dc, .int .i64 y.nx, .int .i64 y.ep] 94
      have hcall := usameLane_any x y (.slice ca x.cl.length cc) (.slice da y.cl.length dc) _ hnc (HCA.out.below b9) (HCB.out.below b9)
      have B9 : Hid (Below _ _ _) := b9
      clear b9 s9
      go_wp2_with fail
      refine hcall.mono ?_
      rintro e w3 ⟨rfl, hb⟩
      have HBB : Hid (Below w.heap.size w w3) := Below.onto (Below.onto hbel.out B9.out) hb
      clear hcall hb a0 a1 a2 a3 a4 a5 d0 d1 d2 d3 d4 d5
      have hq : eqL x y = true ∨ eqL x y = false := by cases eqL x y <;> simp
      rcases hq with hq | hq
      · have HNX := HYES.out hq
        have HNX : Hid (∀ j, j < k + 1 → eqL (atP A.ls j) (atP B.ls j) = true) := HNX
        rw [hq]
        clear hq HYES HNOT
        go_wp2_with fail
        exact ⟨⟨k + 1, by omega, by go_num, HNX.out, HBB.out⟩, by simp [intOf]; omega⟩
      · have HR : Hid (eqF eqL pl0 A.ls B.ls = false) := HNOT.out hq
        rw [hq]
        clear hq HYES HNOT
        go_wp2_with fail
        go_ret
        exact ⟨ret_bool HR.out.symm, HBB.out⟩
    · obtain rfl : k = A.ls.length := by omega
      have HR : Hid (eqF eqL pl0 A.ls B.ls = true) := eqF_yes HLL.out hall.out
      go_wp2_with fail
      go_ret
      exact ⟨ret_bool HR.out.symm, hbel.out⟩
set_option maxHeartbeats 4000000 in
theorem same_any (va vb ua ub : Value) (A B : Qu) (V U : Nat → Value) (w : World) (hoa : OkQ A) (ha : QIs w va vb A V) (hb : QIs w ua ub B U) : Calls Try.prog 33 #[quV va vb, quV ua ub] w fun e w' => e = .returned (.bool (eqQ A B)) ∧ Below w.heap.size w w' := by
  have HA : Hid (QIs w va vb A V) := ha
  have HB : Hid (QIs w ua ub B U) := hb
  have hf := fun W h1 h2 => uequalF_any va vb ua ub A B V U W hoa h1 h2
  have hm := fun W h1 h2 => uequalM_any vb ub A.ms B.ms W hoa.nm h1 h2
  obtain ⟨xa, xc, rfl, _, _, _⟩ := ha.l
  obtain ⟨ya, yc, rfl, _, _, _⟩ := hb.l
  obtain ⟨xm, xn, rfl, _, _, _⟩ := ha.m
  obtain ⟨ym, yn, rfl, _, _, _⟩ := hb.m
  clear ha hb hoa
  obtain ⟨k1, k2, b9, s9⟩ := alloc2 w [.slice xa A.ls.length xc, .slice xm A.ms.length xn] 67 [.slice ya B.ls.length yc, .slice ym B.ms.length yn] 67
  have K1 : Hid (Blk _ _ _ _) := k1
  have K2 : Hid (Blk _ _ _ _) := k2
  have B9 : Hid (Below _ _ _) := b9
  clear k1 k2 b9 s9
  go_enter Try.func33, Try.ntmps33
  go_wp2_with fail
  generalize (w.alloc (.cells #[.slice xa A.ls.length xc, .slice xm A.ms.length xn] 67)).alloc (.cells #[.slice ya B.ls.length yc, .slice ym B.ms.length yn] 67) = w2 at *
  refine (hf w2 (HA.out.below B9.out) (HB.out.below B9.out)).mono ?_
  rintro e w3 ⟨rfl, hb⟩
  obtain ⟨p0, p1⟩ := (K1.out.below hb).bx.two
  obtain ⟨r0, r1⟩ := (K2.out.below hb).bx.two
  have HBB : Hid (Below w.heap.size w w3) := Below.onto B9.out hb
  clear hb
  have hq : eqF eqL pl0 A.ls B.ls = true ∨ eqF eqL pl0 A.ls B.ls = false := by cases eqF eqL pl0 A.ls B.ls <;> simp
  rcases hq with hq | hq
  · have HR : Hid (eqQ A B = eqF eqM pm0 A.ms B.ms) := by show _ = _; simp [eqQ, hq]
    rw [hq]
    clear hq
    go_wp2_with fail
    refine (hm w3 ((HA.out.below HBB.out).m) ((HB.out.below HBB.out).m)).mono ?_
    rintro e w4 ⟨rfl, hb4⟩
    generalize eqF eqM pm0 A.ms B.ms = t at *
    go_wp2_with fail
    go_ret
    exact ⟨ret_bool HR.out.symm, Below.onto HBB.out hb4⟩
  · have HR : Hid (eqQ A B = false) := by show _ = _; simp [eqQ, hq]
    rw [hq]
    clear hq
    go_wp2_with fail
    go_ret
    exact ⟨ret_bool HR.out.symm, HBB.out⟩

end Go.Proofs.Ytimmjhegeagofaa
