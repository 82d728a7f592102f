/- queue.Same: rows held against each other. -/
import Derived.Test.YtimmjhegeagofaaURefQ
import Derived.Test.YtimmjhegeagofaaUChk
namespace Go.Proofs.Ytimmjhegeagofaa
open Go.RowKit
set_option maxRecDepth 100000

set_option maxHeartbeats 2000000 in
theorem uequalI_any (va vb : Value) (a b : List Int) (w : World) (hna : a.length ≤ 1000) (hca : Cl w va a) (hcb : Cl w vb b) : Calls Try.prog 77 #[va, vb] w fun e w' => e = .returned (.bool (eqI a b)) ∧ Below w.heap.size w w' := by
  have HB : Hid (Cl w vb b) := hcb
  have HAL : Hid (Cl w va a) := hca
  obtain ⟨xa, xc, rfl, _, _, _⟩ := hca
  obtain ⟨ya, yc, rfl, _, _, _⟩ := hcb
  by_cases hll : a.length = b.length
  case neg =>
    have HR : Hid (eqI a b = false) := eqI_len hll
    have hl2 : ¬ (a.length : Int) = (b.length : Int) := by omega
    clear hll
    go_enter Try.func77, Try.ntmps77
    go_wp2_with fail
    go_ret
    exact ⟨ret_bool HR.out.symm, Below.refl _ _⟩
  case pos =>
  have HLL : Hid (a.length = b.length) := hll
  have HBL : Hid (Sl w 1 a.length (encI b) (.slice ya a.length yc)) := by have := HB.out; unfold Cl at this; rw [← hll] at this; exact this
  rw [← hll]
  clear hll HB
  go_enter Try.func77, Try.ntmps77
  go_wp2_with fail
  go_loopw [13] (fun i wr => ∃ k : Nat, k ≤ a.length ∧ i = .int .i64 k ∧ Hid (∀ j, j < k → atI a j = atI b j) ∧ Hid (Below w.heap.size w wr)) (fun i _ => a.length - (intOf i).toNat)
  case atStart => exact ⟨0, Nat.zero_le _, rfl, fun j hj => absurd hj (by omega), Below.refl _ _⟩
  case round =>
    obtain ⟨k, hk, rfl, hall, hbel⟩ := hrel
    by_cases hlt : k < a.length
    · obtain ⟨_, _, ea, _, _, hra⟩ := HAL.out.below hbel.out
      cases ea
      obtain ⟨_, _, eb, _, _, hrb⟩ := HBL.out.below hbel.out
      cases eb
      obtain ⟨ba, oa, rfl, hca⟩ := hra k hlt
      obtain ⟨bb, ob, rfl, hcb⟩ := hrb k hlt
      have c0 : wr.cell? ⟨ba, oa + k, none⟩ = some (.int .i64 (atI a k)) := by have := hca 0 (by omega); rwa [Nat.mul_one, Nat.add_zero] at this
      have d0 : wr.cell? ⟨bb, ob + k, none⟩ = some (.int .i64 (atI b k)) := by have := hcb 0 (by omega); rwa [Nat.mul_one, Nat.add_zero] at this
      have t0 := cell_regrown c0
      have s0 := cell_regrown d0
      have i1 : (0 : Int) ≤ (k : Int) := by omega
      have i2 : (k : Int) < (a.length : Int) := by omega
      by_cases he : atI a k = atI b k
      · have he1 : (atI a k == atI b k) = true := by simp [he]
        have HNX : Hid (∀ j, j < k + 1 → atI a j = atI b j) := fun j hj => by
          by_cases e : j = k
          · rw [e]; exact he
          · exact hall.out j (by omega)
        clear he
        generalize atI a k = x at *
        generalize atI b k = y at *
        go_wp2_with fail
        clear c0 d0 hca hcb hra hrb
        refine wp_region_quiet_below (by kernel_rfl) (by kernel_rfl) ?_
        repeat (go_big_quiet_step (fail))
        refine wpQuiet_nil ?_
        intro _ hw'
        obtain ⟨⟨dq, osq⟩, hw''⟩ := hw'
        subst hw''
        go_wp2_with fail
        exact ⟨⟨k + 1, by omega, by go_num, HNX.out, Below.onto hbel.out (below_regrown _ _ _)⟩, by simp [intOf]; omega⟩
      · have he1 : (atI a k == atI b k) = false := by simp [he]
        have HR : Hid (eqI a b = false) := eqI_no he
        clear he
        generalize atI a k = x at *
        generalize atI b k = y at *
        go_wp2_with fail
        clear c0 d0 hca hcb hra hrb
        refine wp_region_quiet_below (by kernel_rfl) (by kernel_rfl) ?_
        repeat (go_big_quiet_step (fail))
        refine wpQuiet_nil ?_
        intro _ hw'
        obtain ⟨⟨dq, osq⟩, hw''⟩ := hw'
        subst hw''
        go_wp2_with fail
        go_ret
        exact ⟨ret_bool HR.out.symm, Below.onto hbel.out (below_regrown _ _ _)⟩
    · obtain rfl : k = a.length := by omega
      have HR : Hid (eqI a b = true) := eqI_at HLL.out hall.out
      go_wp2_with fail
      go_ret
      exact ⟨ret_bool HR.out.symm, hbel.out⟩
set_option maxHeartbeats 4000000 in
theorem uequalM_any (va vb : Value) (a b : List PMs) (w : World) (hna : a.length ≤ 1000) (hca : Sl w 4 a.length (encMs a) va) (hcb : Sl w 4 b.length (encMs b) vb) : Calls Try.prog 60 #[va, vb] w fun e w' => e = .returned (.bool (eqF eqM pm0 a b)) ∧ Below w.heap.size w w' := by
  have HB : Hid (Sl w 4 b.length (encMs b) vb) := hcb
  have HAL : Hid (Sl w 4 a.length (encMs a) va) := hca
  obtain ⟨xa, xc, rfl, _, _, _⟩ := hca
  obtain ⟨ya, yc, rfl, _, _, _⟩ := hcb
  by_cases hll : a.length = b.length
  case neg =>
    have HR : Hid (eqF eqM pm0 a b = false) := eqF_len hll
    have hl2 : ¬ (a.length : Int) = (b.length : Int) := by omega
    clear hll
    go_enter Try.func60, Try.ntmps60
    go_wp2_with fail
    go_ret
    exact ⟨ret_bool HR.out.symm, Below.refl _ _⟩
  case pos =>
  have HLL : Hid (a.length = b.length) := hll
  have HBL : Hid (Sl w 4 a.length (encMs b) (.slice ya a.length yc)) := by have := HB.out; rw [← hll] at this; exact this
  rw [← hll]
  clear hll HB
  go_enter Try.func60, Try.ntmps60
  go_wp2_with fail
  go_loopw [13] (fun i wr => ∃ k : Nat, k ≤ a.length ∧ i = .int .i64 k ∧ Hid (∀ j, j < k → eqM (atM a j) (atM b j) = true) ∧ Hid (Below w.heap.size w wr)) (fun i _ => a.length - (intOf i).toNat)
  case atStart => exact ⟨0, Nat.zero_le _, rfl, fun j hj => absurd hj (by omega), Below.refl _ _⟩
  case round =>
    obtain ⟨k, hk, rfl, hall, hbel⟩ := hrel
    by_cases hlt : k < a.length
    · obtain ⟨_, _, ea, _, _, hra⟩ := HAL.out.below hbel.out
      cases ea
      obtain ⟨_, _, eb, _, _, hrb⟩ := HBL.out.below hbel.out
      cases eb
      obtain ⟨ba, oa, rfl, hca⟩ := hra k hlt
      obtain ⟨bb, ob, rfl, hcb⟩ := hrb k hlt
      have a0 : wr.cell? ⟨ba, oa + k * 4, none⟩ = some (.int .i64 (atM a k).ln) := hca 0 (by omega)
      have a1 : wr.cell? ⟨ba, oa + k * 4 + 1, none⟩ = some (.int .i64 (atM a k).ep) := hca 1 (by omega)
      have a2 : wr.cell? ⟨ba, oa + k * 4 + 2, none⟩ = some (.int .i64 (atM a k).n) := hca 2 (by omega)
      have a3 : wr.cell? ⟨ba, oa + k * 4 + 3, none⟩ = some (.int .u64 (atM a k).pay) := hca 3 (by omega)
      have b0 : wr.cell? ⟨bb, ob + k * 4, none⟩ = some (.int .i64 (atM b k).ln) := hcb 0 (by omega)
      have b1 : wr.cell? ⟨bb, ob + k * 4 + 1, none⟩ = some (.int .i64 (atM b k).ep) := hcb 1 (by omega)
      have b2 : wr.cell? ⟨bb, ob + k * 4 + 2, none⟩ = some (.int .i64 (atM b k).n) := hcb 2 (by omega)
      have b3 : wr.cell? ⟨bb, ob + k * 4 + 3, none⟩ = some (.int .u64 (atM b k).pay) := hcb 3 (by omega)
      have HYES : Hid (eqM (atM a k) (atM b k) = true → ∀ j, j < k + 1 → eqM (atM a j) (atM b j) = true) := fun h j hj => by
        by_cases e : j = k
        · rw [e]; exact h
        · exact hall.out j (by omega)
      have HNOT : Hid (eqM (atM a k) (atM b k) = false → eqF eqM pm0 a b = false) := fun h => eqF_no hlt h
      have i1 : (0 : Int) ≤ (k : Int) := by omega
      have i2 : (k : Int) < (a.length : Int) := by omega
      clear hca hcb hra hrb
      generalize atM a k = x at *
      generalize atM b k = y at *
      obtain ⟨x0, x1, x2, x3⟩ := x
      obtain ⟨y0, y1, y2, y3⟩ := y
      simp only at a0 a1 a2 a3 b0 b1 b2 b3
      have f0 := cell_regrown a0
      have f1 := cell_regrown a1
      have f2 := cell_regrown a2
      have f3 := cell_regrown a3
      have g0 := cell_regrown b0
      have g1 := cell_regrown b1
      have g2 := cell_regrown b2
      have g3 := cell_regrown b3
      by_cases e0 : x0 = y0
      case neg =>
        have HR : Hid (eqF eqM pm0 a b = false) := HNOT.out (by simp [eqM, e0])
        clear HYES HNOT
        go_wp2_with fail
        clear a0 a1 a2 a3 b0 b1 b2 b3
        refine wp_region_quiet_below (by kernel_rfl) (by kernel_rfl) ?_
        repeat (go_big_quiet_step (fail))
        refine wpQuiet_nil ?_
        intro _ hw'
        obtain ⟨⟨dq, osq⟩, hw''⟩ := hw'
        subst hw''
        go_wp2_with fail
        go_ret
        exact ⟨ret_bool HR.out.symm, Below.onto hbel.out (below_regrown _ _ _)⟩
      case pos =>
      subst e0
      by_cases e1 : x1 = y1
      case neg =>
        have HR : Hid (eqF eqM pm0 a b = false) := HNOT.out (by simp [eqM, e1])
        clear HYES HNOT
        go_wp2_with fail
        clear a0 a1 a2 a3 b0 b1 b2 b3
        refine wp_region_quiet_below (by kernel_rfl) (by kernel_rfl) ?_
        repeat (go_big_quiet_step (fail))
        refine wpQuiet_nil ?_
        intro _ hw'
        obtain ⟨⟨dq, osq⟩, hw''⟩ := hw'
        subst hw''
        go_wp2_with fail
        go_ret
        exact ⟨ret_bool HR.out.symm, Below.onto hbel.out (below_regrown _ _ _)⟩
      case pos =>
      subst e1
      by_cases e2 : x2 = y2
      case neg =>
        have HR : Hid (eqF eqM pm0 a b = false) := HNOT.out (by simp [eqM, e2])
        clear HYES HNOT
        go_wp2_with fail
        clear a0 a1 a2 a3 b0 b1 b2 b3
        refine wp_region_quiet_below (by kernel_rfl) (by kernel_rfl) ?_
        repeat (go_big_quiet_step (fail))
        refine wpQuiet_nil ?_
        intro _ hw'
        obtain ⟨⟨dq, osq⟩, hw''⟩ := hw'
        subst hw''
        go_wp2_with fail
        go_ret
        exact ⟨ret_bool HR.out.symm, Below.onto hbel.out (below_regrown _ _ _)⟩
      case pos =>
      subst e2
      by_cases e3 : x3 = y3
      case neg =>
        have HR : Hid (eqF eqM pm0 a b = false) := HNOT.out (by simp [eqM, e3])
        clear HYES HNOT
        go_wp2_with fail
        clear a0 a1 a2 a3 b0 b1 b2 b3
        refine wp_region_quiet_below (by kernel_rfl) (by kernel_rfl) ?_
        repeat (go_big_quiet_step (fail))
        refine wpQuiet_nil ?_
        intro _ hw'
        obtain ⟨⟨dq, osq⟩, hw''⟩ := hw'
        subst hw''
        go_wp2_with fail
        go_ret
        exact ⟨ret_bool HR.out.symm, Below.onto hbel.out (below_regrown _ _ _)⟩
      case pos =>
      subst e3
      have HNX : Hid (∀ j, j < k + 1 → eqM (atM a j) (atM b j) = true) := HYES.out (by simp [eqM])
      clear HYES HNOT
      go_wp2_with fail
      clear a0 a1 a2 a3 b0 b1 b2 b3
      refine wp_region_quiet_below (by kernel_rfl) (by kernel_rfl) ?_
      repeat (go_big_quiet_step (fail))
      refine wpQuiet_nil ?_
      intro _ hw'
      obtain ⟨⟨dq, osq⟩, hw''⟩ := hw'
      subst hw''
      go_wp2_with fail
      exact ⟨⟨k + 1, by omega, by go_num, HNX.out, Below.onto hbel.out (below_regrown _ _ _)⟩, by simp [intOf]; omega⟩
    · obtain rfl : k = a.length := by omega
      have HR : Hid (eqF eqM pm0 a b = true) := eqF_yes HLL.out hall.out
      go_wp2_with fail
      go_ret
      exact ⟨ret_bool HR.out.symm, hbel.out⟩
set_option maxHeartbeats 4000000 in
theorem usameLane_any (a b : PLn) (va vb : Value) (w : World) (hna : a.cl.length ≤ 1000) (hca : Cl w va a.cl) (hcb : Cl w vb b.cl) : Calls Try.prog 59 #[laV a va, laV b vb] w fun e w' => e = .returned (.bool (eqL a b)) ∧ Below w.heap.size w w' := by
  have HA : Hid (Cl w va a.cl) := hca
  have HB : Hid (Cl w vb b.cl) := hcb
  obtain ⟨xa, xc, rfl, _, _, _⟩ := hca
  obtain ⟨ya, yc, rfl, _, _, _⟩ := hcb
  have B2 : Hid (∀ l1 l2, Below w.heap.size w ((w.alloc (.cells l1 94)).alloc (.cells l2 94))) := fun l1 l2 => Below.onto (below_new _ _) (below_new _ _)
  obtain ⟨a0, a1, a2, a3, a4, a5⟩ := a
  obtain ⟨b0, b1, b2, b3, b4, b5⟩ := b
  simp only at HA HB hna
  by_cases e0 : a0 = b0
  case neg =>
    have HR : Hid (eqL ⟨a0, a1, a2, a3, a4, a5⟩ ⟨b0, b1, b2, b3, b4, b5⟩ = false) := by show _ = _; simp [eqL, e0]
    have e0' : (a0 == b0) = false := by simp [e0]
    go_enter Try.func59, Try.ntmps59
    go_wp2_with fail
    go_ret
    exact ⟨ret_bool HR.out.symm, B2.out _ _⟩
  case pos =>
  subst e0
  by_cases e1 : a1 = b1
  case neg =>
    have HR : Hid (eqL ⟨a0, a1, a2, a3, a4, a5⟩ ⟨a0, b1, b2, b3, b4, b5⟩ = false) := by show _ = _; simp [eqL, e1]
    go_enter Try.func59, Try.ntmps59
    go_wp2_with fail
    go_ret
    exact ⟨ret_bool HR.out.symm, B2.out _ _⟩
  case pos =>
  subst e1
  by_cases e2 : a2 = b2
  case neg =>
    have HR : Hid (eqL ⟨a0, a1, a2, a3, a4, a5⟩ ⟨a0, a1, b2, b3, b4, b5⟩ = false) := by show _ = _; simp [eqL, e2]
    go_enter Try.func59, Try.ntmps59
    go_wp2_with fail
    go_ret
    exact ⟨ret_bool HR.out.symm, B2.out _ _⟩
  case pos =>
  subst e2
  have hcall := fun l1 l2 => uequalI_any (.slice xa a3.length xc) (.slice ya b3.length yc) a3 b3 _ hna (HA.out.below (B2.out l1 l2)) (HB.out.below (B2.out l1 l2))
  go_enter Try.func59, Try.ntmps59
  go_wp2_with fail
  obtain ⟨k1, k2, b9, s9⟩ := alloc2 w [.int .i64 a0, .bool a1, .int .i64 a2, .slice xa a3.length xc, .int .i64 a4, .int .i64 a5] 94 [.int .i64 a0, .bool a1, .int .i64 a2, .slice ya b3.length yc, .int .i64 b4, .int .i64 b5] 94
  have K1 : Hid (Blk _ _ _ _) := k1
  have K2 : Hid (Blk _ _ _ _) := k2
  have B9 : Hid (Below _ _ _) := b9
  clear k1 k2 b9 s9
  refine (hcall _ _).mono ?_
  rintro e w3 ⟨rfl, hb⟩
  obtain ⟨p0, p1, p2, p3, p4, p5⟩ := (K1.out.below hb).bx.six
  obtain ⟨r0, r1, r2, r3, r4, r5⟩ := (K2.out.below hb).bx.six
  have HBB : Hid (Below w.heap.size w w3) := Below.onto B9.out hb
  clear hb hcall
  have hq : eqI a3 b3 = true ∨ eqI a3 b3 = false := by cases eqI a3 b3 <;> simp
  rcases hq with hq | hq
  · rw [hq]
    by_cases e4 : a4 = b4
    · subst e4
      have HR : Hid (eqL ⟨a0, a1, a2, a3, a4, a5⟩ ⟨a0, a1, a2, b3, a4, b5⟩ = (a5 == b5)) := by show _ = _; simp [eqL, hq]
      clear hq
      go_wp2_with fail
      go_ret
      exact ⟨ret_bool HR.out.symm, HBB.out⟩
    · have HR : Hid (eqL ⟨a0, a1, a2, a3, a4, a5⟩ ⟨a0, a1, a2, b3, b4, b5⟩ = false) := by show _ = _; simp [eqL, e4]
      have e4' : (a4 == b4) = false := by simp [e4]
      clear hq
      go_wp2_with fail
      go_ret
      exact ⟨ret_bool HR.out.symm, HBB.out⟩
  · have HR : Hid (eqL ⟨a0, a1, a2, a3, a4, a5⟩ ⟨a0, a1, a2, b3, b4, b5⟩ = false) := by show _ = _; simp [eqL, hq]
    rw [hq]
    clear hq
    go_wp2_with fail
    go_ret
    exact ⟨ret_bool HR.out.symm, HBB.out⟩

end Go.Proofs.Ytimmjhegeagofaa
