/- The document's queue: Check, asked. -/
import Derived.Test.YtkgehbonijpdnaaURefL
import Derived.Test.YtkgehbonijpdnaaUChk
namespace Go.Proofs.Ytkgehbonijpdnaa
open Go.RowKit
set_option maxRecDepth 100000

set_option maxHeartbeats 4000000 in
theorem rcheck_any (vl vm : Value) (Q : Qu) (V : Nat → Value) (w : World) (ho : OkQ Q) (hq : QIs w vl vm Q V) : Calls Try.prog 8 #[quV vl vm] w fun e w' => e = .returned (.int .i64 Q.chk) ∧ Below w.heap.size w w' := by
  have hln := fun j W hj h1 => rlane_any vl vm Q V j W hj ho h1
  have HQ : Hid (QIs w vl vm Q V) := hq
  have hn := ho.nl
  have hm := ho.nm
  obtain ⟨la, lc, rfl, _, _, hlr⟩ := hq.l
  obtain ⟨ma, mc, rfl, _, _, hmr⟩ := hq.m
  obtain ⟨k1, b1, s1⟩ := alloc1 w [.slice la Q.ls.length lc, .slice ma Q.ms.length mc] 30
  have K1 : Hid (Blk _ _ _ _) := k1
  have B1 : Hid (Below _ _ _) := b1
  clear hlr hmr hq ho k1 b1 s1
  by_cases h16 : 16 < Q.ls.length
  · have HE : Hid (Q.ok = false) := not_ok (.inl (by omega))
    go_enter Try.func8, Try.ntmps8
    go_wp2_with fail
    go_ret
    exact ⟨ret_int (chk_no HE.out).symm, B1.out⟩
  · have h16' : (Q.ls.length : Int) ≤ 16 := by omega
    have H16 : Hid (Q.ls.length ≤ 16) := by show _ ≤ _; omega
    clear h16
    go_enter Try.func8, Try.ntmps8
    go_wp2_with fail
    generalize w.alloc (.cells #[.slice la Q.ls.length lc, .slice ma Q.ms.length mc] 30) = w1 at *
    go_loopw [3] (fun i wr => ∃ k : Nat, k ≤ Q.ms.length ∧ i = .int .i64 k ∧ Hid (∀ j, j < k → okM Q (atM Q.ms j) = true) ∧ Hid (Below w1.heap.size w1 wr)) (fun i _ => Q.ms.length - (intOf i).toNat)
    case atStart => exact ⟨0, Nat.zero_le _, rfl, fun j hj => absurd hj (by omega), Below.refl _ _⟩
    case round =>
      obtain ⟨k, hk, rfl, hall, hbel⟩ := hrel
      have HBW : Hid (Below w.heap.size w wr) := Below.onto B1.out hbel.out
      obtain ⟨q0, q1⟩ := (K1.out.below hbel.out).bx.two
      by_cases hlt : k < Q.ms.length
      · obtain ⟨b, off, _, e0, h0, h1, h2, h3⟩ := (HQ.out.below HBW.out).msg hlt
        cases e0
        have hz : w.heap.size < wr.heap.size := (K1.out.below hbel.out).lt
        have HXO : Hid (okM Q (atM Q.ms k) = false → Q.ok = false) := fun h => not_ok (.inr (.inl ⟨_, by rw [atM_eq hlt] at *; exact List.getElem_mem hlt, by rw [atM_eq hlt] at h; exact h⟩))
        have HXN : Hid (okM Q (atM Q.ms k) = true → ∀ j, j < k + 1 → okM Q (atM Q.ms j) = true) := fun h j hj => by
          by_cases e : j = k
          · rw [e]; exact h
          · exact hall.out j (by omega)
        generalize atM Q.ms k = x at *
        by_cases g1 : x.ln < 0
        · have HE : Hid (Q.ok = false) := HXO.out (by simp [okM, Qu.hasB]; omega)
          have g1' : decide (x.ln < 0) = true := by simp [g1]
          obtain ⟨k4, b4, s4⟩ := alloc1 wr [.int .i64 x.ln, .int .i64 x.ep, .int .i64 x.n, .int .u64 x.pay] 44
          have K4 : Hid (Blk _ _ _ _) := k4
          have B4 : Hid (Below wr.heap.size wr _) := b4
          obtain ⟨r0, r1, r2, r3⟩ := k4.bx.four
          obtain ⟨p0, p1⟩ := ((K1.out.below hbel.out).below b4).bx.two
          have s0 := cell_regrown p0
          have s1 := cell_regrown p1
          have t0 := cell_regrown r0
          have t1 := cell_regrown r1
          clear k4 b4 s4 r0 r1 r2 r3 p0 p1
          go_wp2_with fail
          generalize wr.alloc (.cells #[.int .i64 x.ln, .int .i64 x.ep, .int .i64 x.n, .int .u64 x.pay] 44) = w4 at *
          clear q0 q1 h0 h1 h2 h3 hz HXO HXN
          refine wp_region_quiet_below (by kernel_rfl) (by kernel_rfl) ?_
          repeat (go_big_quiet_step (fail))
          refine wpQuiet_nil ?_
          intro _ hw'
          obtain ⟨⟨dq, osq⟩, hw''⟩ := hw'
          subst hw''
          go_wp2_with fail
          go_ret
          exact ⟨ret_int (chk_no HE.out).symm, Below.onto (Below.onto HBW.out B4.out) (below_regrown _ _ _)⟩
        · have g1' : decide (x.ln < 0) = false := by simp; omega
          obtain ⟨i, hi⟩ : ∃ i : Nat, x.ln = (i : Int) := ⟨x.ln.toNat, by omega⟩
          by_cases g2 : (Q.ls.length : Int) ≤ (i : Int)
          · have HE : Hid (Q.ok = false) := HXO.out (by simp [okM, Qu.hasB, hi]; omega)
            have g2' : decide ((Q.ls.length : Int) ≤ (i : Int)) = true := by simp; omega
            rw [hi] at h0 g1' g1
            clear hi
            obtain ⟨k4, b4, s4⟩ := alloc1 wr [.int .i64 (i : Int), .int .i64 x.ep, .int .i64 x.n, .int .u64 x.pay] 44
            have K4 : Hid (Blk _ _ _ _) := k4
            have B4 : Hid (Below wr.heap.size wr _) := b4
            obtain ⟨r0, r1, r2, r3⟩ := k4.bx.four
            obtain ⟨p0, p1⟩ := ((K1.out.below hbel.out).below b4).bx.two
            have s0 := cell_regrown p0
            have s1 := cell_regrown p1
            have t0 := cell_regrown r0
            have t1 := cell_regrown r1
            clear k4 b4 s4 r0 r1 r2 r3 p0 p1
            go_wp2_with fail
            generalize wr.alloc (.cells #[.int .i64 (i : Int), .int .i64 x.ep, .int .i64 x.n, .int .u64 x.pay] 44) = w4 at *
            clear q0 q1 h0 h1 h2 h3 hz HXO HXN
            refine wp_region_quiet_below (by kernel_rfl) (by kernel_rfl) ?_
            repeat (go_big_quiet_step (fail))
            refine wpQuiet_nil ?_
            intro _ hw'
            obtain ⟨⟨dq, osq⟩, hw''⟩ := hw'
            subst hw''
            go_wp2_with fail
            go_ret
            exact ⟨ret_int (chk_no HE.out).symm, Below.onto (Below.onto HBW.out B4.out) (below_regrown _ _ _)⟩
          · have g2' : decide ((Q.ls.length : Int) ≤ (i : Int)) = false := by simp; omega
            have g2n : decide (Q.ls.length ≤ i) = false := by simp; omega
            have hin : i < Q.ls.length := by omega
            have i1 : (0 : Int) ≤ (i : Int) := by omega
            have i2 : (i : Int) < (Q.ls.length : Int) := by omega
            have HLN : Hid (okM Q x = (x.ep == (atP Q.ls i).ep)) := by
              show _ = _
              rw [okM, hi]
              simp [Qu.hasB, Qu.lane, hin]
            obtain ⟨ye, hye⟩ : ∃ ye, ye = (atP Q.ls i).ep := ⟨_, rfl⟩
            have HYE : Hid (ye = (atP Q.ls i).ep) := hye
            rw [hi] at h0 g1' g1
            clear hi hye
            by_cases hep : x.ep = ye
            · have hep1 : (x.ep == ye) = true := by simp [hep]
              have HN := HXN.out (by rw [HLN.out, ← HYE.out]; exact hep1)
              have HN : Hid (∀ j, j < k + 1 → okM Q (atM Q.ms j) = true) := HN
              clear hep
              obtain ⟨k4, b4, s4⟩ := alloc1 wr [.int .i64 (i : Int), .int .i64 x.ep, .int .i64 x.n, .int .u64 x.pay] 44
              have K4 : Hid (Blk _ _ _ _) := k4
              have B4 : Hid (Below wr.heap.size wr _) := b4
              obtain ⟨r0, r1, r2, r3⟩ := k4.bx.four
              obtain ⟨p0, p1⟩ := ((K1.out.below hbel.out).below b4).bx.two
              have s0 := cell_regrown p0
              have s1 := cell_regrown p1
              have t0 := cell_regrown r0
              have t1 := cell_regrown r1
              obtain ⟨bl, ol, _, ca, cc, e0, _, _, _, _, _, _, c5⟩ := ((HQ.out.below HBW.out).below b4).at hin
              cases e0
              rw [← HYE.out] at c5
              have t5 := cell_regrown c5
              clear k4 b4 s4 r0 r1 r2 r3 p0 p1 c5
              go_wp2_with fail
              generalize wr.alloc (.cells #[.int .i64 (i : Int), .int .i64 x.ep, .int .i64 x.n, .int .u64 x.pay] 44) = w4 at *
              clear q0 q1 h0 h1 h2 h3 hz HXO HXN
              refine wp_region_quiet_below (by kernel_rfl) (by kernel_rfl) ?_
              repeat (go_big_quiet_step (fail))
              refine wpQuiet_nil ?_
              intro _ hw'
              obtain ⟨⟨dq, osq⟩, hw''⟩ := hw'
              subst hw''
              go_wp2_with fail
              exact ⟨⟨k + 1, by omega, by go_num, HN.out, Below.onto (Below.onto hbel.out B4.out) (below_regrown _ _ _)⟩, by simp [intOf]; omega⟩
            · have hep1 : (x.ep == ye) = false := by simp [hep]
              have HE : Hid (Q.ok = false) := HXO.out (by rw [HLN.out, ← HYE.out]; exact hep1)
              clear hep
              obtain ⟨k4, b4, s4⟩ := alloc1 wr [.int .i64 (i : Int), .int .i64 x.ep, .int .i64 x.n, .int .u64 x.pay] 44
              have K4 : Hid (Blk _ _ _ _) := k4
              have B4 : Hid (Below wr.heap.size wr _) := b4
              obtain ⟨r0, r1, r2, r3⟩ := k4.bx.four
              obtain ⟨p0, p1⟩ := ((K1.out.below hbel.out).below b4).bx.two
              have s0 := cell_regrown p0
              have s1 := cell_regrown p1
              have t0 := cell_regrown r0
              have t1 := cell_regrown r1
              obtain ⟨bl, ol, _, ca, cc, e0, _, _, _, _, _, _, c5⟩ := ((HQ.out.below HBW.out).below b4).at hin
              cases e0
              rw [← HYE.out] at c5
              have t5 := cell_regrown c5
              clear k4 b4 s4 r0 r1 r2 r3 p0 p1 c5
              go_wp2_with fail
              generalize wr.alloc (.cells #[.int .i64 (i : Int), .int .i64 x.ep, .int .i64 x.n, .int .u64 x.pay] 44) = w4 at *
              clear q0 q1 h0 h1 h2 h3 hz HXO HXN
              refine wp_region_quiet_below (by kernel_rfl) (by kernel_rfl) ?_
              repeat (go_big_quiet_step (fail))
              refine wpQuiet_nil ?_
              intro _ hw'
              obtain ⟨⟨dq, osq⟩, hw''⟩ := hw'
              subst hw''
              go_wp2_with fail
              go_ret
              exact ⟨ret_int (chk_no HE.out).symm, Below.onto (Below.onto HBW.out B4.out) (below_regrown _ _ _)⟩
      · obtain rfl : k = Q.ms.length := by omega
        obtain ⟨wx, hwx⟩ : ∃ x, x = wr := ⟨wr, rfl⟩
        subst hwx
        have HMS : Hid (∀ m ∈ Q.ms, okM Q m = true) := fun m hm => by
          obtain ⟨j, hj, e⟩ := List.mem_iff_getElem.1 hm
          have := hall.out j hj
          rwa [atM_eq hj, e] at this
        have KX : Hid (Blk wx _ _ _) := K1.out.below hbel.out
        clear hall hlt hk
        go_wp2_with fail
        clear q0 q1
        go_loopw [5] (fun i wr => ∃ k : Nat, k ≤ Q.ls.length ∧ i = .int .i64 k ∧ Hid (∀ j, j < k → okL (atP Q.ls j) (cnt Q.ms (j : Int)) = true) ∧ Hid (Below wx.heap.size wx wr)) (fun i _ => Q.ls.length - (intOf i).toNat)
        case atStart => exact ⟨0, Nat.zero_le _, rfl, fun j hj => absurd hj (by omega), Below.refl _ _⟩
        case round =>
          obtain ⟨k, hk, rfl, hall, hbel2⟩ := hrel
          have HBV : Hid (Below w.heap.size w wr) := Below.onto HBW.out hbel2.out
          obtain ⟨q0, q1⟩ := (KX.out.below hbel2.out).bx.two
          by_cases hlt : k < Q.ls.length
          · have hlk := hln k wr hlt (HQ.out.below HBV.out)
            have HOK : Hid (okL (atP Q.ls k) (cnt Q.ms (k : Int)) = true → ∀ j, j < k + 1 → okL (atP Q.ls j) (cnt Q.ms (j : Int)) = true) := fun h j hj => by
              by_cases e : j = k
              · rw [e]; exact h
              · exact hall.out j (by omega)
            have HNO : Hid (okL (atP Q.ls k) (cnt Q.ms (k : Int)) = false → Q.ok = false) := fun h => not_ok (.inr (.inr ⟨k, hlt, h⟩))
            generalize okL (atP Q.ls k) (cnt Q.ms (k : Int)) = bb at *
            cases bb
            · have HE : Hid (Q.ok = false) := HNO.out rfl
              clear HOK HNO
              go_wp2_with fail
              refine hlk.mono ?_
              rintro e w6 ⟨rfl, h6⟩
              go_wp2_with fail
              go_ret
              exact ⟨ret_int (chk_no HE.out).symm, Below.onto HBV.out h6⟩
            · have HE : Hid (∀ j, j < k + 1 → okL (atP Q.ls j) (cnt Q.ms (j : Int)) = true) := HOK.out rfl
              clear HOK HNO
              go_wp2_with fail
              refine hlk.mono ?_
              rintro e w6 ⟨rfl, h6⟩
              go_wp2_with fail
              exact ⟨⟨k + 1, by omega, by go_num, HE.out, Below.onto hbel2.out h6⟩, by simp [intOf]; omega⟩
          · obtain rfl : k = Q.ls.length := by omega
            have HE : Hid (Q.ok = true) := (ok_iff Q).2 ⟨H16.out, HMS.out, hall.out⟩
            go_wp2_with fail
            go_ret
            exact ⟨ret_int (chk_ok HE.out).symm, HBV.out⟩
end Go.Proofs.Ytkgehbonijpdnaa
