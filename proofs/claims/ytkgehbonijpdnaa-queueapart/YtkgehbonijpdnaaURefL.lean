/- The document's queue: lane. -/
import Derived.Test.YtkgehbonijpdnaaURefA
namespace Go.Proofs.Ytkgehbonijpdnaa
open Go.RowKit
set_option maxRecDepth 100000

theorem okL_no {x : PLn} {q : Nat} (h : hasCr x = false ∨ hasNo x = false) : okL x q = false := by
  rcases h with h | h <;> simp [okL, h]
theorem no_cr {x : PLn} (h : x.cr < 1 ∨ 64 < x.cr ∨ x.lf < 0 ∨ x.cr < x.lf) : hasCr x = false := by
  rw [Bool.eq_false_iff]
  intro e
  have := hasCr_iff.1 e
  omega
theorem no_no {x : PLn} (h : x.nx < 0 ∨ 1099511627776 < x.nx ∨ x.ep < 0 ∨ 1099511627776 < x.ep) : hasNo x = false := by
  rw [Bool.eq_false_iff]
  intro e
  have := hasNo_iff.1 e
  omega
theorem okL_in {x : PLn} {q : Nat} (h1 : hasCr x = true) (h2 : hasNo x = true) (h3 : upto x.nx x.cl x.cl.length) : okL x q = decide ((x.cl.length : Int) + q ≤ x.cr - x.lf) := by
  rw [okL, h1, h2, ris_upto.2 h3]
  simp [covB, tkn]
  omega
theorem okL_ris {x : PLn} {q k : Nat} (hk : k < x.cl.length) (h3 : atI x.cl k < 0 ∨ x.nx ≤ atI x.cl k ∨ (0 < k ∧ atI x.cl k ≤ atI x.cl (k - 1))) : okL x q = false := by
  have : ris x.nx 0 x.cl = false := by
    rw [Bool.eq_false_iff]
    intro e
    have h := ris_upto.1 e k hk
    rcases h3 with h3 | h3 | ⟨h3, h4⟩
    · omega
    · omega
    · have := h.2.2 h3; omega
  simp [okL, this]
set_option maxHeartbeats 4000000 in
theorem rlane_any (vl vm : Value) (Q : Qu) (V : Nat → Value) (j : Nat) (w : World) (hjn : j < Q.ls.length) (ho : OkQ Q) (hq : QIs w vl vm Q V) : Calls Try.prog 16 #[quV vl vm, .int .i64 (j : Int)] w fun e w' => e = .returned (.bool (okL (atP Q.ls j) (cnt Q.ms (j : Int)))) ∧ Below w.heap.size w w' := by
  have hmg := fun W h1 => rmessages_any vl vm Q V (j : Int) W ho h1
  have hnc := ho.nc j hjn
  have hcn : cnt Q.ms (j : Int) ≤ 1000 := Nat.le_trans (cnt_le _ _) ho.nm
  have HQ : Hid (QIs w vl vm Q V) := hq
  obtain ⟨ma, mc, rfl, _, _, hmr⟩ := hq.m
  have HCL := hq.c j hjn
  obtain ⟨bl, ol, lc, ca, cc, rfl, hV, c0, c1, c2, c3, c4, c5⟩ := hq.at hjn
  rw [hV] at HCL
  have HCL : Hid (Cl w _ _) := HCL
  have j1 : (0 : Int) ≤ (j : Int) := by omega
  have j2 : (j : Int) < (Q.ls.length : Int) := by omega
  have hbl : bl < w.heap.size := cell_lt c0
  generalize cnt Q.ms (j : Int) = q at *
  generalize atP Q.ls j = x at *
  obtain ⟨k1, k2, b2, s2⟩ := alloc2 w [.slice (some ⟨bl, ol, none⟩) Q.ls.length lc, .slice ma Q.ms.length mc] 30 [.int .i64 x.cr, .bool x.tw, .int .i64 x.lf, .slice ca x.cl.length cc, .int .i64 x.nx, .int .i64 x.ep] 57
  have K1 : Hid (Blk _ _ _ _) := k1
  have K2 : Hid (Blk _ _ _ _) := k2
  have B2 : Hid (Below _ _ _) := b2
  clear hq ho hmr hV k1 k2 b2 s2
  by_cases h0 : x.cr < 1
  · have HR : Hid (okL x q = false) := okL_no (.inl (no_cr (.inl h0)))
    go_enter Try.func16, Try.ntmps16
    go_wp2_with fail
    go_ret
    exact ⟨ret_bool HR.out.symm, B2.out⟩
  by_cases h1 : 64 < x.cr
  · have HR : Hid (okL x q = false) := okL_no (.inl (no_cr (.inr (.inl h1))))
    go_enter Try.func16, Try.ntmps16
    go_wp2_with fail
    go_ret
    exact ⟨ret_bool HR.out.symm, B2.out⟩
  by_cases h2 : x.lf < 0
  · have HR : Hid (okL x q = false) := okL_no (.inl (no_cr (.inr (.inr (.inl h2)))))
    go_enter Try.func16, Try.ntmps16
    go_wp2_with fail
    go_ret
    exact ⟨ret_bool HR.out.symm, B2.out⟩
  by_cases h3 : x.cr < x.lf
  · have HR : Hid (okL x q = false) := okL_no (.inl (no_cr (.inr (.inr (.inr h3)))))
    go_enter Try.func16, Try.ntmps16
    go_wp2_with fail
    go_ret
    exact ⟨ret_bool HR.out.symm, B2.out⟩
  by_cases h4 : x.nx < 0
  · have HR : Hid (okL x q = false) := okL_no (.inr (no_no (.inl h4)))
    go_enter Try.func16, Try.ntmps16
    go_wp2_with fail
    go_ret
    exact ⟨ret_bool HR.out.symm, B2.out⟩
  by_cases h5 : 1099511627776 < x.nx
  · have HR : Hid (okL x q = false) := okL_no (.inr (no_no (.inr (.inl h5))))
    go_enter Try.func16, Try.ntmps16
    go_wp2_with fail
    go_ret
    exact ⟨ret_bool HR.out.symm, B2.out⟩
  by_cases h6 : x.ep < 0
  · have HR : Hid (okL x q = false) := okL_no (.inr (no_no (.inr (.inr (.inl h6)))))
    go_enter Try.func16, Try.ntmps16
    go_wp2_with fail
    go_ret
    exact ⟨ret_bool HR.out.symm, B2.out⟩
  by_cases h7 : 1099511627776 < x.ep
  · have HR : Hid (okL x q = false) := okL_no (.inr (no_no (.inr (.inr (.inr h7)))))
    go_enter Try.func16, Try.ntmps16
    go_wp2_with fail
    go_ret
    exact ⟨ret_bool HR.out.symm, B2.out⟩
  have HCR : Hid (hasCr x = true) := hasCr_iff.2 (by omega)
  have HNO : Hid (hasNo x = true) := hasNo_iff.2 (by omega)
  obtain ⟨⟨e0, e1⟩, e2, e3⟩ := hasCr_iff.1 HCR.out
  obtain ⟨⟨e4, e5⟩, e6, e7⟩ := hasNo_iff.1 HNO.out
  clear h0 h1 h2 h3 h4 h5 h6 h7
  go_enter Try.func16, Try.ntmps16
  go_wp2_with fail
  generalize (w.alloc (.cells #[.slice (some ⟨bl, ol, none⟩) Q.ls.length lc, .slice ma Q.ms.length mc] 30)).alloc (.cells #[.int .i64 x.cr, .bool x.tw, .int .i64 x.lf, .slice ca x.cl.length cc, .int .i64 x.nx, .int .i64 x.ep] 57) = w2 at *
  clear c0 c1 c2 c3 c4 c5
  go_loopw [6] (fun i wr => ∃ k : Nat, k ≤ x.cl.length ∧ i = .int .i64 k ∧ Hid (upto x.nx x.cl k) ∧ Hid (Below w2.heap.size w2 wr)) (fun i _ => x.cl.length - (intOf i).toNat)
  case atStart => exact ⟨0, Nat.zero_le _, rfl, fun j hj => absurd hj (by omega), Below.refl _ _⟩
  case round =>
    obtain ⟨k, hk, rfl, hup, hbel⟩ := hrel
    obtain ⟨p0, p1⟩ := (K1.out.below hbel.out).bx.two
    obtain ⟨r0, r1, r2, r3, r4, r5⟩ := (K2.out.below hbel.out).bx.six
    have HBW : Hid (Below w.heap.size w wr) := Below.onto B2.out hbel.out
    by_cases hlt : k < x.cl.length
    · have HK := (HCL.out.below HBW.out)
      obtain ⟨_, _, ee, _, _, hrd⟩ := HK
      cases ee
      obtain ⟨b, off, rfl, hce⟩ := hrd k hlt
      have c0 : wr.cell? ⟨b, off + k, none⟩ = some (.int .i64 (atI x.cl k)) := by have := hce 0 (by omega); rwa [Nat.mul_one, Nat.add_zero] at this
      have t3 := cell_regrown r3
      have t4 := cell_regrown r4
      have t0 := cell_regrown c0
      have i1 : (0 : Int) ≤ (k : Int) := by omega
      have i2 : (k : Int) < (x.cl.length : Int) := by omega
      by_cases g1 : atI x.cl k < 0
      · have HR : Hid (okL x q = false) := okL_ris hlt (.inl g1)
        have g1' : decide (atI x.cl k < 0) = true := by simp [g1]
        generalize atI x.cl k = c at *
        go_wp2_with fail
        clear c0 r0 r1 r2 r3 r4 r5 hce hrd
        refine wp_region_quiet_below (by kernel_rfl) (by kernel_rfl) ?_
        repeat (go_big_quiet_step (fail))
        refine wpQuiet_nil ?_
        intro _ hw'
        obtain ⟨⟨dq, osq⟩, hw''⟩ := hw'
        subst hw''
        go_wp2_with fail
        go_ret
        exact ⟨ret_bool HR.out.symm, Below.onto HBW.out (below_regrown _ _ _)⟩
      · have g1' : decide (atI x.cl k < 0) = false := by simp; omega
        by_cases g2 : x.nx ≤ atI x.cl k
        · have HR : Hid (okL x q = false) := okL_ris hlt (.inr (.inl g2))
          have g2' : decide (x.nx ≤ atI x.cl k) = true := by simp [g2]
          generalize atI x.cl k = c at *
          go_wp2_with fail
          clear c0 r0 r1 r2 r3 r4 r5 hce hrd
          refine wp_region_quiet_below (by kernel_rfl) (by kernel_rfl) ?_
          repeat (go_big_quiet_step (fail))
          refine wpQuiet_nil ?_
          intro _ hw'
          obtain ⟨⟨dq, osq⟩, hw''⟩ := hw'
          subst hw''
          go_wp2_with fail
          go_ret
          exact ⟨ret_bool HR.out.symm, Below.onto HBW.out (below_regrown _ _ _)⟩
        · have g2' : decide (x.nx ≤ atI x.cl k) = false := by simp; omega
          rcases Nat.eq_zero_or_pos k with hk0 | hk0
          · subst hk0
            have t9 := cell_regrown (show wr.cell? ⟨b, off, none⟩ = some (.int .i64 (atI x.cl 0)) from c0)
            clear t0
            have HUP : Hid (upto x.nx x.cl (0 + 1)) := fun i hi => by
              obtain rfl : i = 0 := by omega
              exact ⟨by omega, by omega, fun h => absurd h (by omega)⟩
            generalize atI x.cl 0 = c at *
            go_wp2_with fail
            clear c0 r0 r1 r2 r3 r4 r5 hce
            refine wp_region_quiet_below (by kernel_rfl) (by kernel_rfl) ?_
            repeat (go_big_quiet_step (fail))
            refine wpQuiet_nil ?_
            intro _ hw'
            obtain ⟨⟨dq, osq⟩, hw''⟩ := hw'
            subst hw''
            go_wp2_with fail
            refine ⟨⟨0 + 1, by omega, by go_num, HUP.out, Below.onto hbel.out (below_regrown _ _ _)⟩, by simp [intOf]; omega⟩
          · obtain ⟨k', rfl⟩ : ∃ k', k = k' + 1 := ⟨k - 1, by omega⟩
            obtain ⟨_, _, ee2, hce2⟩ := hrd k' (by omega)
            cases ee2
            have d0 : wr.cell? ⟨b, off + k', none⟩ = some (.int .i64 (atI x.cl k')) := by have := hce2 0 (by omega); rwa [Nat.mul_one, Nat.add_zero] at this
            have u0 := cell_regrown d0
            have i3 : (0 : Int) ≤ (k' : Int) := by omega
            have i4 : (k' : Int) < (x.cl.length : Int) := by omega
            have i5 : decide ((0 : Int) < ((k' + 1 : Nat) : Int)) = true := by simp
            have i6 : (0 : Int) < ((k' + 1 : Nat) : Int) := by omega
            by_cases g3 : atI x.cl (k' + 1) ≤ atI x.cl k'
            · have HR : Hid (okL x q = false) := okL_ris hlt (.inr (.inr ⟨hk0, g3⟩))
              have g3' : decide (atI x.cl (k' + 1) ≤ atI x.cl k') = true := by simp [g3]
              generalize atI x.cl (k' + 1) = c at *
              generalize atI x.cl k' = c' at *
              go_wp2_with fail
              clear c0 d0 r0 r1 r2 r3 r4 r5 hce hce2 hrd
              refine wp_region_quiet_below (by kernel_rfl) (by kernel_rfl) ?_
              repeat (go_big_quiet_step (fail))
              refine wpQuiet_nil ?_
              intro _ hw'
              obtain ⟨⟨dq, osq⟩, hw''⟩ := hw'
              subst hw''
              go_wp2_with fail
              go_ret
              exact ⟨ret_bool HR.out.symm, Below.onto HBW.out (below_regrown _ _ _)⟩
            · have g3' : decide (atI x.cl (k' + 1) ≤ atI x.cl k') = false := by simp; omega
              have HUP : Hid (upto x.nx x.cl (k' + 1 + 1)) := fun i hi => by
                by_cases e : i = k' + 1
                · subst e; exact ⟨by omega, by omega, fun _ => by show atI x.cl k' < _; omega⟩
                · exact hup.out i (by omega)
              generalize atI x.cl (k' + 1) = c at *
              generalize atI x.cl k' = c' at *
              go_wp2_with fail
              clear c0 d0 r0 r1 r2 r3 r4 r5 hce hce2 hrd
              refine wp_region_quiet_below (by kernel_rfl) (by kernel_rfl) ?_
              repeat (go_big_quiet_step (fail))
              refine wpQuiet_nil ?_
              intro _ hw'
              obtain ⟨⟨dq, osq⟩, hw''⟩ := hw'
              subst hw''
              go_wp2_with fail
              refine ⟨⟨k' + 1 + 1, by omega, by go_num, HUP.out, Below.onto hbel.out (below_regrown _ _ _)⟩, by simp [intOf]; omega⟩
    · obtain rfl : k = x.cl.length := by omega
      have hml := regrown_call (w := wr) fun W hW => hmg W (HQ.out.below (Below.onto HBW.out hW))
      have HR : Hid (okL x q = decide ((x.cl.length : Int) + q ≤ x.cr - x.lf)) := okL_in HCR.out HNO.out hup.out
      have s0 := cell_regrown p0
      have s1 := cell_regrown p1
      have t0 := cell_regrown r0
      have t2 := cell_regrown r2
      have t3 := cell_regrown r3
      go_wp2_with fail
      refine wp_region_quiet_below (by kernel_rfl) (by kernel_rfl) ?_
      repeat (go_big_quiet_step (with_reducible exact hml _ _))
      refine wpQuiet_nil ?_
      intro _ hw'
      obtain ⟨⟨dq, osq⟩, hw''⟩ := hw'
      subst hw''
      go_wp2_with fail
      go_ret
      exact ⟨ret_bool HR.out.symm, Below.onto HBW.out (below_regrown _ _ _)⟩

end Go.Proofs.Ytkgehbonijpdnaa
