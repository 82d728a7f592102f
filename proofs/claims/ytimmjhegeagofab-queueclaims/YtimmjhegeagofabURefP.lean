/- The document's place, Ready. -/
import Derived.Test.YtimmjhegeagofabURefC
import Derived.Test.YtimmjhegeagofabUOpen
namespace Go.Proofs.Ytimmjhegeagofab
open Go.RowKit
set_option maxRecDepth 100000

/-- the place of a claim: none, or one that is 0 for the first -/
def Plc (Q : Qu) (ln n ep r : Int) : Prop := (Q.hasB ln && opn (Q.lane ln) n ep) = false ∧ r = -1 ∨ (Q.hasB ln = true ∧ opn (Q.lane ln) n ep = true ∧ 0 ≤ r ∧ (r = 0 ↔ atI (Q.lane ln).cl 0 = n))
set_option maxHeartbeats 4000000 in
theorem rplace_any (vl vm : Value) (Q : Qu) (V : Nat → Value) (ln n ep : Int) (w : World) (ho : OkQ Q) (hq : QIs w vl vm Q V) : Calls Try.prog 52 #[quV vl vm, clV ln n ep] w fun e w' => ∃ r : Int, e = .returned (.int .i64 r) ∧ Plc Q ln n ep r ∧ Below w.heap.size w w' := by
  have HQ : Hid (QIs w vl vm Q V) := hq
  have HO : Hid (OkQ Q) := ho
  obtain ⟨la, lc, rfl, _, _, hlr⟩ := hq.l
  obtain ⟨ma, mc, rfl, _, _, hmr⟩ := hq.m
  obtain ⟨k1, k2, b2, s2⟩ := alloc2 w [.slice la Q.ls.length lc, .slice ma Q.ms.length mc] 25 [.int .i64 ln, .int .i64 n, .int .i64 ep] 27
  have K1 : Hid (Blk _ _ _ _) := k1
  have K2 : Hid (Blk _ _ _ _) := k2
  have B2 : Hid (Below _ _ _) := b2
  clear hlr hmr hq ho k1 k2 b2 s2
  by_cases g1 : ln < 0
  · have HR : Hid ((Q.hasB ln && opn (Q.lane ln) n ep) = false) := by show _ = _; simp [Qu.hasB]; intro h; omega
    have g1' : decide (ln < 0) = true := by simp [g1]
    clear g1
    go_enter Try.func52, Try.ntmps52
    go_wp2_with fail
    generalize (w.alloc (.cells #[.slice la Q.ls.length lc, .slice ma Q.ms.length mc] 25)).alloc (.cells #[.int .i64 ln, .int .i64 n, .int .i64 ep] 27) = w2 at *
    obtain ⟨p0, p1⟩ := K1.out.bx.two
    obtain ⟨r0, r1, r2⟩ := K2.out.bx.three
    have s0 := cell_regrown p0
    have s1 := cell_regrown p1
    have t0 := cell_regrown r0
    have t1 := cell_regrown r1
    have t2 := cell_regrown r2
    clear p0 p1 r0 r1 r2
    refine wp_region_quiet_below (by kernel_rfl) (by kernel_rfl) ?_
    repeat (go_big_quiet_step (fail))
    refine wpQuiet_nil ?_
    intro _ hw'
    obtain ⟨⟨dq, osq⟩, hw''⟩ := hw'
    subst hw''
    go_wp2_with fail
    go_ret
    exact ⟨-1, rfl, .inl ⟨HR.out, rfl⟩, Below.onto B2.out (below_regrown _ _ _)⟩
  · have g1' : decide (ln < 0) = false := by simp; omega
    by_cases g2 : (Q.ls.length : Int) ≤ ln
    · have HR : Hid ((Q.hasB ln && opn (Q.lane ln) n ep) = false) := by show _ = _; simp [Qu.hasB]; intro _ h; omega
      have g2' : decide ((Q.ls.length : Int) ≤ ln) = true := by simp [g2]
      clear g1 g2
      go_enter Try.func52, Try.ntmps52
      go_wp2_with fail
      generalize (w.alloc (.cells #[.slice la Q.ls.length lc, .slice ma Q.ms.length mc] 25)).alloc (.cells #[.int .i64 ln, .int .i64 n, .int .i64 ep] 27) = w2 at *
      obtain ⟨p0, p1⟩ := K1.out.bx.two
      obtain ⟨r0, r1, r2⟩ := K2.out.bx.three
      have s0 := cell_regrown p0
      have s1 := cell_regrown p1
      have t0 := cell_regrown r0
      have t1 := cell_regrown r1
      have t2 := cell_regrown r2
      clear p0 p1 r0 r1 r2
      refine wp_region_quiet_below (by kernel_rfl) (by kernel_rfl) ?_
      repeat (go_big_quiet_step (fail))
      refine wpQuiet_nil ?_
      intro _ hw'
      obtain ⟨⟨dq, osq⟩, hw''⟩ := hw'
      subst hw''
      go_wp2_with fail
      go_ret
      exact ⟨-1, rfl, .inl ⟨HR.out, rfl⟩, Below.onto B2.out (below_regrown _ _ _)⟩
    · obtain ⟨j, rfl⟩ : ∃ j : Nat, ln = (j : Int) := ⟨ln.toNat, by omega⟩
      have hjn : j < Q.ls.length := by omega
      have hH : Q.hasB (j : Int) = true := by simp [Qu.hasB]; omega
      have hlane : Q.lane (j : Int) = atP Q.ls j := by simp [Qu.lane]
      have g2' : decide ((Q.ls.length : Int) ≤ (j : Int)) = false := by simp; omega
      have g2n : decide (Q.ls.length ≤ j) = false := by simp; omega
      have j1 : (0 : Int) ≤ (j : Int) := by omega
      have j2 : (j : Int) < (Q.ls.length : Int) := by omega
      have HQ2 : Hid (QIs _ _ _ _ _) := HQ.out.below B2.out
      have HCL := HQ2.out.c j hjn
      obtain ⟨bl, ol, _, ca, cc, e0, hV, c0, c1, c2, c3, c4, c5⟩ := HQ2.out.at hjn
      cases e0
      rw [hV] at HCL
      have HCL : Hid (Cl _ _ _) := HCL
      have hnc := HO.out.nc j hjn
      have HPL : Hid (∀ r, (opn (atP Q.ls j) n ep = false ∧ r = -1 ∨ (opn (atP Q.ls j) n ep = true ∧ 0 ≤ r ∧ (r = 0 ↔ atI (atP Q.ls j).cl 0 = n))) → Plc Q (j : Int) n ep r) := fun r h => by
        unfold Plc
        rw [hlane, hH]
        rcases h with ⟨h1, h2⟩ | ⟨h1, h2, h3⟩
        · exact .inl ⟨by rw [h1]; rfl, h2⟩
        · exact .inr ⟨rfl, h1, h2, h3⟩
      clear g1 g2 hH hlane hV c0 c1 c2 c4
      generalize atP Q.ls j = x at *
      by_cases hep : x.ep = ep
      · have HEP : Hid (x.ep = ep) := hep
        have hep1 : (x.ep == ep) = true := by simp [hep]
        clear hep
        go_enter Try.func52, Try.ntmps52
        go_wp2_with fail
        generalize (w.alloc (.cells #[.slice (some ⟨bl, ol, none⟩) Q.ls.length lc, .slice ma Q.ms.length mc] 25)).alloc (.cells #[.int .i64 (j : Int), .int .i64 n, .int .i64 ep] 27) = w2 at *
        obtain ⟨p0, p1⟩ := K1.out.bx.two
        obtain ⟨r0, r1, r2⟩ := K2.out.bx.three
        have s0 := cell_regrown p0
        have s1 := cell_regrown p1
        have t0 := cell_regrown r0
        have t1 := cell_regrown r1
        have t2 := cell_regrown r2
        have v3 := cell_regrown c3
        have v5 := cell_regrown c5
        clear p0 p1 r0 r1 r2 c3 c5
        refine wp_region_quiet_below (by kernel_rfl) (by kernel_rfl) ?_
        repeat (go_big_quiet_step (fail))
        refine wpQuiet_nil ?_
        intro _ hw'
        obtain ⟨⟨dq, osq⟩, hw''⟩ := hw'
        subst hw''
        have b3 := below_regrown w2 dq osq
        have hW7 : Go.Sort.grow (redrawn w2 (Regrown.mk dq osq).d) (Regrown.mk dq osq).os = Go.Sort.grow (redrawn w2 dq) osq := rfl
        rw [hW7]
        have s0' := s0 dq osq
        have t0' := t0 dq osq
        have v3' := v3 dq osq
        clear hW7 s0 s1 t0 t1 t2 v3 v5
        generalize Go.Sort.grow (redrawn w2 dq) osq = w3 at *
        have K2b : Hid (Blk w3 _ _ _) := K2.out.below b3
        have HCL3 : Hid (Cl w3 _ _) := HCL.out.below b3
        have B3 : Hid (Below w.heap.size w w3) := Below.onto B2.out b3
        clear b3
        go_wp2_with fail
        clear s0' t0' v3'
        go_loopw [6] (fun i wr => ∃ k : Nat, k ≤ x.cl.length ∧ i = .int .i64 k ∧ Hid (∀ j, j < k → (atI x.cl j == n) = false) ∧ Hid (Below w3.heap.size w3 wr)) (fun i _ => x.cl.length - (intOf i).toNat)
        case atStart => exact ⟨0, Nat.zero_le _, rfl, fun j hj => absurd hj (by omega), Below.refl _ _⟩
        case round =>
          obtain ⟨k, hk, rfl, hall, hbel⟩ := hrel
          obtain ⟨r0, r1, r2⟩ := (K2b.out.below hbel.out).bx.three
          by_cases hlt : k < x.cl.length
          · obtain ⟨_, _, ea, _, _, hra⟩ := HCL3.out.below hbel.out
            cases ea
            obtain ⟨ba, oa, rfl, hca⟩ := hra k hlt
            have d0 : wr.cell? ⟨ba, oa + k, none⟩ = some (.int .i64 (atI x.cl k)) := by have := hca 0 (by omega); rwa [Nat.mul_one, Nat.add_zero] at this
            have t1 := cell_regrown r1
            have t0 := cell_regrown d0
            have i1 : (0 : Int) ≤ (k : Int) := by omega
            have i2 : (k : Int) < (x.cl.length : Int) := by omega
            by_cases he : atI x.cl k = n
            · have he1 : (atI x.cl k == n) = true := by simp [he]
              have HF : Hid (opn x n ep = true ∧ ((k : Int) = 0 ↔ atI x.cl 0 = n)) := by
                refine ⟨?_, ?_⟩
                · have := any_first hlt he1
                  simp [opn, HEP.out, this]
                · constructor
                  · intro h
                    have : k = 0 := by omega
                    rw [← this]
                    exact he
                  · intro h
                    rcases Nat.eq_zero_or_pos k with h0 | h0
                    · rw [h0]; rfl
                    · have := hall.out 0 h0
                      rw [h] at this
                      simp at this
              clear he
              generalize atI x.cl k = y at *
              go_wp2_with fail
              clear d0 r0 r1 r2 hca hra
              refine wp_region_quiet_below (by kernel_rfl) (by kernel_rfl) ?_
              repeat (go_big_quiet_step (fail))
              refine wpQuiet_nil ?_
              intro _ hw'
              obtain ⟨⟨dq, osq⟩, hw''⟩ := hw'
              subst hw''
              go_wp2_with fail
              go_ret
              exact ⟨(k : Int), rfl, HPL.out _ (.inr ⟨HF.out.1, i1, HF.out.2⟩), Below.onto (Below.onto B3.out hbel.out) (below_regrown _ _ _)⟩
            · have he1 : (atI x.cl k == n) = false := by simp [he]
              have HNX : Hid (∀ j, j < k + 1 → (atI x.cl j == n) = false) := fun j hj => by
                by_cases e : j = k
                · rw [e]; exact he1
                · exact hall.out j (by omega)
              clear he
              generalize atI x.cl k = y at *
              go_wp2_with fail
              clear d0 r0 r1 r2 hca hra
              refine wp_region_quiet_below (by kernel_rfl) (by kernel_rfl) ?_
              repeat (go_big_quiet_step (fail))
              refine wpQuiet_nil ?_
              intro _ hw'
              obtain ⟨⟨dq, osq⟩, hw''⟩ := hw'
              subst hw''
              go_wp2_with fail
              exact ⟨⟨k + 1, by omega, by go_num, HNX.out, Below.onto hbel.out (below_regrown _ _ _)⟩, by simp [intOf]; omega⟩
          · obtain rfl : k = x.cl.length := by omega
            have HF : Hid (opn x n ep = false) := by show _ = _; simp only [opn, any_none hall.out, Bool.and_false]
            go_wp2_with fail
            go_ret
            exact ⟨-1, rfl, HPL.out _ (.inl ⟨HF.out, rfl⟩), Below.onto B3.out hbel.out⟩
      · have HF : Hid (opn x n ep = false) := by show _ = _; simp [opn, hep]
        have hep1 : (x.ep == ep) = false := by simp [hep]
        clear hep
        go_enter Try.func52, Try.ntmps52
        go_wp2_with fail
        generalize (w.alloc (.cells #[.slice (some ⟨bl, ol, none⟩) Q.ls.length lc, .slice ma Q.ms.length mc] 25)).alloc (.cells #[.int .i64 (j : Int), .int .i64 n, .int .i64 ep] 27) = w2 at *
        obtain ⟨p0, p1⟩ := K1.out.bx.two
        obtain ⟨r0, r1, r2⟩ := K2.out.bx.three
        have s0 := cell_regrown p0
        have s1 := cell_regrown p1
        have t0 := cell_regrown r0
        have t1 := cell_regrown r1
        have t2 := cell_regrown r2
        have v5 := cell_regrown c5
        clear p0 p1 r0 r1 r2 c3 c5
        refine wp_region_quiet_below (by kernel_rfl) (by kernel_rfl) ?_
        repeat (go_big_quiet_step (fail))
        refine wpQuiet_nil ?_
        intro _ hw'
        obtain ⟨⟨dq, osq⟩, hw''⟩ := hw'
        subst hw''
        go_wp2_with fail
        go_ret
        exact ⟨-1, rfl, HPL.out _ (.inl ⟨HF.out, rfl⟩), Below.onto B2.out (below_regrown _ _ _)⟩
set_option maxHeartbeats 2000000 in
theorem rready_any (vl vm : Value) (Q : Qu) (V : Nat → Value) (ln n ep : Int) (w : World) (ho : OkQ Q) (hq : QIs w vl vm Q V) : Calls Try.prog 16 #[quV vl vm, clV ln n ep] w fun e w' => e = .returned (.bool (decide (Q.pbE ln n ep = 0))) ∧ Below w.heap.size w w' := by
  have hs := fun W h1 => rcheck_any vl vm Q V W ho h1
  have hp := fun W h1 => rplace_any vl vm Q V ln n ep W ho h1
  have HQ : Hid (QIs w vl vm Q V) := hq
  obtain ⟨la, lc, rfl, _, _, hlr⟩ := hq.l
  obtain ⟨ma, mc, rfl, _, _, hmr⟩ := hq.m
  obtain ⟨k1, k2, b2, s2⟩ := alloc2 w [.slice la Q.ls.length lc, .slice ma Q.ms.length mc] 25 [.int .i64 ln, .int .i64 n, .int .i64 ep] 27
  have K1 : Hid (Blk _ _ _ _) := k1
  have K2 : Hid (Blk _ _ _ _) := k2
  have B2 : Hid (Below _ _ _) := b2
  clear hlr hmr hq ho k1 k2 b2 s2
  cases hok : Q.ok
  · have HR : Hid (decide (Q.pbE ln n ep = 0) = false) := by
      show _ = _
      rw [pbE_nam (by rw [nam_no hok]; decide), nam_no hok]
      rfl
    simp only [chk_no hok] at hs
    clear hok
    go_enter Try.func16, Try.ntmps16
    go_wp2_with fail
    generalize (w.alloc (.cells #[.slice la Q.ls.length lc, .slice ma Q.ms.length mc] 25)).alloc (.cells #[.int .i64 ln, .int .i64 n, .int .i64 ep] 27) = w2 at *
    refine (hs _ (HQ.out.below B2.out)).mono ?_
    rintro e w3 ⟨rfl, hb⟩
    go_wp2_with fail
    go_ret
    exact ⟨ret_bool HR.out.symm, Below.onto B2.out hb⟩
  · simp only [chk_ok hok] at hs
    have HR : Hid (∀ r, Plc Q ln n ep r → (r == 0) = decide (Q.pbE ln n ep = 0)) := fun r h => by
      rcases h with ⟨h1, h2⟩ | ⟨h1, h2, h3, h4⟩
      · have : Q.pbE ln n ep ≠ 0 := by
          intro e
          obtain ⟨e1, e2, _⟩ := pbE_zero e
          rw [(nam_zero e1).2, e2] at h1
          cases h1
        simp [h2, this]
      · rw [pbE_in (nam_in hok h1) h2]
        by_cases e : atI (Q.lane ln).cl 0 = n
        · simp [e, h4.2 e]
        · have : r ≠ 0 := fun h => e (h4.1 h)
          simp [e, this]
    clear hok
    go_enter Try.func16, Try.ntmps16
    go_wp2_with fail
    generalize (w.alloc (.cells #[.slice la Q.ls.length lc, .slice ma Q.ms.length mc] 25)).alloc (.cells #[.int .i64 ln, .int .i64 n, .int .i64 ep] 27) = w2 at *
    refine (hs _ (HQ.out.below B2.out)).mono ?_
    rintro e w3 ⟨rfl, hb⟩
    obtain ⟨p0, p1⟩ := (K1.out.below hb).bx.two
    obtain ⟨r0, r1, r2⟩ := (K2.out.below hb).bx.three
    go_wp2_with fail
    refine (hp _ ((HQ.out.below B2.out).below hb)).mono ?_
    rintro e w4 ⟨r, rfl, hr, hb4⟩
    have HRR : Hid (_ = _) := HR.out r hr
    clear hr
    go_wp2_with fail
    go_ret
    exact ⟨ret_bool HRR.out, Below.onto (Below.onto B2.out hb) hb4⟩

end Go.Proofs.Ytimmjhegeagofab
