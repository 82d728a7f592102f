/- queue.lacks, Ready. -/
import Derived.Test.YtkgehbonijpdnaaUOpen
namespace Go.Proofs.Ytkgehbonijpdnaa
open Go.RowKit
set_option maxRecDepth 100000

set_option maxHeartbeats 2000000 in
theorem lacks_any (vl vm : Value) (Q : Qu) (V : Nat → Value) (ln n ep : Int) (w : World) (ho : OkQ Q) (hq : QIs w vl vm Q V) : Calls Try.prog 21 #[quV vl vm, clV ln n ep] w fun e w' => e = .returned (.int .i64 (Q.pbE ln n ep)) ∧ Below w.heap.size w w' := by
  have hs := fun W h1 => named_any vl vm Q V ln W ho h1
  have HQ : Hid (QIs w vl vm Q V) := hq
  have HO : Hid (OkQ Q) := ho
  obtain ⟨la, lc, rfl, _, _, hlr⟩ := hq.l
  obtain ⟨ma, mc, rfl, _, _, hmr⟩ := hq.m
  obtain ⟨k1, k2, b2, s2⟩ := alloc2 w [.slice la Q.ls.length lc, .slice ma Q.ms.length mc] 30 [.int .i64 ln, .int .i64 n, .int .i64 ep] 47
  have K1 : Hid (Blk _ _ _ _) := k1
  have K2 : Hid (Blk _ _ _ _) := k2
  have B2 : Hid (Below _ _ _) := b2
  clear hlr hmr hq ho k1 k2 b2 s2
  by_cases hE : Q.nam ln = 0
  · obtain ⟨hok, hH⟩ := nam_zero hE
    obtain ⟨j, rfl, hjn⟩ : ∃ j : Nat, ln = (j : Int) ∧ j < Q.ls.length := by
      simp [Qu.hasB] at hH
      exact ⟨ln.toNat, by omega, by omega⟩
    have hlane : Q.lane (j : Int) = atP Q.ls j := by simp [Qu.lane]
    have hnc := HO.out.nc j hjn
    have hN1 := pbE_not (n := n) (ep := ep) hE
    have hN2 := pbE_in (n := n) (ep := ep) hE
    rw [hlane] at hN1 hN2
    have j1 : (0 : Int) ≤ (j : Int) := by omega
    have j2 : (j : Int) < (Q.ls.length : Int) := by omega
    have HN1 : Hid (_ → _) := hN1
    have HN2 : Hid (_ → _) := hN2
    simp only [hE] at hs
    clear hE hok hH hlane hN1 hN2
    go_enter Try.func21, Try.ntmps21
    go_wp2_with fail
    generalize (w.alloc (.cells #[.slice la Q.ls.length lc, .slice ma Q.ms.length mc] 30)).alloc (.cells #[.int .i64 (j : Int), .int .i64 n, .int .i64 ep] 47) = w2 at *
    obtain ⟨p0, p1⟩ := K1.out.bx.two
    obtain ⟨r0, r1, r2⟩ := K2.out.bx.three
    refine (hs _ (HQ.out.below B2.out)).mono ?_
    rintro e w1 ⟨rfl, hb⟩
    obtain ⟨p0, p1⟩ := (K1.out.below hb).bx.two
    obtain ⟨r0, r1, r2⟩ := (K2.out.below hb).bx.three
    have K2b : Hid (Blk w1 _ _ _) := K2.out.below hb
    have HQ3 : Hid (QIs w1 _ _ _ _) := (HQ.out.below B2.out).below hb
    have B3 : Hid (Below w.heap.size w w1) := Below.onto B2.out hb
    have HCL := HQ3.out.c j hjn
    obtain ⟨bl, ol, _, ca, cc, e0, hV, c0, c1, c2, c3, c4, c5⟩ := HQ3.out.at hjn
    cases e0
    rw [hV] at HCL
    have HCL : Hid (Cl _ _ _) := HCL
    clear hb hV
    generalize atP Q.ls j = x at *
    obtain ⟨k4, b4, s4⟩ := alloc1 w1 [.int .i64 x.cr, .bool x.tw, .int .i64 x.lf, .slice ca x.cl.length cc, .int .i64 x.nx, .int .i64 x.ep] 57
    have K4 : Hid (Blk _ _ _ _) := k4
    have B4 : Hid (Below w.heap.size w _) := Below.onto B3.out b4
    have K2c : Hid (Blk _ _ _ _) := K2b.out.below b4
    have HCL4 : Hid (Cl _ _ _) := HCL.out.below b4
    have hz := K2b.out.lt
    clear k4 b4 s4
    go_wp2_with fail
    generalize w1.alloc (.cells #[.int .i64 x.cr, .bool x.tw, .int .i64 x.lf, .slice ca x.cl.length cc, .int .i64 x.nx, .int .i64 x.ep] 57) = w4 at *
    obtain ⟨p0, p1, p2, p3, p4, p5⟩ := K4.out.bx.six
    obtain ⟨r0, r1, r2⟩ := K2c.out.bx.three
    go_wp2_with fail
    refine (isOpen_any x (.slice ca x.cl.length cc) (j : Int) n ep w4 hnc HCL4.out).mono ?_
    rintro e w5 ⟨rfl, hb5⟩
    have hop : opn x n ep = true ∨ opn x n ep = false := by cases opn x n ep <;> simp
    rcases hop with hop | hop
    · have HN := HN2.out hop
      have hlen : 0 < x.cl.length := by
        rcases Nat.eq_zero_or_pos x.cl.length with h | h
        · have : x.cl = [] := List.length_eq_zero_iff.1 h
          simp [opn, this] at hop
        · exact h
      rw [hop]
      obtain ⟨_, _, e1, _, _, hrd⟩ := HCL4.out.below hb5
      cases e1
      obtain ⟨b, off, rfl, hcell⟩ := hrd 0 hlen
      have c0 : w5.cell? ⟨b, off, none⟩ = some (.int .i64 (atI x.cl 0)) := by
        have := hcell 0 (by omega)
        simpa [encI] using this
      obtain ⟨p0, p1, p2, p3, p4, p5⟩ := (K4.out.below hb5).bx.six
      obtain ⟨r0, r1, r2⟩ := (K2c.out.below hb5).bx.three
      have s3 := cell_regrown p3
      have t1 := cell_regrown r1
      have c0' := cell_regrown c0
      have l1 : (0 : Int) < (x.cl.length : Int) := by omega
      have B5 : Hid (Below w.heap.size w w5) := Below.onto B4.out hb5
      have HN' : Hid (Q.pbE (j : Int) n ep = _) := HN
      clear p0 p1 p2 p3 p4 p5 r0 r1 r2 hcell hrd c0 c1 c2 c3 c4 c5 hop HN
      by_cases hx : atI x.cl 0 = n
      · have HN3 : Hid (Q.pbE (j : Int) n ep = 0) := by show _ = _; rw [HN'.out, if_pos hx]
        have hx1 : (atI x.cl 0 == n) = true := by simp [hx]
        clear hx HN'
        generalize atI x.cl 0 = x0 at *
        go_wp2_with fail
        refine wp_region_quiet_below (by kernel_rfl) (by kernel_rfl) ?_
        repeat (go_big_quiet_step (fail))
        refine wpQuiet_nil ?_
        intro _ hw'
        obtain ⟨⟨dq, osq⟩, hw''⟩ := hw'
        subst hw''
        go_wp2_with fail
        go_ret
        exact ⟨ret_int HN3.out.symm, Below.onto B5.out (below_regrown _ _ _)⟩
      · have HN3 : Hid (Q.pbE (j : Int) n ep = 103) := by show _ = _; rw [HN'.out, if_neg hx]
        have hx1 : (atI x.cl 0 == n) = false := by simp [hx]
        clear hx HN'
        generalize atI x.cl 0 = x0 at *
        go_wp2_with fail
        refine wp_region_quiet_below (by kernel_rfl) (by kernel_rfl) ?_
        repeat (go_big_quiet_step (fail))
        refine wpQuiet_nil ?_
        intro _ hw'
        obtain ⟨⟨dq, osq⟩, hw''⟩ := hw'
        subst hw''
        go_wp2_with fail
        go_ret
        exact ⟨ret_int HN3.out.symm, Below.onto B5.out (below_regrown _ _ _)⟩
    · have HN := HN1.out hop
      rw [hop]
      go_wp2_with fail
      go_ret
      exact ⟨ret_int HN.symm, Below.onto B4.out hb5⟩
  · have HN : Hid (Q.pbE ln n ep = Q.nam ln) := pbE_nam hE
    have he : (Q.nam ln == 0) = false := by simpa using hE
    clear hE
    generalize Q.nam ln = E at *
    go_enter Try.func21, Try.ntmps21
    go_wp2_with fail
    generalize (w.alloc (.cells #[.slice la Q.ls.length lc, .slice ma Q.ms.length mc] 30)).alloc (.cells #[.int .i64 ln, .int .i64 n, .int .i64 ep] 47) = w2 at *
    obtain ⟨p0, p1⟩ := K1.out.bx.two
    obtain ⟨r0, r1, r2⟩ := K2.out.bx.three
    go_wp2_with fail
    refine (hs _ (HQ.out.below B2.out)).mono ?_
    rintro e w1 ⟨rfl, hb⟩
    go_wp2_with fail
    go_ret
    exact ⟨ret_int HN.out.symm, Below.onto B2.out hb⟩
theorem ready_any (vl vm : Value) (Q : Qu) (V : Nat → Value) (ln n ep : Int) (w : World) (ho : OkQ Q) (hq : QIs w vl vm Q V) : Calls Try.prog 12 #[quV vl vm, clV ln n ep] w fun e w' => e = .returned (.bool (decide (Q.pbE ln n ep = 0))) ∧ Below w.heap.size w w' := by
  have hs := fun W h1 => lacks_any vl vm Q V ln n ep W ho h1
  have HQ : Hid (QIs w vl vm Q V) := hq
  obtain ⟨la, lc, rfl, _, _, hlr⟩ := hq.l
  obtain ⟨ma, mc, rfl, _, _, hmr⟩ := hq.m
  obtain ⟨k1, k2, b2, s2⟩ := alloc2 w [.slice la Q.ls.length lc, .slice ma Q.ms.length mc] 30 [.int .i64 ln, .int .i64 n, .int .i64 ep] 47
  have B2 : Hid (Below _ _ _) := b2
  clear hlr hmr hq ho k1 k2 b2 s2
  generalize Q.pbE ln n ep = q at *
  go_enter Try.func12, Try.ntmps12
  go_wp2_with fail
  refine (hs _ (HQ.out.below B2.out)).mono ?_
  rintro e w1 ⟨rfl, hb⟩
  go_wp2_with fail
  go_ret
  exact ⟨ret_bool (by by_cases h : q = 0 <;> simp [h]), Below.onto B2.out hb⟩

end Go.Proofs.Ytkgehbonijpdnaa
