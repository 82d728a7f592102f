/- queue.Retire. -/
import Derived.Test.YtkgehbonijpdnaaUTake
namespace Go.Proofs.Ytkgehbonijpdnaa
open Go.RowKit
set_option maxRecDepth 100000

set_option maxHeartbeats 8000000 in
theorem retire_any (vl vm : Value) (Q : Qu) (V : Nat → Value) (ln ep n pay : Int) (w : World) (ho : OkQ Q) (hq : QIs w vl vm Q V) : Calls Try.prog 15 #[quV vl vm, .agg #[.int .i64 ln, .int .i64 ep, .int .i64 n, .int .u64 pay]] w fun e w' =>
    ∃ ul um V', e = .returned (.tuple #[quV ul um, .int .i64 (Q.rtE ln ep)]) ∧ QIs w' ul um (Q.rtQ ln ep) V' ∧ Below w.heap.size w w' ∧ QNew w.heap.size ul um (Q.rtQ ln ep) V' := by
  have hsn := fun W h1 => senders_any vl vm Q V W ho h1
  have how := fun W h1 => own_q vl vm Q V W ho h1
  have hwt := fun W k l vc a b c d => with_any vl vm Q V W k l vc a b c ho d
  have HQ : Hid (QIs w vl vm Q V) := hq
  have HO : Hid (OkQ Q) := ho
  obtain ⟨la, lc, rfl, _, _, hlr⟩ := hq.l
  obtain ⟨ma, mc, rfl, _, _, hmr⟩ := hq.m
  have hh := fun i W => has_any la Q.ls.length lc (.slice ma Q.ms.length mc) i W
  clear hlr hmr hq ho
  cases hok : Q.ok
  · have HE : Hid (Q.rtE ln ep = 100) := by show _ = _; rw [Qu.rtE, nam_no hok, if_neg (by decide)]
    have HP : Hid (Q.rtQ ln ep = qu0) := by show _ = _; rw [Qu.rtQ, HE.out, if_neg (by decide)]
    rw [HE.out, HP.out]
    clear HE HP
    obtain ⟨k1, k2, k3, b2, s2⟩ := alloc3 w [.slice la Q.ls.length lc, .slice ma Q.ms.length mc] 30 [.int .i64 ln, .int .i64 ep, .int .i64 n, .int .u64 pay] 44 [.slice none 0 0, .slice none 0 0] 30
    have K1 : Hid (Blk _ _ _ _) := k1
    have K2 : Hid (Blk _ _ _ _) := k2
    have K3 : Hid (Blk _ _ _ _) := k3
    have B2 : Hid (Below _ _ _) := b2
    clear k1 k2 k3 b2 s2
    go_enter Try.func15, Try.ntmps15
    go_wp2_with fail
    generalize ((w.alloc (.cells #[.slice la Q.ls.length lc, .slice ma Q.ms.length mc] 30)).alloc (.cells #[.int .i64 ln, .int .i64 ep, .int .i64 n, .int .u64 pay] 44)).alloc (.cells #[.slice none 0 0, .slice none 0 0] 30) = w2 at *
    refine (hsn _ (HQ.out.below B2.out)).mono ?_
    rintro e w3 ⟨h | h, hb⟩
    · rw [h.1] at hok; cases hok
    · obtain ⟨_, rfl⟩ := h
      clear hok
      obtain ⟨q0, q1⟩ := (K1.out.below hb).bx.two
      obtain ⟨r0, r1, r2, r3⟩ := (K2.out.below hb).bx.four
      obtain ⟨p0, p1⟩ := (K3.out.below hb).bx.two
      have p2 := (K3.out.below hb).fz
      have K1b : Hid (Blk w3 _ _ _) := K1.out.below hb
      have K2b : Hid (Blk w3 _ _ _) := K2.out.below hb
      have K3b : Hid (Blk w3 _ _ _) := K3.out.below hb
      have B3 : Hid (Below w.heap.size w w3) := Below.onto B2.out hb
      have HL2 : Hid (w.heap.size ≤ w.heap.size + 1 + 1) := by show _ ≤ _; omega
      have HC12 : Hid (w.heap.size < w.heap.size + 1 ∧ w.heap.size + 1 < w.heap.size + 1 + 1) := ⟨by omega, by omega⟩
      clear hb
      generalize w.heap.size + 1 + 1 = C2 at *
      generalize w.heap.size + 1 = C1 at *
      go_wp2_with fail
      refine bodyPost_ret (v := .tuple #[quV (.slice none 0 0) (.slice none 0 0), .int .i64 100]) (by simp [results, Try.results15, go_sem, p0, p1]) rfl ⟨_, _, fun _ => .slice none 0 0, rfl, qis0 _, ?_, qnew0 _⟩
      repeat (first | (with_reducible exact B3.out) | ((with_reducible refine Below.setCell ?_ ?_ _); rotate_left; first | exact HL2.out))
  · cases hH : Q.hasB ln
    · have HE : Hid (Q.rtE ln ep = 5) := by show _ = _; rw [Qu.rtE, nam_out hok hH, if_neg (by decide)]
      have HP : Hid (Q.rtQ ln ep = qu0) := by show _ = _; rw [Qu.rtQ, HE.out, if_neg (by decide)]
      have hh2 : ∀ W, Calls Try.prog 29 #[quV (.slice la Q.ls.length lc) (.slice ma Q.ms.length mc), .int .i64 ln] W fun e w' => e = .returned (.bool false) ∧ Below W.heap.size W w' := fun W => by rw [← hH]; exact hh ln W
      rw [HE.out, HP.out]
      clear HE HP hH hh
      obtain ⟨k1, k2, k3, b2, s2⟩ := alloc3 w [.slice la Q.ls.length lc, .slice ma Q.ms.length mc] 30 [.int .i64 ln, .int .i64 ep, .int .i64 n, .int .u64 pay] 44 [.slice none 0 0, .slice none 0 0] 30
      have K1 : Hid (Blk _ _ _ _) := k1
      have K2 : Hid (Blk _ _ _ _) := k2
      have K3 : Hid (Blk _ _ _ _) := k3
      have B2 : Hid (Below _ _ _) := b2
      clear k1 k2 k3 b2 s2
      go_enter Try.func15, Try.ntmps15
      go_wp2_with fail
      generalize ((w.alloc (.cells #[.slice la Q.ls.length lc, .slice ma Q.ms.length mc] 30)).alloc (.cells #[.int .i64 ln, .int .i64 ep, .int .i64 n, .int .u64 pay] 44)).alloc (.cells #[.slice none 0 0, .slice none 0 0] 30) = w2 at *
      refine (hsn _ (HQ.out.below B2.out)).mono ?_
      rintro e w3 ⟨h | h, hb⟩
      rotate_left
      · rw [h.1] at hok; cases hok
      · obtain ⟨_, g, rfl, _⟩ := h
        clear hok
        obtain ⟨q0, q1⟩ := (K1.out.below hb).bx.two
        obtain ⟨r0, r1, r2, r3⟩ := (K2.out.below hb).bx.four
        obtain ⟨p0, p1⟩ := (K3.out.below hb).bx.two
        have p2 := (K3.out.below hb).fz
        have K1b : Hid (Blk w3 _ _ _) := K1.out.below hb
        have K2b : Hid (Blk w3 _ _ _) := K2.out.below hb
        have K3b : Hid (Blk w3 _ _ _) := K3.out.below hb
        have B3 : Hid (Below w.heap.size w w3) := Below.onto B2.out hb
        have HL2 : Hid (w.heap.size ≤ w.heap.size + 1 + 1) := by show _ ≤ _; omega
        have HC12 : Hid (w.heap.size < w.heap.size + 1 ∧ w.heap.size + 1 < w.heap.size + 1 + 1) := ⟨by omega, by omega⟩
        clear hb
        generalize w.heap.size + 1 + 1 = C2 at *
        generalize w.heap.size + 1 = C1 at *
        go_wp2_with fail
        refine (hh2 _).mono ?_
        rintro e w4 ⟨rfl, hb4⟩
        obtain ⟨p0, p1⟩ := (K3b.out.below hb4).bx.two
        have p2 := (K3b.out.below hb4).fz
        have B4 : Hid (Below w.heap.size w w4) := Below.onto B3.out hb4
        clear hb4
        go_wp2_with fail
        refine bodyPost_ret (v := .tuple #[quV (.slice none 0 0) (.slice none 0 0), .int .i64 5]) (by simp [results, Try.results15, go_sem, p0, p1]) rfl ⟨_, _, fun _ => .slice none 0 0, rfl, qis0 _, ?_, qnew0 _⟩
        repeat (first | (with_reducible exact B4.out) | ((with_reducible refine Below.setCell ?_ ?_ _); rotate_left; first | exact HL2.out))
    · obtain ⟨j, rfl, hjn⟩ : ∃ j : Nat, ln = (j : Int) ∧ j < Q.ls.length := by
        simp [Qu.hasB] at hH
        exact ⟨ln.toNat, by omega, by omega⟩
      have hlane : Q.lane (j : Int) = atP Q.ls j := by simp [Qu.lane]
      have hcr : hasCr (atP Q.ls j) = true := by have := ((ok_iff Q).1 hok).2.2 j hjn; simp [okL] at this; exact this.1
      obtain ⟨⟨_, hc64⟩, hf0, hfc⟩ := hasCr_iff.1 hcr
      have hrE : Q.rtE (j : Int) ep = if ep = (atP Q.ls j).ep ∧ tkn (atP Q.ls j) (cnt Q.ms (j : Int)) = 0 then 102 else 0 := by rw [Qu.rtE, nam_in hok hH, if_pos rfl, hlane]
      have hrQ : Q.rtQ (j : Int) ep = if Q.rtE (j : Int) ep = 0 then (if ep = (atP Q.ls j).ep ∧ (atP Q.ls j).tw = true then ⟨Q.ls.set j (retL (atP Q.ls j)), Q.ms⟩ else Q) else qu0 := by rw [Qu.rtQ, hlane]; rfl
      have hnc := HO.out.nc j hjn
      have hcn : cnt Q.ms (j : Int) ≤ 1000 := Nat.le_trans (cnt_le _ _) HO.out.nm
      have hh2 : ∀ W, Calls Try.prog 29 #[quV (.slice la Q.ls.length lc) (.slice ma Q.ms.length mc), .int .i64 (j : Int)] W fun e w' => e = .returned (.bool true) ∧ Below W.heap.size W w' := fun W => by rw [← hH]; exact hh (j : Int) W
      have j1 : (0 : Int) ≤ (j : Int) := by omega
      have j2 : (j : Int) < (Q.ls.length : Int) := by omega
      have HRE : Hid (_ = _) := hrE
      have HRQ : Hid (_ = _) := hrQ
      have HCR : Hid (hasCr (atP Q.ls j) = true) := hcr
      clear hrE hrQ hH hh hlane hcr
      obtain ⟨k1, k2, k3, b2, s2⟩ := alloc3 w [.slice la Q.ls.length lc, .slice ma Q.ms.length mc] 30 [.int .i64 (j : Int), .int .i64 ep, .int .i64 n, .int .u64 pay] 44 [.slice none 0 0, .slice none 0 0] 30
      have K1 : Hid (Blk _ _ _ _) := k1
      have K2 : Hid (Blk _ _ _ _) := k2
      have K3 : Hid (Blk _ _ _ _) := k3
      have B2 : Hid (Below _ _ _) := b2
      clear k1 k2 k3 b2 s2
      go_enter Try.func15, Try.ntmps15
      go_wp2_with fail
      generalize ((w.alloc (.cells #[.slice la Q.ls.length lc, .slice ma Q.ms.length mc] 30)).alloc (.cells #[.int .i64 (j : Int), .int .i64 ep, .int .i64 n, .int .u64 pay] 44)).alloc (.cells #[.slice none 0 0, .slice none 0 0] 30) = w2 at *
      refine (hsn _ (HQ.out.below B2.out)).mono ?_
      rintro e w3 ⟨h | h, hb⟩
      rotate_left
      · rw [h.1] at hok; cases hok
      · obtain ⟨_, g, rfl, hrw⟩ := h
        have HRW : Hid (Rw w3 g _ _ _ (encSs Q V)) := hrw
        clear hok hrw
        obtain ⟨q0, q1⟩ := (K1.out.below hb).bx.two
        obtain ⟨r0, r1, r2, r3⟩ := (K2.out.below hb).bx.four
        obtain ⟨p0, p1⟩ := (K3.out.below hb).bx.two
        have p2 := (K3.out.below hb).fz
        have K1b : Hid (Blk w3 _ _ _) := K1.out.below hb
        have K2b : Hid (Blk w3 _ _ _) := K2.out.below hb
        have K3b : Hid (Blk w3 _ _ _) := K3.out.below hb
        have B3 : Hid (Below w.heap.size w w3) := Below.onto B2.out hb
        have HL2 : Hid (w.heap.size ≤ w.heap.size + 1 + 1) := by show _ ≤ _; omega
        have HC12 : Hid (w.heap.size < w.heap.size + 1 ∧ w.heap.size + 1 < w.heap.size + 1 + 1) := ⟨by omega, by omega⟩
        clear hb
        generalize w.heap.size + 1 + 1 = C2 at *
        generalize w.heap.size + 1 = C1 at *
        go_wp2_with fail
        refine (hh2 _).mono ?_
        rintro e w4 ⟨rfl, hb4⟩
        have B4 : Hid (Below w.heap.size w w4) := Below.onto B3.out hb4
        have HQ4 : Hid (QIs w4 _ _ Q V) := HQ.out.below B4.out
        obtain ⟨bl, ol, _, ca, cc, e0, hV, c0, c1, c2, c3, c4, c5⟩ := HQ4.out.at hjn
        cases e0
        obtain ⟨u0, u1, u2, u3, u4, u5, u6⟩ := (HRW.out.below hb4).sen hjn hV
        obtain ⟨q0, q1⟩ := (K1b.out.below hb4).bx.two
        obtain ⟨r0, r1, r2, r3⟩ := (K2b.out.below hb4).bx.four
        obtain ⟨p0, p1⟩ := (K3b.out.below hb4).bx.two
        have p2 := (K3b.out.below hb4).fz
        have HCL := HQ4.out.c j hjn
        rw [hV] at HCL
        have HCL : Hid (Cl w4 _ _) := HCL
        have htk := fun W => taken_any (atP Q.ls j) ca cc (cnt Q.ms (j : Int)) W HCR.out hnc hcn
        obtain ⟨tk, htkv⟩ : ∃ tk, tk = tkn (atP Q.ls j) (cnt Q.ms (j : Int)) := ⟨_, rfl⟩
        rw [← htkv] at HRE
        simp only [← htkv] at htk
        have K3c' : Hid (Blk w4 _ _ _) := K3b.out.below hb4
        have K1c' : Hid (Blk w4 _ _ _) := K1b.out.below hb4
        have K2c' : Hid (Blk w4 _ _ _) := K2b.out.below hb4
        have HVV : Hid (V j = .slice ca (atP Q.ls j).cl.length cc) := hV
        generalize cnt Q.ms (j : Int) = qn at *
        clear htkv HCR HRW
        generalize hx : atP Q.ls j = x at *
        have HXJ : Hid (atP Q.ls j = x) := hx
        clear hx hV
        obtain ⟨k4, b5, s5⟩ := alloc1 w4 [.int .i64 x.cr, .bool x.tw, .int .i64 x.lf, .slice ca x.cl.length cc, .int .i64 x.nx, .int .i64 x.ep] 57
        have K4c : Hid (Blk _ _ _ _) := k4
        have B45 : Hid (Below _ _ _) := b5
        have K1c : Hid (Blk _ _ _ _) := K1c'.out.below b5
        have K2c : Hid (Blk _ _ _ _) := K2c'.out.below b5
        have K3c : Hid (Blk _ _ _ _) := K3c'.out.below b5
        have B5 : Hid (Below w.heap.size w _) := Below.onto B4.out b5
        have z1 := K1c'.out.lt
        have z2 := K2c'.out.lt
        have z3 := K3c'.out.lt
        have HC := HC12.out
        have zg : g < w4.heap.size := cell_lt u0
        clear k4 b5 s5 hb4
        by_cases hep : ep = x.ep
        · have hep1 : (ep == x.ep) = true := by simp [hep]
          have HEP : Hid (ep = x.ep) := hep
          clear hep
          by_cases htk0 : tk = 0
          · have HE : Hid (Q.rtE (j : Int) ep = 102) := by show _ = _; rw [HRE.out, if_pos ⟨HEP.out, htk0⟩]
            have HP : Hid (Q.rtQ (j : Int) ep = qu0) := by show _ = _; rw [HRQ.out, HE.out, if_neg (by decide)]
            have ht1 : (tk == 0) = true := by simp [htk0]
            clear htk0
            go_wp2_with fail
            generalize w4.alloc (.cells #[.int .i64 x.cr, .bool x.tw, .int .i64 x.lf, .slice ca x.cl.length cc, .int .i64 x.nx, .int .i64 x.ep] 57) = w5 at *
            refine (htk w5).mono ?_
            rintro e w6 ⟨rfl, hb6⟩
            obtain ⟨p0, p1⟩ := (K3c.out.below hb6).bx.two
            have p2 := (K3c.out.below hb6).fz
            obtain ⟨q0, q1⟩ := (K1c.out.below hb6).bx.two
            obtain ⟨r0, r1, r2, r3⟩ := (K2c.out.below hb6).bx.four
            obtain ⟨y0, y1, y2, y3, y4, y5⟩ := (K4c.out.below hb6).bx.six
            have y6 := (K4c.out.below hb6).fz
            have K1d : Hid (Blk w6 _ _ _) := K1c.out.below hb6
            have K2d : Hid (Blk w6 _ _ _) := K2c.out.below hb6
            have K3d : Hid (Blk w6 _ _ _) := K3c.out.below hb6
            have K4d : Hid (Blk w6 _ _ _) := K4c.out.below hb6
            have B6 : Hid (Below w.heap.size w w6) := Below.onto B5.out hb6
            clear hb6
            go_wp2_with fail
            refine bodyPost_ret (v := .tuple #[quV (.slice none 0 0) (.slice none 0 0), .int .i64 102]) (by simp [results, Try.results15, go_sem, p0, p1]) rfl ⟨.slice none 0 0, .slice none 0 0, fun _ => .slice none 0 0, by rw [HE.out], by rw [HP.out]; exact qis0 _, ?_, by rw [HP.out]; exact qnew0 _⟩
            repeat (first | (with_reducible exact B6.out) | ((with_reducible refine Below.setCell ?_ ?_ _); rotate_left; first | exact HL2.out))
          · have HE : Hid (Q.rtE (j : Int) ep = 0) := by show _ = _; rw [HRE.out, if_neg (by rintro ⟨_, h⟩; exact htk0 h)]
            have ht1 : (tk == 0) = false := by simp [htk0]
            clear htk0
            go_wp2_with fail
            generalize w4.alloc (.cells #[.int .i64 x.cr, .bool x.tw, .int .i64 x.lf, .slice ca x.cl.length cc, .int .i64 x.nx, .int .i64 x.ep] 57) = w5 at *
            refine (htk w5).mono ?_
            rintro e w6 ⟨rfl, hb6⟩
            obtain ⟨p0, p1⟩ := (K3c.out.below hb6).bx.two
            have p2 := (K3c.out.below hb6).fz
            obtain ⟨q0, q1⟩ := (K1c.out.below hb6).bx.two
            obtain ⟨r0, r1, r2, r3⟩ := (K2c.out.below hb6).bx.four
            obtain ⟨y0, y1, y2, y3, y4, y5⟩ := (K4c.out.below hb6).bx.six
            have y6 := (K4c.out.below hb6).fz
            have K1d : Hid (Blk w6 _ _ _) := K1c.out.below hb6
            have K2d : Hid (Blk w6 _ _ _) := K2c.out.below hb6
            have K3d : Hid (Blk w6 _ _ _) := K3c.out.below hb6
            have K4d : Hid (Blk w6 _ _ _) := K4c.out.below hb6
            have B6 : Hid (Below w.heap.size w w6) := Below.onto B5.out hb6
            clear hb6
            cases htw : x.tw
            · have HP : Hid (Q.rtQ (j : Int) ep = Q) := by show _ = _; rw [HRQ.out, HE.out, if_pos rfl, if_neg (by rintro ⟨_, h⟩; rw [htw] at h; cases h)]
              rw [htw] at y1
              clear htw
              go_wp2_with fail
              refine (how _ (HQ.out.below B6.out)).mono ?_
              rintro e w7 ⟨la', ma', V', rfl, hq7, hb7, hn7⟩
              have HN7 : Hid (QNew w6.heap.size _ _ _ _) := hn7
              have HQ7 : Hid (QIs w7 _ _ _ _) := hq7
              have B7 : Hid (Below w.heap.size w w7) := Below.onto B6.out hb7
              obtain ⟨p0, p1⟩ := (K3d.out.below hb7).bx.two
              have p2 := (K3d.out.below hb7).fz
              have hk3 := K3d.out.lt
              clear hq7 hb7 hn7
              go_wp2_with fail
              refine bodyPost_ret (v := .tuple #[quV (.slice la' Q.ls.length Q.ls.length) (.slice ma' Q.ms.length Q.ms.length), .int .i64 0]) (by simp [results, Try.results15, go_sem, p0, p1]) rfl ⟨.slice la' Q.ls.length Q.ls.length, .slice ma' Q.ms.length Q.ms.length, V', by rw [HE.out], by rw [HP.out]; exact (HQ7.out.setO HN7.out hk3).setO HN7.out hk3, ?_, by rw [HP.out]; exact HN7.out.mono B6.out.size⟩
              repeat (first | (with_reducible exact B7.out) | ((with_reducible refine Below.setCell ?_ ?_ _); rotate_left; first | exact HL2.out))
            · have HP : Hid (Q.rtQ (j : Int) ep = ⟨Q.ls.set j (retL x), Q.ms⟩) := by show _ = _; rw [HRQ.out, HE.out, if_pos rfl, if_pos ⟨HEP.out, htw⟩]
              rw [htw] at y1
              have HTW : Hid (x.tw = true) := htw
              have K4e : Hid (Blk (w6.setCell ⟨w4.heap.size, 2, none⟩ (.int .i64 (x.lf + 1))) w4.heap.size _ [.int .i64 x.cr, .bool x.tw, .int .i64 (x.lf + 1), .slice ca x.cl.length cc, .int .i64 x.nx, .int .i64 x.ep]) := K4d.out.set 2 _
              have K3e : Hid (Blk (w6.setCell ⟨w4.heap.size, 2, none⟩ (.int .i64 (x.lf + 1))) C2 _ _) := K3d.out.setO (by omega) _
              have B8 : Hid (Below w.heap.size w (w6.setCell ⟨w4.heap.size, 2, none⟩ (.int .i64 (x.lf + 1)))) := B6.out.setCell (by show w.heap.size ≤ w4.heap.size; omega) _
              have hw8 : Calls Try.prog 20 #[.agg #[.slice (some ⟨bl, ol, none⟩) Q.ls.length lc, .slice ma Q.ms.length mc], .int .i64 (j : Int), .agg #[.int .i64 x.cr, .bool x.tw, .int .i64 (x.lf + 1), .slice ca x.cl.length cc, .int .i64 x.nx, .int .i64 x.ep]] (w6.setCell ⟨w4.heap.size, 2, none⟩ (.int .i64 (x.lf + 1))) _ := hwt _ j (retL x) (.slice ca x.cl.length cc) hjn hnc (by have h1 := (HQ.out.below B8.out).c j hjn; rw [HVV.out, HXJ.out] at h1; exact h1) (HQ.out.below B8.out)
              rw [htw] at hw8
              have m1 : ¬ w.heap.size = w4.heap.size := by omega
              have m2 : ¬ C1 = w4.heap.size := by omega
              have m3 : ¬ C2 = w4.heap.size := by omega
              clear htw
              go_wp2_with fail
              generalize w6.setCell ⟨w4.heap.size, 2, none⟩ (.int .i64 (x.lf + 1)) = w8 at *
              refine hw8.mono ?_
              rintro e w9 ⟨ul, um, V', rfl, hq9, hb9, hn9⟩
              have HN9 : Hid (QNew w8.heap.size _ _ _ _) := hn9
              have HQ9 : Hid (QIs w9 _ _ _ _) := hq9
              have B9 : Hid (Below w.heap.size w w9) := Below.onto B8.out hb9
              have hk3 := K3e.out.lt
              obtain ⟨p0, p1⟩ := (K3e.out.below hb9).bx.two
              have p2 := (K3e.out.below hb9).fz
              obtain ⟨la', nl', lc', rfl⟩ : ∃ a n c, ul = .slice a n c := by obtain ⟨a, c, e, _⟩ := HQ9.out.l; exact ⟨_, _, _, e⟩
              obtain ⟨ma', nm', mc', rfl⟩ : ∃ a n c, um = .slice a n c := by obtain ⟨a, c, e, _⟩ := HQ9.out.m; exact ⟨_, _, _, e⟩
              clear hq9 hb9 hn9 hw8 y0 y1 y2 y3 y4 y5 y6
              go_wp2_with fail
              refine bodyPost_ret (v := .tuple #[quV (.slice la' nl' lc') (.slice ma' nm' mc'), .int .i64 0]) (by simp [results, Try.results15, go_sem, p0, p1]) rfl ⟨.slice la' nl' lc', .slice ma' nm' mc', V', by rw [HE.out], by rw [HP.out]; exact (HQ9.out.setO HN9.out hk3).setO HN9.out hk3, ?_, by rw [HP.out]; exact HN9.out.mono B8.out.size⟩
              repeat (first | (with_reducible exact B9.out) | ((with_reducible refine Below.setCell ?_ ?_ _); rotate_left; first | exact HL2.out))
        · have hep1 : (ep == x.ep) = false := by simp [hep]
          have HE : Hid (Q.rtE (j : Int) ep = 0) := by show _ = _; rw [HRE.out, if_neg (by rintro ⟨h, _⟩; exact hep h)]
          have HP : Hid (Q.rtQ (j : Int) ep = Q) := by show _ = _; rw [HRQ.out, HE.out, if_pos rfl, if_neg (by rintro ⟨h, _⟩; exact hep h)]
          clear hep
          go_wp2_with fail
          generalize w4.alloc (.cells #[.int .i64 x.cr, .bool x.tw, .int .i64 x.lf, .slice ca x.cl.length cc, .int .i64 x.nx, .int .i64 x.ep] 57) = w5 at *
          refine (how _ (HQ.out.below B5.out)).mono ?_
          rintro e w7 ⟨la', ma', V', rfl, hq7, hb7, hn7⟩
          have HN7 : Hid (QNew w5.heap.size _ _ _ _) := hn7
          have HQ7 : Hid (QIs w7 _ _ _ _) := hq7
          have B7 : Hid (Below w.heap.size w w7) := Below.onto B5.out hb7
          obtain ⟨p0, p1⟩ := (K3c.out.below hb7).bx.two
          have p2 := (K3c.out.below hb7).fz
          have hk3 := K3c.out.lt
          clear hq7 hb7 hn7
          go_wp2_with fail
          refine bodyPost_ret (v := .tuple #[quV (.slice la' Q.ls.length Q.ls.length) (.slice ma' Q.ms.length Q.ms.length), .int .i64 0]) (by simp [results, Try.results15, go_sem, p0, p1]) rfl ⟨.slice la' Q.ls.length Q.ls.length, .slice ma' Q.ms.length Q.ms.length, V', by rw [HE.out], by rw [HP.out]; exact (HQ7.out.setO HN7.out hk3).setO HN7.out hk3, ?_, by rw [HP.out]; exact HN7.out.mono B5.out.size⟩
          repeat (first | (with_reducible exact B7.out) | ((with_reducible refine Below.setCell ?_ ?_ _); rotate_left; first | exact HL2.out))

end Go.Proofs.Ytkgehbonijpdnaa
