/- The document's Retire. -/
import Derived.Test.YtimmjhegeagofabURefT
namespace Go.Proofs.Ytimmjhegeagofab
open Go.RowKit
set_option maxRecDepth 100000

/-- a cell of an element is set -/
theorem Rd.put {w : World} {b off n s j f : Nat} {c : Nat → Nat → Value} (h : Rd w (some ⟨b, off, none⟩) n s c) (hj : j < n) (hf : f < s) (u : Value) : Rd (w.setCell ⟨b, off + j * s + f, none⟩ u) (some ⟨b, off, none⟩) n s (fun i e => if i = j ∧ e = f then u else c i e) := fun i hi => by
  refine ⟨b, off, rfl, fun e he => ?_⟩
  have hc : ∀ i, i < n → ∀ e, e < s → w.cell? ⟨b, off + i * s + e, none⟩ = some (c i e) := fun i hi e he => by
    obtain ⟨b', off', e', h'⟩ := h i hi
    cases e'
    exact h' e he
  by_cases hie : i = j ∧ e = f
  · obtain ⟨rfl, rfl⟩ := hie
    show _ = some (if i = i ∧ e = e then u else c i e)
    rw [if_pos ⟨rfl, rfl⟩]
    exact World.cell?_setCell_same' _ _ _ (by rw [hc i hi e he]; rfl)
  · show _ = some (if i = j ∧ e = f then u else c i e)
    rw [if_neg hie]
    rw [World.cell?_setCell_other _ _ _ _ (by
      intro e1
      injection e1 with _ e2
      exact hie (mul_inj he hf (by omega)))]
    exact hc i hi e he
theorem ret_cells {ls : List PLn} {V : Nat → Value} {j : Nat} (hj : j < ls.length) (i e : Nat) (he : e < 6) : (if i = j ∧ e = 2 then Value.int .i64 ((atP ls j).lf + 1) else encLs ls V i e) = encLs (ls.set j (retL (atP ls j))) V i e := by
  unfold encLs
  rw [atP_set hj]
  by_cases h : i = j
  · subst h
    rw [if_pos rfl]
    match e, he with
    | 0, _ => simp [encP, retL]
    | 1, _ => simp [encP, retL]
    | 2, _ => simp [encP, retL]
    | 3, _ => simp [encP]
    | 4, _ => simp [encP, retL]
    | 5, _ => simp [encP, retL]
  · simp [h]
set_option maxHeartbeats 8000000 in
theorem rretire_any (vl vm : Value) (Q : Qu) (V : Nat → Value) (ln ep n pay : Int) (w : World) (ho : OkQ Q) (hq : QIs w vl vm Q V) : Calls Try.prog 21 #[quV vl vm, .agg #[.int .i64 ln, .int .i64 ep, .int .i64 n, .int .u64 pay]] w fun e w' =>
    ∃ ul um V', e = .returned (.tuple #[quV ul um, .int .i64 (Q.rtE ln ep)]) ∧ QIs w' ul um (Q.rtQ ln ep) V' ∧ Below w.heap.size w w' ∧ QNew w.heap.size ul um (Q.rtQ ln ep) V' := by
  have hsk := fun W h1 => rasked_any vl vm Q V ln W ho h1
  have hmg := fun W h1 => rmessages_any vl vm Q V ln W ho h1
  have how := fun W h1 => rown_any vl vm Q V W ho h1
  have HQ : Hid (QIs w vl vm Q V) := hq
  have HO : Hid (OkQ Q) := ho
  obtain ⟨la, lc, rfl, _, _, hlr⟩ := hq.l
  obtain ⟨ma, mc, rfl, _, _, hmr⟩ := hq.m
  clear hlr hmr hq ho
  by_cases hE : Q.nam ln = 0
  · obtain ⟨hok, hH⟩ := nam_zero hE
    obtain ⟨j, rfl, hjn⟩ : ∃ j : Nat, ln = (j : Int) ∧ j < Q.ls.length := by
      simp [Qu.hasB] at hH
      exact ⟨ln.toNat, by omega, by omega⟩
    have hlane : Q.lane (j : Int) = atP Q.ls j := by simp [Qu.lane]
    obtain ⟨⟨_, hc64⟩, hf0, hfc⟩ := hasCr_iff.1 (show hasCr (atP Q.ls j) = true by have := ((ok_iff Q).1 hok).2.2 j hjn; simp [okL] at this; exact this.1)
    have hrE : Q.rtE (j : Int) ep = if ep = (atP Q.ls j).ep ∧ tkn (atP Q.ls j) (cnt Q.ms (j : Int)) = 0 then 102 else 0 := by rw [Qu.rtE, if_pos hE, hlane]
    have hrQ : Q.rtQ (j : Int) ep = if Q.rtE (j : Int) ep = 0 then (if ep = (atP Q.ls j).ep ∧ (atP Q.ls j).tw = true then ⟨Q.ls.set j (retL (atP Q.ls j)), Q.ms⟩ else Q) else qu0 := by rw [Qu.rtQ, hlane]; rfl
    have hnc := HO.out.nc j hjn
    have hcn : cnt Q.ms (j : Int) ≤ 1000 := Nat.le_trans (cnt_le _ _) HO.out.nm
    have j1 : (0 : Int) ≤ (j : Int) := by omega
    have j2 : (j : Int) < (Q.ls.length : Int) := by omega
    have HRE : Hid (_ = _) := hrE
    have HRQ : Hid (_ = _) := hrQ
    simp only [hE] at hsk
    clear hrE hrQ hH hlane hE hok
    obtain ⟨k1, k2, k3, b2, s2⟩ := alloc3 w [.slice la Q.ls.length lc, .slice ma Q.ms.length mc] 25 [.int .i64 (j : Int), .int .i64 ep, .int .i64 n, .int .u64 pay] 40 [.slice none 0 0, .slice none 0 0] 25
    have K1 : Hid (Blk _ _ _ _) := k1
    have K2 : Hid (Blk _ _ _ _) := k2
    have K3 : Hid (Blk _ _ _ _) := k3
    have B2 : Hid (Below _ _ _) := b2
    clear k1 k2 k3 b2 s2
    go_enter Try.func21, Try.ntmps21
    go_wp2_with fail
    generalize ((w.alloc (.cells #[.slice la Q.ls.length lc, .slice ma Q.ms.length mc] 25)).alloc (.cells #[.int .i64 (j : Int), .int .i64 ep, .int .i64 n, .int .u64 pay] 40)).alloc (.cells #[.slice none 0 0, .slice none 0 0] 25) = w2 at *
    refine (hsk _ (HQ.out.below B2.out)).mono ?_
    rintro e w3 ⟨rfl, hb⟩
    obtain ⟨q0, q1⟩ := (K1.out.below hb).bx.two
    obtain ⟨r0, r1, r2, r3⟩ := (K2.out.below hb).bx.four
    obtain ⟨p0, p1⟩ := (K3.out.below hb).bx.two
    have p2 := (K3.out.below hb).fz
    have K1b : Hid (Blk w3 _ _ _) := K1.out.below hb
    have K2b : Hid (Blk w3 _ _ _) := K2.out.below hb
    have K3b : Hid (Blk w3 _ _ _) := K3.out.below hb
    have B3 : Hid (Below w.heap.size w w3) := Below.onto B2.out hb
    have HL2 : Hid (w.heap.size ≤ w.heap.size + 1 + 1) := by show _ ≤ _; omega
    have HC12 : Hid (w.heap.size < w.heap.size + 1 ∧ w.heap.size + 1 < w.heap.size + 1 + 1) := ⟨by omega, by omega⟩
    clear hb
    generalize w.heap.size + 1 + 1 = C2 at *
    generalize w.heap.size + 1 = C1 at *
    go_wp2_with fail
    refine (how _ (HQ.out.below B3.out)).mono ?_
    rintro e w4 ⟨ul, um, V', rfl, how4, hb4⟩
    have HOW : Hid (Owned w4 w3.heap.size ul um Q V') := how4
    have HB4 : Hid (Below w3.heap.size w3 w4) := hb4
    have hq4 := how4.qis
    obtain ⟨bl, ol, lc', ca, cc, rfl, hV, c0, c1, c2, c3, c4, c5⟩ := hq4.at hjn
    obtain ⟨ma', mc', rfl, _⟩ := hq4.m
    generalize hx : atP Q.ls j = x at *
    have HXJ : Hid (atP Q.ls j = x) := hx
    obtain ⟨k5, k6, b6, s6⟩ := alloc2 w4 [.slice (some ⟨bl, ol, none⟩) Q.ls.length lc', .slice ma' Q.ms.length mc'] 25 [.int .i64 x.cr, .bool x.tw, .int .i64 x.lf, .slice ca x.cl.length cc, .int .i64 x.nx, .int .i64 x.ep] 61
    have K5 : Hid (Blk _ _ _ _) := k5
    have K6 : Hid (Blk _ _ _ _) := k6
    have B46 : Hid (Below w4.heap.size w4 _) := b6
    have K1d : Hid (Blk w4 _ _ _) := K1b.out.below hb4
    have K2d : Hid (Blk w4 _ _ _) := K2b.out.below hb4
    have K3d : Hid (Blk w4 _ _ _) := K3b.out.below hb4
    have HQ4 : Hid (QIs w4 (.slice (some ⟨bl, ol, none⟩) Q.ls.length lc') (.slice ma' Q.ms.length mc') Q V') := hq4
    have HNW : Hid (QNew w3.heap.size (.slice (some ⟨bl, ol, none⟩) Q.ls.length lc') (.slice ma' Q.ms.length mc') Q V') := how4.new
    have HC2L : Hid (C2 < w3.heap.size) := K3b.out.lt
    have HBW6 : Hid (Below w.heap.size w ((w4.alloc (.cells #[.slice (some ⟨bl, ol, none⟩) Q.ls.length lc', .slice ma' Q.ms.length mc'] 25)).alloc (.cells #[.int .i64 x.cr, .bool x.tw, .int .i64 x.lf, .slice ca x.cl.length cc, .int .i64 x.nx, .int .i64 x.ep] 61))) := Below.onto (Below.onto B3.out hb4) b6
    obtain ⟨q0, q1⟩ := K1d.out.bx.two
    obtain ⟨r0, r1, r2, r3⟩ := K2d.out.bx.four
    obtain ⟨p0, p1⟩ := K3d.out.bx.two
    have p2 := K3d.out.fz
    have z1 := K1d.out.lt
    have z2 := K2d.out.lt
    have z3 := K3d.out.lt
    have zb : bl < w4.heap.size := cell_lt c0
    have hc12 := HC12.out
    have h34 := hb4.size
    have z3' := K3b.out.lt
    have K1f : Hid (Blk ((w4.alloc (.cells #[.slice (some ⟨bl, ol, none⟩) Q.ls.length lc', .slice ma' Q.ms.length mc'] 25)).alloc (.cells #[.int .i64 x.cr, .bool x.tw, .int .i64 x.lf, .slice ca x.cl.length cc, .int .i64 x.nx, .int .i64 x.ep] 61)) _ _ _) := K1d.out.below b6
    have K2f : Hid (Blk ((w4.alloc (.cells #[.slice (some ⟨bl, ol, none⟩) Q.ls.length lc', .slice ma' Q.ms.length mc'] 25)).alloc (.cells #[.int .i64 x.cr, .bool x.tw, .int .i64 x.lf, .slice ca x.cl.length cc, .int .i64 x.nx, .int .i64 x.ep] 61)) _ _ _) := K2d.out.below b6
    have K3f : Hid (Blk ((w4.alloc (.cells #[.slice (some ⟨bl, ol, none⟩) Q.ls.length lc', .slice ma' Q.ms.length mc'] 25)).alloc (.cells #[.int .i64 x.cr, .bool x.tw, .int .i64 x.lf, .slice ca x.cl.length cc, .int .i64 x.nx, .int .i64 x.ep] 61)) _ _ _) := K3d.out.below b6
    clear how how4 hb4 hq4 k5 k6 b6 s6 hx
    by_cases hep : ep = x.ep
    · have hep1 : (ep == x.ep) = true := by simp [hep]
      have HEP : Hid (ep = x.ep) := hep
      clear hep
      go_wp2_with fail
      generalize (w4.alloc (.cells #[.slice (some ⟨bl, ol, none⟩) Q.ls.length lc', .slice ma' Q.ms.length mc'] 25)).alloc (.cells #[.int .i64 x.cr, .bool x.tw, .int .i64 x.lf, .slice ca x.cl.length cc, .int .i64 x.nx, .int .i64 x.ep] 61) = w6 at *
      obtain ⟨y0, y1, y2, y3, y4, y5⟩ := K6.out.bx.six
      obtain ⟨x0, x1⟩ := K5.out.bx.two
      obtain ⟨g0, g1⟩ := K1f.out.bx.two
      obtain ⟨f0, f1, f2, f3⟩ := K2f.out.bx.four
      have hml := regrown_call (w := w6) fun W hW => hmg W (HQ.out.below (Below.onto HBW6.out hW))
      have t0 := cell_regrown y0
      have t2 := cell_regrown y2
      have t3 := cell_regrown y3
      have t4 := cell_regrown g0
      have t5 := cell_regrown g1
      have t6 := cell_regrown f0
      obtain ⟨tk, htkv⟩ : ∃ tk, tk = tkn x (cnt Q.ms (j : Int)) := ⟨_, rfl⟩
      have HTK : Hid (tk = x.cr - x.lf - x.cl.length - (cnt Q.ms (j : Int) : Int)) := htkv
      rw [← htkv] at HRE
      clear htkv c0 c1 c2 c3 c4 c5 q0 q1 r0 r1 r2 r3 p0 p1 p2
      generalize cnt Q.ms (j : Int) = qn at *
      refine wp_region_quiet_below (by kernel_rfl) (by kernel_rfl) ?_
      repeat (go_big_quiet_step (with_reducible exact hml _ _))
      refine wpQuiet_nil ?_
      intro _ hw'
      obtain ⟨⟨dq, osq⟩, hw''⟩ := hw'
      subst hw''
      have b67 := below_regrown w6 dq osq
      have hW7 : Go.Sort.grow (redrawn w6 (Regrown.mk dq osq).d) (Regrown.mk dq osq).os = Go.Sort.grow (redrawn w6 dq) osq := rfl
      rw [hW7]
      clear hW7 t0 t2 t3 t4 t5 t6 hml y0 y1 y2 y3 y4 y5 x0 x1 g0 g1 f0 f1 f2 f3
      generalize Go.Sort.grow (redrawn w6 dq) osq = w7 at *
      have B7 : Hid (Below w.heap.size w w7) := Below.onto HBW6.out b67
      have B47 : Hid (Below w4.heap.size w4 w7) := Below.onto B46.out b67
      have HQ7 : Hid (QIs w7 _ _ Q V') := HQ4.out.below B47.out
      obtain ⟨x0, x1⟩ := (K5.out.below b67).bx.two
      obtain ⟨y0, y1, y2, y3, y4, y5⟩ := (K6.out.below b67).bx.six
      obtain ⟨f0, f1, f2, f3⟩ := (K2f.out.below b67).bx.four
      obtain ⟨p0, p1⟩ := (K3f.out.below b67).bx.two
      have p2 := (K3f.out.below b67).fz
      have n1 : ¬ C2 = w4.heap.size := by omega
      have K7 : Hid (Blk w7 w4.heap.size _ _) := K5.out.below b67
      clear b67
      by_cases htk0 : tk = 0
      · have HE : Hid (Q.rtE (j : Int) ep = 102) := by show _ = _; rw [HRE.out, if_pos ⟨HEP.out, htk0⟩]
        have HP : Hid (Q.rtQ (j : Int) ep = qu0) := by show _ = _; rw [HRQ.out, HE.out, if_neg (by decide)]
        have ht1 : (x.cr - x.lf - (x.cl.length : Int) - (qn : Int) == 0) = true := by have := HTK.out; simp; omega
        clear htk0
        go_wp2_with fail
        refine bodyPost_ret (v := .tuple #[quV (.slice none 0 0) (.slice none 0 0), .int .i64 102]) (by simp [results, Try.results21, go_sem, p0, p1]) rfl ⟨.slice none 0 0, .slice none 0 0, fun _ => .slice none 0 0, by rw [HE.out], by rw [HP.out]; exact qis0 _, ?_, by rw [HP.out]; exact qnew0 _⟩
        repeat (first | (with_reducible exact B7.out) | ((with_reducible refine Below.setCell ?_ ?_ _); rotate_left; first | exact HL2.out))
      · have HE : Hid (Q.rtE (j : Int) ep = 0) := by show _ = _; rw [HRE.out, if_neg (by rintro ⟨_, h⟩; exact htk0 h)]
        have ht1 : (x.cr - x.lf - (x.cl.length : Int) - (qn : Int) == 0) = false := by have := HTK.out; simp; omega
        clear htk0
        cases htw : x.tw
        · have HP : Hid (Q.rtQ (j : Int) ep = Q) := by show _ = _; rw [HRQ.out, HE.out, if_pos rfl, if_neg (by rintro ⟨_, h⟩; rw [htw] at h; cases h)]
          rw [htw] at y1
          clear htw
          go_wp2_with fail
          refine bodyPost_ret (v := .tuple #[quV (.slice (some ⟨bl, ol, none⟩) Q.ls.length lc') (.slice ma' Q.ms.length mc'), .int .i64 0]) (by simp [results, Try.results21, go_sem, p0, p1]) rfl ⟨.slice (some ⟨bl, ol, none⟩) Q.ls.length lc', .slice ma' Q.ms.length mc', V', by rw [HE.out], by rw [HP.out]; exact (HQ7.out.setO HNW.out HC2L.out).setO HNW.out HC2L.out, ?_, by rw [HP.out]; exact HNW.out.mono B3.out.size⟩
          repeat (first | (with_reducible exact B7.out) | ((with_reducible refine Below.setCell ?_ ?_ _); rotate_left; first | exact HL2.out))
        · have HP : Hid (Q.rtQ (j : Int) ep = ⟨Q.ls.set j (retL x), Q.ms⟩) := by show _ = _; rw [HRQ.out, HE.out, if_pos rfl, if_pos ⟨HEP.out, htw⟩]
          rw [htw] at y1
          have HTW : Hid (x.tw = true) := htw
          clear htw
          obtain ⟨xs, o1, o2⟩ := HOW.out.l
          have o7 := own_below o1 B47.out
          have hbl3 : w3.heap.size ≤ bl := own_blk o1 bl rfl
          have hfr : w7.frozen? ⟨bl, ol + j * 6 + 2, none⟩ = false := by
            rcases o7.2 with ⟨e1, _⟩ | ⟨g, cap, cur, e1, _, h2, _⟩
            · cases e1
            · injection e1 with e1
              injection e1 with e1
              have e2 : bl = g := congrArg Addr.block e1
              rw [e2]
              exact frozen_of_row _ _ _ _ _ h2
          have l2 : w7.cell? ⟨bl, ol + j * 6 + 2, none⟩ = some (.int .i64 x.lf) := by
            obtain ⟨_, _, _, _, _, e1, _, _, _, l2, _⟩ := HQ7.out.at hjn
            injection e1 with e1
            injection e1 with e1
            injection e1 with e2 e3
            rw [HXJ.out, ← e2, ← e3] at l2
            exact l2
          have HQ8 : Hid (QIs (w7.setCell ⟨bl, ol + j * 6 + 2, none⟩ (.int .i64 (x.lf + 1))) (.slice (some ⟨bl, ol, none⟩) Q.ls.length lc') (.slice ma' Q.ms.length mc') ⟨Q.ls.set j (retL x), Q.ms⟩ V') := by
            obtain ⟨_, _, e1, g1, _, hr⟩ := HQ7.out.l
            cases e1
            refine ⟨?_, fun i hi => ?_, ?_⟩
            · show Sl _ 6 (Q.ls.set j (retL x)).length _ _
              rw [show (Q.ls.set j (retL x)).length = Q.ls.length from by simp]
              refine ⟨_, _, rfl, g1, (fun e => by cases e), (hr.put hjn (f := 2) (by omega) _).congr fun i _ e he => ?_⟩
              rw [← HXJ.out]
              exact ret_cells hjn i e he
            · have hi' : i < Q.ls.length := by simpa using hi
              obtain ⟨ys, o3, o4⟩ := HOW.out.c i hi'
              show Cl _ (V' i) (atP (Q.ls.set j (retL x)) i).cl
              have hcl : (atP (Q.ls.set j (retL x)) i).cl = (atP Q.ls i).cl := by
                rw [atP_set hjn]
                by_cases e : i = j
                · rw [if_pos e, e, HXJ.out]; rfl
                · rw [if_neg e]
              rw [hcl]
              exact (HQ7.out.c i hi').setO fun _ e => own_two o1 o3 (by decide) bl rfl e
            · obtain ⟨ys, o3, o4⟩ := HOW.out.m
              exact HQ7.out.m.setO fun e => own_two o1 o3 (by decide) bl rfl e
          have HNW2 : Hid (QNew w3.heap.size (.slice (some ⟨bl, ol, none⟩) Q.ls.length lc') (.slice ma' Q.ms.length mc') ⟨Q.ls.set j (retL x), Q.ms⟩ V') := ⟨HNW.out.l, HNW.out.m, fun i hi h0 b e => by
            have hi' : i < Q.ls.length := by simpa using hi
            obtain ⟨ys, o3, o4⟩ := HOW.out.c i hi'
            exact own_blk o3 b e⟩
          have hC2L := HC2L.out
          have K3g : Hid (Blk (w7.setCell ⟨bl, ol + j * 6 + 2, none⟩ (.int .i64 (x.lf + 1))) C2 _ _) := (K3d.out.below B47.out).setO (by omega) _
          have K5g : Hid (Blk (w7.setCell ⟨bl, ol + j * 6 + 2, none⟩ (.int .i64 (x.lf + 1))) w4.heap.size _ _) := K7.out.setO (by omega) _
          have B8 : Hid (Below w.heap.size w (w7.setCell ⟨bl, ol + j * 6 + 2, none⟩ (.int .i64 (x.lf + 1)))) := B7.out.setCell (show w.heap.size ≤ bl by omega) _
          have m1 : ¬ bl = w4.heap.size := by omega
          have m2 : ¬ bl = w4.heap.size + 1 := by omega
          have m3 : ¬ bl = C1 := by omega
          have m4 : ¬ bl = C2 := by omega
          clear o1 o2 o7
          go_wp2_with fail
          obtain ⟨v0, v1⟩ := K3g.out.bx.two
          refine bodyPost_ret (v := .tuple #[quV (.slice (some ⟨bl, ol, none⟩) Q.ls.length lc') (.slice ma' Q.ms.length mc'), .int .i64 0]) (by simp [results, Try.results21, go_sem, v0, v1]) rfl ⟨.slice (some ⟨bl, ol, none⟩) Q.ls.length lc', .slice ma' Q.ms.length mc', V', by rw [HE.out], by rw [HP.out]; exact (HQ8.out.setO HNW2.out hC2L).setO HNW2.out hC2L, ?_, by rw [HP.out]; exact HNW2.out.mono B3.out.size⟩
          exact (B8.out.setCell HL2.out _).setCell HL2.out _
    · have hep1 : (ep == x.ep) = false := by simp [hep]
      have HE : Hid (Q.rtE (j : Int) ep = 0) := by show _ = _; rw [HRE.out, if_neg (by rintro ⟨h, _⟩; exact hep h)]
      have HP : Hid (Q.rtQ (j : Int) ep = Q) := by show _ = _; rw [HRQ.out, HE.out, if_pos rfl, if_neg (by rintro ⟨h, _⟩; exact hep h)]
      clear hep
      go_wp2_with fail
      have HBX : Hid (Below w.heap.size w w4) := Below.onto B3.out HB4.out
      refine bodyPost_ret (v := .tuple #[quV (.slice (some ⟨bl, ol, none⟩) Q.ls.length lc') (.slice ma' Q.ms.length mc'), .int .i64 0]) (by simp [results, Try.results21, go_sem, p0, p1, z3]) rfl ⟨.slice (some ⟨bl, ol, none⟩) Q.ls.length lc', .slice ma' Q.ms.length mc', V', by rw [HE.out], by rw [HP.out]; exact ((HQ4.out.setO HNW.out HC2L.out).setO HNW.out HC2L.out).below (Below.onto (below_new _ _) (below_new _ _)), ?_, by rw [HP.out]; exact HNW.out.mono B3.out.size⟩
      refine Below.onto ?_ (Below.onto (below_new _ _) (below_new _ _))
      repeat (first | (with_reducible exact HBX.out) | ((with_reducible refine Below.setCell ?_ ?_ _); rotate_left; first | exact HL2.out))
  · have HE : Hid (Q.rtE ln ep = Q.nam ln) := by show _ = _; rw [Qu.rtE, if_neg hE]
    have HP : Hid (Q.rtQ ln ep = qu0) := by show _ = _; rw [Qu.rtQ, HE.out, if_neg hE]
    have hE1 : (Q.nam ln == 0) = false := by simp [hE]
    rw [HE.out, HP.out]
    clear hE HE HP
    generalize Q.nam ln = E at *
    obtain ⟨k1, k2, k3, b2, s2⟩ := alloc3 w [.slice la Q.ls.length lc, .slice ma Q.ms.length mc] 25 [.int .i64 ln, .int .i64 ep, .int .i64 n, .int .u64 pay] 40 [.slice none 0 0, .slice none 0 0] 25
    have K1 : Hid (Blk _ _ _ _) := k1
    have K2 : Hid (Blk _ _ _ _) := k2
    have K3 : Hid (Blk _ _ _ _) := k3
    have B2 : Hid (Below _ _ _) := b2
    clear k1 k2 k3 b2 s2
    go_enter Try.func21, Try.ntmps21
    go_wp2_with fail
    generalize ((w.alloc (.cells #[.slice la Q.ls.length lc, .slice ma Q.ms.length mc] 25)).alloc (.cells #[.int .i64 ln, .int .i64 ep, .int .i64 n, .int .u64 pay] 40)).alloc (.cells #[.slice none 0 0, .slice none 0 0] 25) = w2 at *
    refine (hsk _ (HQ.out.below B2.out)).mono ?_
    rintro e w3 ⟨rfl, hb⟩
    obtain ⟨q0, q1⟩ := (K1.out.below hb).bx.two
    obtain ⟨r0, r1, r2, r3⟩ := (K2.out.below hb).bx.four
    obtain ⟨p0, p1⟩ := (K3.out.below hb).bx.two
    have p2 := (K3.out.below hb).fz
    have K1b : Hid (Blk w3 _ _ _) := K1.out.below hb
    have K2b : Hid (Blk w3 _ _ _) := K2.out.below hb
    have K3b : Hid (Blk w3 _ _ _) := K3.out.below hb
    have B3 : Hid (Below w.heap.size w w3) := Below.onto B2.out hb
    have HL2 : Hid (w.heap.size ≤ w.heap.size + 1 + 1) := by show _ ≤ _; omega
    have HC12 : Hid (w.heap.size < w.heap.size + 1 ∧ w.heap.size + 1 < w.heap.size + 1 + 1) := ⟨by omega, by omega⟩
    clear hb
    generalize w.heap.size + 1 + 1 = C2 at *
    generalize w.heap.size + 1 = C1 at *
    go_wp2_with fail
    refine bodyPost_ret (v := .tuple #[quV (.slice none 0 0) (.slice none 0 0), .int .i64 E]) (by simp [results, Try.results21, go_sem, p0, p1]) rfl ⟨_, _, fun _ => .slice none 0 0, rfl, qis0 _, ?_, qnew0 _⟩
    repeat (first | (with_reducible exact B3.out) | ((with_reducible refine Below.setCell ?_ ?_ _); rotate_left; first | exact HL2.out))

end Go.Proofs.Ytimmjhegeagofab
