/- The document's Claim. -/
import Derived.Test.YtimmjhegeagofabURefR
namespace Go.Proofs.Ytimmjhegeagofab
open Go.RowKit
set_option maxRecDepth 100000

theorem clm_cells {ls : List PLn} {V : Nat → Value} {j : Nat} {u : Value} (hj : j < ls.length) (i e : Nat) (he : e < 6) : (if i = j ∧ e = 5 then Value.int .i64 (atP ls j).ep else if i = j ∧ e = 4 then Value.int .i64 ((atP ls j).nx + 1) else if i = j ∧ e = 3 then u else if i = j ∧ e = 2 then Value.int .i64 ((atP ls j).lf - 1) else if i = j ∧ e = 1 then Value.bool (atP ls j).tw else if i = j ∧ e = 0 then Value.int .i64 (atP ls j).cr else encLs ls V i e) = encLs (ls.set j (claimL (atP ls j))) (updV V j u) i e := by
  unfold encLs updV
  rw [atP_set hj]
  by_cases h : i = j
  · subst h
    rw [if_pos rfl, if_pos rfl]
    match e, he with
    | 0, _ => simp [encP, claimL]
    | 1, _ => simp [encP, claimL]
    | 2, _ => simp [encP, claimL]
    | 3, _ => simp [encP]
    | 4, _ => simp [encP, claimL]
    | 5, _ => simp [encP, claimL]
  · simp [h]
theorem Rd.put0 {w : World} {b off n s j : Nat} {c : Nat → Nat → Value} (h : Rd w (some ⟨b, off, none⟩) n s c) (hj : j < n) (hf : 0 < s) (u : Value) : Rd (w.setCell ⟨b, off + j * s, none⟩ u) (some ⟨b, off, none⟩) n s (fun i e => if i = j ∧ e = 0 then u else c i e) := h.put hj hf u
/-- the six cells of an element are set -/
theorem Rd.put6 {w : World} {b off n j : Nat} {c : Nat → Nat → Value} (h : Rd w (some ⟨b, off, none⟩) n 6 c) (hj : j < n) (u0 u1 u2 u3 u4 u5 : Value) :
    Rd ((((((w.setCell ⟨b, off + j * 6, none⟩ u0).setCell ⟨b, off + j * 6 + 1, none⟩ u1).setCell ⟨b, off + j * 6 + 2, none⟩ u2).setCell ⟨b, off + j * 6 + 3, none⟩ u3).setCell ⟨b, off + j * 6 + 4, none⟩ u4).setCell ⟨b, off + j * 6 + 5, none⟩ u5) (some ⟨b, off, none⟩) n 6
      (fun i e => if i = j ∧ e = 5 then u5 else if i = j ∧ e = 4 then u4 else if i = j ∧ e = 3 then u3 else if i = j ∧ e = 2 then u2 else if i = j ∧ e = 1 then u1 else if i = j ∧ e = 0 then u0 else c i e) :=
  (((((h.put0 hj (by omega) u0).put hj (f := 1) (by omega) u1).put hj (f := 2) (by omega) u2).put hj (f := 3) (by omega) u3).put hj (f := 4) (by omega) u4).put hj (f := 5) (by omega) u5
theorem Rd.setO {w : World} {b off n s g i : Nat} {c : Nat → Nat → Value} (h : Rd w (some ⟨b, off, none⟩) n s c) (hne : ¬ b = g) (u : Value) : Rd (w.setCell ⟨g, i, none⟩ u) (some ⟨b, off, none⟩) n s c := h.same fun b' off' e => by
  have e : b = b' := by injection e with e; injection e
  subst e
  exact Below.heap_setCell _ _ _ _ hne
theorem own_nine {w : World} {E b off j base sz n : Nat} {T : TypeId} {v : Value} {xs : List Value} {u0 u1 u2 u3 u4 u5 : Value} (h : w.ownsRow base T sz v n xs) (ha : v.ownBlock ≠ some E) (hb : v.ownBlock ≠ some b) : World.ownsRow (((((((((w.setCell ⟨E, 3, none⟩ u3).setCell ⟨E, 4, none⟩ u4).setCell ⟨E, 2, none⟩ u2).setCell ⟨b, off + j * 6, none⟩ u0).setCell ⟨b, off + j * 6 + 1, none⟩ u1).setCell ⟨b, off + j * 6 + 2, none⟩ u2).setCell ⟨b, off + j * 6 + 3, none⟩ u3).setCell ⟨b, off + j * 6 + 4, none⟩ u4).setCell ⟨b, off + j * 6 + 5, none⟩ u5) base T sz v n xs :=
  own_set (own_set (own_set (own_set (own_set (own_set (own_set (own_set (own_set h ha) ha) ha) hb) hb) hb) hb) hb) hb
theorem claimed {w : World} {Q : Qu} {V : Nat → Value} {E b off lc j : Nat} {x : PLn} {ma : Option Addr} {mc : Nat} {u0 u1 u2 u3 u4 u5 : Value} (hj : j < Q.ls.length) (hx : atP Q.ls j = x) (hE : ¬ b = E) (hle : Q.ls.length ≤ lc)
    (h0 : u0 = .int .i64 x.cr) (h1 : u1 = .bool x.tw) (h2 : u2 = .int .i64 (x.lf - 1)) (h4 : u4 = .int .i64 (x.nx + 1)) (h5 : u5 = .int .i64 x.ep)
    (hr : Rd w (some ⟨b, off, none⟩) Q.ls.length 6 (encLs Q.ls V)) (hc : Cl (((((((((w.setCell ⟨E, 3, none⟩ u3).setCell ⟨E, 4, none⟩ u4).setCell ⟨E, 2, none⟩ u2).setCell ⟨b, off + j * 6, none⟩ u0).setCell ⟨b, off + j * 6 + 1, none⟩ u1).setCell ⟨b, off + j * 6 + 2, none⟩ u2).setCell ⟨b, off + j * 6 + 3, none⟩ u3).setCell ⟨b, off + j * 6 + 4, none⟩ u4).setCell ⟨b, off + j * 6 + 5, none⟩ u5) u3 (claimL x).cl)
    (ho : ∀ i, i < Q.ls.length → ¬ i = j → Cl (((((((((w.setCell ⟨E, 3, none⟩ u3).setCell ⟨E, 4, none⟩ u4).setCell ⟨E, 2, none⟩ u2).setCell ⟨b, off + j * 6, none⟩ u0).setCell ⟨b, off + j * 6 + 1, none⟩ u1).setCell ⟨b, off + j * 6 + 2, none⟩ u2).setCell ⟨b, off + j * 6 + 3, none⟩ u3).setCell ⟨b, off + j * 6 + 4, none⟩ u4).setCell ⟨b, off + j * 6 + 5, none⟩ u5) (V i) (atP Q.ls i).cl) (hm : Sl (((((((((w.setCell ⟨E, 3, none⟩ u3).setCell ⟨E, 4, none⟩ u4).setCell ⟨E, 2, none⟩ u2).setCell ⟨b, off + j * 6, none⟩ u0).setCell ⟨b, off + j * 6 + 1, none⟩ u1).setCell ⟨b, off + j * 6 + 2, none⟩ u2).setCell ⟨b, off + j * 6 + 3, none⟩ u3).setCell ⟨b, off + j * 6 + 4, none⟩ u4).setCell ⟨b, off + j * 6 + 5, none⟩ u5) 4 Q.ms.length (encMs Q.ms) (.slice ma Q.ms.length mc)) :
    QIs (((((((((w.setCell ⟨E, 3, none⟩ u3).setCell ⟨E, 4, none⟩ u4).setCell ⟨E, 2, none⟩ u2).setCell ⟨b, off + j * 6, none⟩ u0).setCell ⟨b, off + j * 6 + 1, none⟩ u1).setCell ⟨b, off + j * 6 + 2, none⟩ u2).setCell ⟨b, off + j * 6 + 3, none⟩ u3).setCell ⟨b, off + j * 6 + 4, none⟩ u4).setCell ⟨b, off + j * 6 + 5, none⟩ u5) (.slice (some ⟨b, off, none⟩) Q.ls.length lc) (.slice ma Q.ms.length mc) ⟨Q.ls.set j (claimL x), Q.ms⟩ (updV V j u3) := by
  have hr10 := (((hr.setO (i := 3) hE u3).setO (i := 4) hE u4).setO (i := 2) hE u2).put6 hj u0 u1 u2 u3 u4 u5
  generalize ((((((((w.setCell ⟨E, 3, none⟩ u3).setCell ⟨E, 4, none⟩ u4).setCell ⟨E, 2, none⟩ u2).setCell ⟨b, off + j * 6, none⟩ u0).setCell ⟨b, off + j * 6 + 1, none⟩ u1).setCell ⟨b, off + j * 6 + 2, none⟩ u2).setCell ⟨b, off + j * 6 + 3, none⟩ u3).setCell ⟨b, off + j * 6 + 4, none⟩ u4).setCell ⟨b, off + j * 6 + 5, none⟩ u5 = W at *
  subst h0 h1 h2 h4 h5
  refine ⟨?_, fun i hi => ?_, hm⟩
  · show Sl _ 6 (Q.ls.set j (claimL x)).length _ _
    rw [show (Q.ls.set j (claimL x)).length = Q.ls.length from by simp]
    refine ⟨some ⟨b, off, none⟩, lc, rfl, hle, (fun e => by cases e), ?_⟩
    refine Rd.congr hr10 fun i _ e he => ?_
    rw [← hx]
    exact clm_cells hj i e he
  · have hi' : i < Q.ls.length := by simpa using hi
    show Cl _ (updV V j u3 i) (atP (Q.ls.set j (claimL x)) i).cl
    unfold updV
    rw [atP_set hj]
    by_cases e : i = j
    · rw [if_pos e, if_pos e]
      exact hc
    · rw [if_neg e, if_neg e]
      exact ho i hi' e
set_option maxHeartbeats 8000000 in
theorem rclaim_any (vl vm : Value) (Q : Qu) (V : Nat → Value) (ln : Int) (w : World) (ho : OkQ Q) (hq : QIs w vl vm Q V) : Calls Try.prog 11 #[quV vl vm, .int .i64 ln] w fun e w' =>
    ∃ ul um V', e = .returned (.tuple #[quV ul um, clV (Q.clC ln).1 (Q.clC ln).2.1 (Q.clC ln).2.2, .int .i64 (Q.clE ln)]) ∧ QIs w' ul um (Q.clQ ln) V' ∧ Below w.heap.size w w' ∧ QNew w.heap.size ul um (Q.clQ ln) V' := by
  have hsk := fun W h1 => rasked_any vl vm Q V ln W ho h1
  have how := fun W h1 => rown_any vl vm Q V W ho h1
  have HQ : Hid (QIs w vl vm Q V) := hq
  have HO : Hid (OkQ Q) := ho
  obtain ⟨la, lc, rfl, _, _, hlr⟩ := hq.l
  obtain ⟨ma, mc, rfl, _, _, hmr⟩ := hq.m
  clear hlr hmr hq ho
  obtain ⟨k1, k3, k4, b2, s2⟩ := alloc3 w [.slice la Q.ls.length lc, .slice ma Q.ms.length mc] 25 [.slice none 0 0, .slice none 0 0] 25 [.int .i64 0, .int .i64 0, .int .i64 0] 27
  have K1 : Hid (Blk _ _ _ _) := k1
  have K3 : Hid (Blk _ _ _ _) := k3
  have K4 : Hid (Blk _ _ _ _) := k4
  have B2 : Hid (Below _ _ _) := b2
  clear k1 k3 k4 b2 s2
  by_cases hE : Q.nam ln = 0
  · obtain ⟨hok, hH⟩ := nam_zero hE
    obtain ⟨j, rfl, hjn⟩ : ∃ j : Nat, ln = (j : Int) ∧ j < Q.ls.length := by
      simp [Qu.hasB] at hH
      exact ⟨ln.toNat, by omega, by omega⟩
    have hlane : Q.lane (j : Int) = atP Q.ls j := by simp [Qu.lane]
    have hokL := ((ok_iff Q).1 hok).2.2 j hjn
    obtain ⟨hokc, hokn, _⟩ : hasCr (atP Q.ls j) = true ∧ hasNo (atP Q.ls j) = true ∧ True := by simp [okL] at hokL; exact ⟨hokL.1, hokL.2.1, trivial⟩
    obtain ⟨⟨_, hc64⟩, hf0, hfc⟩ := hasCr_iff.1 hokc
    obtain ⟨⟨hn0, hnmx⟩, _, _⟩ := hasNo_iff.1 hokn
    have hrE : Q.clE (j : Int) = if (atP Q.ls j).lf = 0 then 101 else if (atP Q.ls j).nx = mxC then 3 else 0 := by rw [Qu.clE, if_pos hE, hlane]
    have hrQ : Q.clQ (j : Int) = if Q.clE (j : Int) = 0 then ⟨Q.ls.set j (claimL (atP Q.ls j)), Q.ms⟩ else qu0 := by rw [Qu.clQ, hlane]; rfl
    have hrC : Q.clC (j : Int) = if Q.clE (j : Int) = 0 then ((j : Int), (atP Q.ls j).nx, (atP Q.ls j).ep) else (0, 0, 0) := by rw [Qu.clC, hlane]
    have hnc := HO.out.nc j hjn
    have j1 : (0 : Int) ≤ (j : Int) := by omega
    have j2 : (j : Int) < (Q.ls.length : Int) := by omega
    have HRE : Hid (_ = _) := hrE
    have HRQ : Hid (_ = _) := hrQ
    have HRC : Hid (_ = _) := hrC
    simp only [hE] at hsk
    clear hrE hrQ hrC hH hlane hE hok hokL hokc hokn
    go_enter Try.func11, Try.ntmps11
    go_wp2_with fail
    generalize ((w.alloc (.cells #[.slice la Q.ls.length lc, .slice ma Q.ms.length mc] 25)).alloc (.cells #[.slice none 0 0, .slice none 0 0] 25)).alloc (.cells #[.int .i64 0, .int .i64 0, .int .i64 0] 27) = w2 at *
    refine (hsk _ (HQ.out.below B2.out)).mono ?_
    rintro e w3 ⟨rfl, hb⟩
    obtain ⟨q0, q1⟩ := (K1.out.below hb).bx.two
    have K1b : Hid (Blk w3 _ _ _) := K1.out.below hb
    have K3b : Hid (Blk w3 _ _ _) := K3.out.below hb
    have K4b : Hid (Blk w3 _ _ _) := K4.out.below hb
    have B3 : Hid (Below w.heap.size w w3) := Below.onto B2.out hb
    have HC12 : Hid (w.heap.size < w.heap.size + 1 ∧ w.heap.size + 1 < w.heap.size + 1 + 1) := ⟨by omega, by omega⟩
    clear hb
    generalize w.heap.size + 1 + 1 = C2 at *
    generalize w.heap.size + 1 = C1 at *
    go_wp2_with fail
    refine (how _ (HQ.out.below B3.out)).mono ?_
    rintro e w4 ⟨ul, um, V', rfl, how4, hb4⟩
    have HOW : Hid (Owned w4 w3.heap.size ul um Q V') := how4
    have HB4 : Hid (Below w3.heap.size w3 w4) := hb4
    have hq4 := how4.qis
    obtain ⟨bl, ol, lc', ca, cc, rfl, hV, c0, c1, c2, c3, c4, c5⟩ := hq4.at hjn
    obtain ⟨ma', mc', rfl, _⟩ := hq4.m
    generalize hx : atP Q.ls j = x at *
    have HXJ : Hid (atP Q.ls j = x) := hx
    have HVJ : Hid (V' j = _) := hV
    have K1d : Hid (Blk w4 _ _ _) := K1b.out.below hb4
    have K3d : Hid (Blk w4 _ _ _) := K3b.out.below hb4
    have K4d : Hid (Blk w4 _ _ _) := K4b.out.below hb4
    have BW4 : Hid (Below w.heap.size w w4) := Below.onto B3.out hb4
    obtain ⟨q0, q1⟩ := K1d.out.bx.two
    obtain ⟨p0, p1⟩ := K3d.out.bx.two
    have p2 := K3d.out.fz
    obtain ⟨r0, r1, r2⟩ := K4d.out.bx.three
    have r3 := K4d.out.fz
    have z1 := K1d.out.lt
    have z3 := K3d.out.lt
    have z4 := K4d.out.lt
    have zb : bl < w4.heap.size := cell_lt c0
    have hc12 := HC12.out
    have h34 := hb4.size
    have z3' := K3b.out.lt
    have z4' := K4b.out.lt
    have HL1 : Hid (w.heap.size ≤ C1) := by show _ ≤ _; omega
    have HL2 : Hid (w.heap.size ≤ C2) := by show _ ≤ _; omega
    have hne : ¬ C1 = C2 := by omega
    clear how how4 hb4 hq4 hx hV
    by_cases hlf : x.lf = 0
    · have hlf1 : (x.lf == 0) = true := by simp [hlf]
      have HE : Hid (Q.clE (j : Int) = 101) := by show _ = _; rw [HRE.out, if_pos hlf]
      have HP : Hid (Q.clQ (j : Int) = qu0) := by show _ = _; rw [HRQ.out, HE.out, if_neg (by decide)]
      have HC : Hid (Q.clC (j : Int) = (0, 0, 0)) := by show _ = _; rw [HRC.out, HE.out, if_neg (by decide)]
      clear hlf
      go_wp2_with fail
      refine bodyPost_ret (v := .tuple #[quV (.slice none 0 0) (.slice none 0 0), clV 0 0 0, .int .i64 101]) (by simp [results, Try.results11, go_sem, p0, p1, z3, r0, r1, r2, z4]) rfl ⟨.slice none 0 0, .slice none 0 0, fun _ => .slice none 0 0, by rw [HE.out, HC.out], by rw [HP.out]; exact qis0 _, ?_, by rw [HP.out]; exact qnew0 _⟩
      refine Below.onto ?_ (Below.onto (below_new _ _) (below_new _ _))
      repeat (first | (with_reducible exact BW4.out) | ((with_reducible refine Below.setCell ?_ ?_ _); rotate_left; first | exact HL1.out | exact HL2.out))
    · have hlf1 : (x.lf == 0) = false := by simp [hlf]
      by_cases hmx : x.nx = mxC
      · have hmx1 : (x.nx == 1099511627776) = true := by rw [hmx]; rfl
        have HE : Hid (Q.clE (j : Int) = 3) := by show _ = _; rw [HRE.out, if_neg hlf, if_pos hmx]
        have HP : Hid (Q.clQ (j : Int) = qu0) := by show _ = _; rw [HRQ.out, HE.out, if_neg (by decide)]
        have HC : Hid (Q.clC (j : Int) = (0, 0, 0)) := by show _ = _; rw [HRC.out, HE.out, if_neg (by decide)]
        clear hlf hmx
        go_wp2_with fail
        refine bodyPost_ret (v := .tuple #[quV (.slice none 0 0) (.slice none 0 0), clV 0 0 0, .int .i64 3]) (by simp [results, Try.results11, go_sem, p0, p1, z3, r0, r1, r2, z4]) rfl ⟨.slice none 0 0, .slice none 0 0, fun _ => .slice none 0 0, by rw [HE.out, HC.out], by rw [HP.out]; exact qis0 _, ?_, by rw [HP.out]; exact qnew0 _⟩
        refine Below.onto ?_ (Below.onto (below_new _ _) (below_new _ _))
        repeat (first | (with_reducible exact BW4.out) | ((with_reducible refine Below.setCell ?_ ?_ _); rotate_left; first | exact HL1.out | exact HL2.out))
      · have hmx1 : (x.nx == 1099511627776) = false := by simpa [mxC] using hmx
        have hmx2 : x.nx < 1099511627776 := by have : x.nx ≠ 1099511627776 := hmx; omega
        have hlf2 : 1 ≤ x.lf := by omega
        have HE : Hid (Q.clE (j : Int) = 0) := by show _ = _; rw [HRE.out, if_neg hlf, if_neg hmx]
        have HP : Hid (Q.clQ (j : Int) = ⟨Q.ls.set j (claimL x), Q.ms⟩) := by show _ = _; rw [HRQ.out, HE.out, if_pos rfl]
        have HC : Hid (Q.clC (j : Int) = ((j : Int), x.nx, x.ep)) := by show _ = _; rw [HRC.out, HE.out, if_pos rfl]
        clear hlf hmx
        obtain ⟨k5, k6, k7, b7, s7⟩ := alloc3 w4 [.slice (some ⟨bl, ol, none⟩) Q.ls.length lc', .slice ma' Q.ms.length mc'] 25 [.int .i64 x.cr, .bool x.tw, .int .i64 x.lf, .slice ca x.cl.length cc, .int .i64 x.nx, .int .i64 x.ep] 61 [.int .i64 (j : Int), .int .i64 x.nx, .int .i64 x.ep] 27
        obtain ⟨k8, b8, s8⟩ := alloc1 (((w4.alloc (.cells #[.slice (some ⟨bl, ol, none⟩) Q.ls.length lc', .slice ma' Q.ms.length mc'] 25)).alloc (.cells #[.int .i64 x.cr, .bool x.tw, .int .i64 x.lf, .slice ca x.cl.length cc, .int .i64 x.nx, .int .i64 x.ep] 61)).alloc (.cells #[.int .i64 (j : Int), .int .i64 x.nx, .int .i64 x.ep] 27)) [.int .i64 x.nx] 3
        obtain ⟨ys, o3, o4⟩ := HOW.out.c j hjn
        rw [HVJ.out] at o3
        rw [HXJ.out] at o3 o4
        have b48 : Below w4.heap.size w4 ((((w4.alloc (.cells #[.slice (some ⟨bl, ol, none⟩) Q.ls.length lc', .slice ma' Q.ms.length mc'] 25)).alloc (.cells #[.int .i64 x.cr, .bool x.tw, .int .i64 x.lf, .slice ca x.cl.length cc, .int .i64 x.nx, .int .i64 x.ep] 61)).alloc (.cells #[.int .i64 (j : Int), .int .i64 x.nx, .int .i64 x.ep] 27)).alloc (.cells #[.int .i64 x.nx] 3)) := Below.onto b7 b8
        have hown : World.ownsRow ((((w4.alloc (.cells #[.slice (some ⟨bl, ol, none⟩) Q.ls.length lc', .slice ma' Q.ms.length mc'] 25)).alloc (.cells #[.int .i64 x.cr, .bool x.tw, .int .i64 x.lf, .slice ca x.cl.length cc, .int .i64 x.nx, .int .i64 x.ep] 61)).alloc (.cells #[.int .i64 (j : Int), .int .i64 x.nx, .int .i64 x.ep] 27)).alloc (.cells #[.int .i64 x.nx] 3)) w3.heap.size 3 1 (.slice ca x.cl.length cc) x.cl.length ys := own_below o3 b48
        have hsl : Sl ((((w4.alloc (.cells #[.slice (some ⟨bl, ol, none⟩) Q.ls.length lc', .slice ma' Q.ms.length mc'] 25)).alloc (.cells #[.int .i64 x.cr, .bool x.tw, .int .i64 x.lf, .slice ca x.cl.length cc, .int .i64 x.nx, .int .i64 x.ep] 61)).alloc (.cells #[.int .i64 (j : Int), .int .i64 x.nx, .int .i64 x.ep] 27)).alloc (.cells #[.int .i64 x.nx] 3)) 1 1 (fun _ _ => .int .i64 x.nx) (.slice (some ⟨w4.heap.size + 1 + 1 + 1, 0, none⟩) 1 1) := ⟨_, _, rfl, Nat.le_refl _, (fun e => by cases e), fun i hi => ⟨w4.heap.size + 1 + 1 + 1, 0, rfl, fun f hf => by
          obtain rfl : i = 0 := by omega
          obtain rfl : f = 0 := by omega
          rw [s7] at k8
          exact k8.bx 0 _ rfl⟩⟩
        have hbs : w3.heap.size ≤ ((((w4.alloc (.cells #[.slice (some ⟨bl, ol, none⟩) Q.ls.length lc', .slice ma' Q.ms.length mc'] 25)).alloc (.cells #[.int .i64 x.cr, .bool x.tw, .int .i64 x.lf, .slice ca x.cl.length cc, .int .i64 x.nx, .int .i64 x.ep] 61)).alloc (.cells #[.int .i64 (j : Int), .int .i64 x.nx, .int .i64 x.ep] 27)).alloc (.cells #[.int .i64 x.nx] 3)).heap.size := Nat.le_trans h34 b48.size
        have HOWN : Hid (World.ownsRow _ _ _ _ _ _ _) := hown
        have HSL : Hid (Sl _ _ _ _ _) := hsl
        have HBS : Hid (_ ≤ _) := hbs
        have HF8 : Hid (∀ w8, World.grownBy ((((w4.alloc (.cells #[.slice (some ⟨bl, ol, none⟩) Q.ls.length lc', .slice ma' Q.ms.length mc'] 25)).alloc (.cells #[.int .i64 x.cr, .bool x.tw, .int .i64 x.lf, .slice ca x.cl.length cc, .int .i64 x.nx, .int .i64 x.ep] 61)).alloc (.cells #[.int .i64 (j : Int), .int .i64 x.nx, .int .i64 x.ep] 27)).alloc (.cells #[.int .i64 x.nx] 3)) w8 (Value.slice ca x.cl.length cc).ownBlock → Blk w8 w4.heap.size 25 [.slice (some ⟨bl, ol, none⟩) Q.ls.length lc', .slice ma' Q.ms.length mc'] ∧ Blk w8 (w4.heap.size + 1) 61 [.int .i64 x.cr, .bool x.tw, .int .i64 x.lf, .slice ca x.cl.length cc, .int .i64 x.nx, .int .i64 x.ep] ∧ Blk w8 (w4.heap.size + 1 + 1) 27 [.int .i64 (j : Int), .int .i64 x.nx, .int .i64 x.ep] ∧ Below w3.heap.size w3 w8 ∧ (∀ T s v n xs, w4.ownsRow w3.heap.size T s v n xs → (∀ b, v.ownBlock = some b → (Value.slice ca x.cl.length cc).ownBlock ≠ some b) → w8.ownsRow w3.heap.size T s v n xs)) := fun w8 hg8 => by
          have k5' := k5.below b8
          have k6' := k6.below b8
          have k7' := k7.below b8
          refine ⟨k5'.same (hg8.block _ k5'.lt fun e => own_ne_blk hown k5' (by decide) e.symm), k6'.same (hg8.block _ k6'.lt fun e => own_ne_blk hown k6' (by decide) e.symm), k7'.same (hg8.block _ k7'.lt fun e => own_ne_blk hown k7' (by decide) e.symm), (Below.onto HB4.out b48).trans (grown_below hg8 hbs fun g e => own_blk hown g e), fun T s v n xs h1 h2 => ?_⟩
          have h3 := own_below h1 b48
          exact own_same h3 fun b e => hg8.block b (own_lt h3 e) fun e2 => h2 b e e2.symm
        have hlen : x.cl.length + 1 ≤ 1000000 := by omega
        have HS8 : Hid (∀ w8 ua uc, World.ownsRow w8 w3.heap.size 3 1 (.slice ua (x.cl.length + 1) uc) (x.cl.length + 1) (ys ++ cellsL 1 1 fun _ _ => .int .i64 x.nx) → Cl w8 (.slice ua (x.cl.length + 1) uc) (claimL x).cl) := fun w8 ua uc h8 => by
          refine cl_snoc (sl_own h8 fun i hi f hf => ?_)
          obtain rfl : f = 0 := by omega
          rw [Nat.mul_one, Nat.add_zero]
          have hyl : ys.length = x.cl.length := by have := o3.1; omega
          unfold snocC
          by_cases hi2 : i < x.cl.length
          · rw [if_pos hi2, List.getElem?_append_left (by omega)]
            exact o4 i hi2
          · obtain rfl : i = x.cl.length := by omega
            rw [if_neg hi2, List.getElem?_append_right (by omega), hyl, Nat.sub_self]
            rfl
        have HLB : Hid (∃ xs, w4.ownsRow w3.heap.size 61 6 (.slice (some ⟨bl, ol, none⟩) Q.ls.length lc') Q.ls.length xs ∧ ∀ i, i < Q.ls.length → ∀ f, f < 6 → xs[i * 6 + f]? = some (encLs Q.ls V' i f)) := HOW.out.l
        have HAP : Hid (∀ b, (Value.slice (some ⟨bl, ol, none⟩) Q.ls.length lc').ownBlock = some b → (Value.slice ca x.cl.length cc).ownBlock ≠ some b) := by
          obtain ⟨xs, o1, _⟩ := HOW.out.l
          exact own_two o1 o3 (by decide)
        have HAM : Hid (∀ b, (Value.slice ma' Q.ms.length mc').ownBlock = some b → (Value.slice ca x.cl.length cc).ownBlock ≠ some b) := by
          obtain ⟨xs, o1, _⟩ := HOW.out.m
          exact own_two o1 o3 (by decide)
        have HLC : Hid (∀ w8, w8.ownsRow w3.heap.size 61 6 (.slice (some ⟨bl, ol, none⟩) Q.ls.length lc') Q.ls.length (Classical.choose HLB.out) → Rd w8 (some ⟨bl, ol, none⟩) Q.ls.length 6 (encLs Q.ls V') ∧ ∀ i, w8.frozen? ⟨bl, i, none⟩ = false) := fun w8 h8 => by
          have h9 := sl_own h8 (Classical.choose_spec HLB.out).2
          obtain ⟨_, _, e1, _, _, hr⟩ := h9
          cases e1
          refine ⟨hr, fun i => ?_⟩
          rcases h8.2 with ⟨e1, _⟩ | ⟨g, cap, cur, e1, _, h2, _⟩
          · cases e1
          · injection e1 with e1
            injection e1 with e1
            have e2 : bl = g := congrArg Addr.block e1
            rw [e2]
            exact frozen_of_row _ _ _ _ _ h2
        have hbl3 : w3.heap.size ≤ bl := own_blk (Classical.choose_spec HLB.out).1 bl rfl
        have HRD6 : Hid (∀ W, Rd W (some ⟨bl, ol, none⟩) Q.ls.length 6 (encLs Q.ls V') → W.cell? ⟨bl, ol + j * 6, none⟩ = some (.int .i64 x.cr) ∧ W.cell? ⟨bl, ol + j * 6 + 1, none⟩ = some (.bool x.tw) ∧ W.cell? ⟨bl, ol + j * 6 + 2, none⟩ = some (.int .i64 x.lf) ∧ W.cell? ⟨bl, ol + j * 6 + 3, none⟩ = some (.slice ca x.cl.length cc) ∧ W.cell? ⟨bl, ol + j * 6 + 4, none⟩ = some (.int .i64 x.nx) ∧ W.cell? ⟨bl, ol + j * 6 + 5, none⟩ = some (.int .i64 x.ep)) := fun W hr => by
          obtain ⟨b', off', e', hc'⟩ := hr j hjn
          cases e'
          have hx := HXJ.out
          have hv := HVJ.out
          refine ⟨(hc' 0 (by omega)).trans ?_, (hc' 1 (by omega)).trans ?_, (hc' 2 (by omega)).trans ?_, (hc' 3 (by omega)).trans ?_, (hc' 4 (by omega)).trans ?_, (hc' 5 (by omega)).trans ?_⟩ <;> simp [encLs, encP, hx, hv]
        clear k5 k6 k7 b7 s7 k8 b8 s8 o3 o4 b48 hown hsl hbs
        have n1 : ¬ bl = w4.heap.size := by omega
        have n2 : ¬ bl = w4.heap.size + 1 := by omega
        have n3 : ¬ bl = w4.heap.size + 1 + 1 := by omega
        have n4 : ¬ bl = C1 := by omega
        have n5 : ¬ bl = C2 := by omega
        have n6 : ¬ w4.heap.size = C1 := by omega
        have n7 : ¬ w4.heap.size = C2 := by omega
        have n8 : ¬ w4.heap.size + 1 = C1 := by omega
        have n9 : ¬ w4.heap.size + 1 = C2 := by omega
        have n10 : ¬ w4.heap.size + 1 + 1 = C1 := by omega
        have n11 : ¬ w4.heap.size + 1 + 1 = C2 := by omega
        go_wp2_with (at_builtin; refine wpList_app eltI rfl (.tmp 43) (.tmp 46) rfl w3.heap.size (.slice ca x.cl.length cc) (.slice (some ⟨w4.heap.size + 1 + 1 + 1, 0, none⟩) 1 1) x.cl.length 1 ys (fun _ _ => .int .i64 x.nx) rfl rfl HOWN.out HSL.out (fun _ _ _ _ => rfl) hlen HBS.out ?_; intro v8 w8 h8 hg8; obtain ⟨ua, uc, rfl⟩ := own_form2 h8; obtain ⟨k5, k6, k7, hb38, hcar⟩ := HF8.out w8 hg8; obtain ⟨x0, x1⟩ := k5.bx.two; obtain ⟨y0, y1, y2, y3, y4, y5⟩ := k6.bx.six; have y6 := k6.fz; obtain ⟨u0, u1, u2⟩ := k7.bx.three; have hlan8 := hcar _ _ _ _ _ (Classical.choose_spec HLB.out).1 HAP.out; have hrd8 := HLC.out w8 hlan8; obtain ⟨l0, l1, l2, l3, l4, l5⟩ := HRD6.out w8 hrd8.1; have l6 := hrd8.2; clear c0 c1 c2 c3 c4 c5 q0 q1 p0 p1 p2 r0 r1 r2 r3)
        have h8' : w8.ownsRow w3.heap.size 3 1 (.slice ua (x.cl.length + 1) uc) (x.cl.length + 1) (ys ++ cellsL 1 1 fun _ _ => .int .i64 x.nx) := h8
        have keep : ∀ T s v n xs, 61 ≠ T → w8.ownsRow w3.heap.size T s v n xs → World.ownsRow (((((((((w8.setCell ⟨w4.heap.size + 1, 3, none⟩ (.slice ua (x.cl.length + 1) uc)).setCell ⟨w4.heap.size + 1, 4, none⟩ (.int .i64 (x.nx + 1))).setCell ⟨w4.heap.size + 1, 2, none⟩ (.int .i64 (x.lf - 1))).setCell ⟨bl, ol + j * 6, none⟩ (.int .i64 x.cr)).setCell ⟨bl, ol + j * 6 + 1, none⟩ (.bool x.tw)).setCell ⟨bl, ol + j * 6 + 2, none⟩ (.int .i64 (x.lf - 1))).setCell ⟨bl, ol + j * 6 + 3, none⟩ (.slice ua (x.cl.length + 1) uc)).setCell ⟨bl, ol + j * 6 + 4, none⟩ (.int .i64 (x.nx + 1))).setCell ⟨bl, ol + j * 6 + 5, none⟩ (.int .i64 x.ep)) w3.heap.size T s v n xs := fun T s v n xs hT h => by
          have ha : v.ownBlock ≠ some (w4.heap.size + 1) := own_ne_blk h k6 hT.symm
          have hb : v.ownBlock ≠ some bl := own_two hlan8 h hT bl rfl
          with_reducible exact own_nine h ha hb
        have K5e : Hid (Blk (((((((((w8.setCell ⟨w4.heap.size + 1, 3, none⟩ (.slice ua (x.cl.length + 1) uc)).setCell ⟨w4.heap.size + 1, 4, none⟩ (.int .i64 (x.nx + 1))).setCell ⟨w4.heap.size + 1, 2, none⟩ (.int .i64 (x.lf - 1))).setCell ⟨bl, ol + j * 6, none⟩ (.int .i64 x.cr)).setCell ⟨bl, ol + j * 6 + 1, none⟩ (.bool x.tw)).setCell ⟨bl, ol + j * 6 + 2, none⟩ (.int .i64 (x.lf - 1))).setCell ⟨bl, ol + j * 6 + 3, none⟩ (.slice ua (x.cl.length + 1) uc)).setCell ⟨bl, ol + j * 6 + 4, none⟩ (.int .i64 (x.nx + 1))).setCell ⟨bl, ol + j * 6 + 5, none⟩ (.int .i64 x.ep)) w4.heap.size _ _) := (((((((((k5.setO (by omega) _).setO (by omega) _).setO (by omega) _).setO (by omega) _).setO (by omega) _).setO (by omega) _).setO (by omega) _).setO (by omega) _).setO (by omega) _)
        have K7e : Hid (Blk (((((((((w8.setCell ⟨w4.heap.size + 1, 3, none⟩ (.slice ua (x.cl.length + 1) uc)).setCell ⟨w4.heap.size + 1, 4, none⟩ (.int .i64 (x.nx + 1))).setCell ⟨w4.heap.size + 1, 2, none⟩ (.int .i64 (x.lf - 1))).setCell ⟨bl, ol + j * 6, none⟩ (.int .i64 x.cr)).setCell ⟨bl, ol + j * 6 + 1, none⟩ (.bool x.tw)).setCell ⟨bl, ol + j * 6 + 2, none⟩ (.int .i64 (x.lf - 1))).setCell ⟨bl, ol + j * 6 + 3, none⟩ (.slice ua (x.cl.length + 1) uc)).setCell ⟨bl, ol + j * 6 + 4, none⟩ (.int .i64 (x.nx + 1))).setCell ⟨bl, ol + j * 6 + 5, none⟩ (.int .i64 x.ep)) (w4.heap.size + 1 + 1) _ _) := (((((((((k7.setO (by omega) _).setO (by omega) _).setO (by omega) _).setO (by omega) _).setO (by omega) _).setO (by omega) _).setO (by omega) _).setO (by omega) _).setO (by omega) _)
        have K3e : Hid (Blk (((((((((w8.setCell ⟨w4.heap.size + 1, 3, none⟩ (.slice ua (x.cl.length + 1) uc)).setCell ⟨w4.heap.size + 1, 4, none⟩ (.int .i64 (x.nx + 1))).setCell ⟨w4.heap.size + 1, 2, none⟩ (.int .i64 (x.lf - 1))).setCell ⟨bl, ol + j * 6, none⟩ (.int .i64 x.cr)).setCell ⟨bl, ol + j * 6 + 1, none⟩ (.bool x.tw)).setCell ⟨bl, ol + j * 6 + 2, none⟩ (.int .i64 (x.lf - 1))).setCell ⟨bl, ol + j * 6 + 3, none⟩ (.slice ua (x.cl.length + 1) uc)).setCell ⟨bl, ol + j * 6 + 4, none⟩ (.int .i64 (x.nx + 1))).setCell ⟨bl, ol + j * 6 + 5, none⟩ (.int .i64 x.ep)) C1 _ _) := ((((((((((K3b.out.below hb38).setO (by omega) _).setO (by omega) _).setO (by omega) _).setO (by omega) _).setO (by omega) _).setO (by omega) _).setO (by omega) _).setO (by omega) _).setO (by omega) _)
        have K4e : Hid (Blk (((((((((w8.setCell ⟨w4.heap.size + 1, 3, none⟩ (.slice ua (x.cl.length + 1) uc)).setCell ⟨w4.heap.size + 1, 4, none⟩ (.int .i64 (x.nx + 1))).setCell ⟨w4.heap.size + 1, 2, none⟩ (.int .i64 (x.lf - 1))).setCell ⟨bl, ol + j * 6, none⟩ (.int .i64 x.cr)).setCell ⟨bl, ol + j * 6 + 1, none⟩ (.bool x.tw)).setCell ⟨bl, ol + j * 6 + 2, none⟩ (.int .i64 (x.lf - 1))).setCell ⟨bl, ol + j * 6 + 3, none⟩ (.slice ua (x.cl.length + 1) uc)).setCell ⟨bl, ol + j * 6 + 4, none⟩ (.int .i64 (x.nx + 1))).setCell ⟨bl, ol + j * 6 + 5, none⟩ (.int .i64 x.ep)) C2 _ _) := ((((((((((K4b.out.below hb38).setO (by omega) _).setO (by omega) _).setO (by omega) _).setO (by omega) _).setO (by omega) _).setO (by omega) _).setO (by omega) _).setO (by omega) _).setO (by omega) _)
        have hwl : w.heap.size ≤ w4.heap.size + 1 := by omega
        have hwb : w.heap.size ≤ bl := by omega
        have B9 : Hid (Below w.heap.size w (((((((((w8.setCell ⟨w4.heap.size + 1, 3, none⟩ (.slice ua (x.cl.length + 1) uc)).setCell ⟨w4.heap.size + 1, 4, none⟩ (.int .i64 (x.nx + 1))).setCell ⟨w4.heap.size + 1, 2, none⟩ (.int .i64 (x.lf - 1))).setCell ⟨bl, ol + j * 6, none⟩ (.int .i64 x.cr)).setCell ⟨bl, ol + j * 6 + 1, none⟩ (.bool x.tw)).setCell ⟨bl, ol + j * 6 + 2, none⟩ (.int .i64 (x.lf - 1))).setCell ⟨bl, ol + j * 6 + 3, none⟩ (.slice ua (x.cl.length + 1) uc)).setCell ⟨bl, ol + j * 6 + 4, none⟩ (.int .i64 (x.nx + 1))).setCell ⟨bl, ol + j * 6 + 5, none⟩ (.int .i64 x.ep))) := ((((((((((Below.onto B3.out hb38).setCell hwl _).setCell hwl _).setCell hwl _).setCell hwb _).setCell hwb _).setCell hwb _).setCell hwb _).setCell hwb _).setCell hwb _)
        have HQ9 : Hid (QIs (((((((((w8.setCell ⟨w4.heap.size + 1, 3, none⟩ (.slice ua (x.cl.length + 1) uc)).setCell ⟨w4.heap.size + 1, 4, none⟩ (.int .i64 (x.nx + 1))).setCell ⟨w4.heap.size + 1, 2, none⟩ (.int .i64 (x.lf - 1))).setCell ⟨bl, ol + j * 6, none⟩ (.int .i64 x.cr)).setCell ⟨bl, ol + j * 6 + 1, none⟩ (.bool x.tw)).setCell ⟨bl, ol + j * 6 + 2, none⟩ (.int .i64 (x.lf - 1))).setCell ⟨bl, ol + j * 6 + 3, none⟩ (.slice ua (x.cl.length + 1) uc)).setCell ⟨bl, ol + j * 6 + 4, none⟩ (.int .i64 (x.nx + 1))).setCell ⟨bl, ol + j * 6 + 5, none⟩ (.int .i64 x.ep)) (.slice (some ⟨bl, ol, none⟩) Q.ls.length lc') (.slice ma' Q.ms.length mc') ⟨Q.ls.set j (claimL x), Q.ms⟩ (updV V' j (.slice ua (x.cl.length + 1) uc))) := by
          have hle : Q.ls.length ≤ lc' := by
            obtain ⟨_, _, e1, h1, _⟩ := HOW.out.qis.l
            cases e1
            exact h1
          have c1 := keep _ _ _ _ _ (by decide) h8'
          have c2 := HS8.out _ ua uc c1
          have c3 : ∀ i, i < Q.ls.length → ¬ i = j → Cl (((((((((w8.setCell ⟨w4.heap.size + 1, 3, none⟩ (.slice ua (x.cl.length + 1) uc)).setCell ⟨w4.heap.size + 1, 4, none⟩ (.int .i64 (x.nx + 1))).setCell ⟨w4.heap.size + 1, 2, none⟩ (.int .i64 (x.lf - 1))).setCell ⟨bl, ol + j * 6, none⟩ (.int .i64 x.cr)).setCell ⟨bl, ol + j * 6 + 1, none⟩ (.bool x.tw)).setCell ⟨bl, ol + j * 6 + 2, none⟩ (.int .i64 (x.lf - 1))).setCell ⟨bl, ol + j * 6 + 3, none⟩ (.slice ua (x.cl.length + 1) uc)).setCell ⟨bl, ol + j * 6 + 4, none⟩ (.int .i64 (x.nx + 1))).setCell ⟨bl, ol + j * 6 + 5, none⟩ (.int .i64 x.ep)) (V' i) (atP Q.ls i).cl := fun i hi' e => by
            obtain ⟨zs, o3, o4⟩ := HOW.out.c i hi'
            have hdi : ∀ b, (V' i).ownBlock = some b → (Value.slice ca x.cl.length cc).ownBlock ≠ some b := fun b eb => by
              rw [← HVJ.out]
              rcases Nat.lt_or_ge i j with hij | hij
              · exact HOW.out.d i j hij hjn b eb
              · intro eb2
                exact HOW.out.d j i (by omega) hi' b eb2 eb
            have c4 := keep _ _ _ _ _ (by decide) (hcar _ _ _ _ _ o3 hdi)
            refine sl_own c4 fun i2 hi2 f hf => ?_
            obtain rfl : f = 0 := by omega
            rw [Nat.mul_one, Nat.add_zero]
            exact o4 i2 hi2
          have c5 : Sl (((((((((w8.setCell ⟨w4.heap.size + 1, 3, none⟩ (.slice ua (x.cl.length + 1) uc)).setCell ⟨w4.heap.size + 1, 4, none⟩ (.int .i64 (x.nx + 1))).setCell ⟨w4.heap.size + 1, 2, none⟩ (.int .i64 (x.lf - 1))).setCell ⟨bl, ol + j * 6, none⟩ (.int .i64 x.cr)).setCell ⟨bl, ol + j * 6 + 1, none⟩ (.bool x.tw)).setCell ⟨bl, ol + j * 6 + 2, none⟩ (.int .i64 (x.lf - 1))).setCell ⟨bl, ol + j * 6 + 3, none⟩ (.slice ua (x.cl.length + 1) uc)).setCell ⟨bl, ol + j * 6 + 4, none⟩ (.int .i64 (x.nx + 1))).setCell ⟨bl, ol + j * 6 + 5, none⟩ (.int .i64 x.ep)) 4 Q.ms.length (encMs Q.ms) (.slice ma' Q.ms.length mc') := by
            obtain ⟨zs, o3, o4⟩ := HOW.out.m
            have c4 := keep _ _ _ _ _ (by decide) (hcar _ _ _ _ _ o3 HAM.out)
            exact sl_own c4 o4
          have c6 := claimed hjn HXJ.out n2 hle rfl rfl rfl rfl rfl hrd8.1 c2 c3 c5
          exact c6
        have HNW2 : Hid (QNew w3.heap.size (.slice (some ⟨bl, ol, none⟩) Q.ls.length lc') (.slice ma' Q.ms.length mc') ⟨Q.ls.set j (claimL x), Q.ms⟩ (updV V' j (.slice ua (x.cl.length + 1) uc))) := ⟨HOW.out.new.l, HOW.out.new.m, fun i hi h0 b e => by
          have hi' : i < Q.ls.length := by simpa using hi
          unfold updV at e
          by_cases ej : i = j
          · rw [if_pos ej] at e
            exact own_blk h8' b e
          · rw [if_neg ej] at e
            obtain ⟨zs, o3, o4⟩ := HOW.out.c i hi'
            exact own_blk o3 b e⟩
        have HZ : Hid (C1 < w3.heap.size ∧ C2 < w3.heap.size ∧ w.heap.size ≤ w3.heap.size) := ⟨K3b.out.lt, K4b.out.lt, B3.out.size⟩
        clear keep h8 h8' hg8 k5 k6 k7 hb38 hcar x0 x1 y0 y1 y2 y3 y4 y5 y6 u0 u1 u2 hlan8 hrd8 l0 l1 l2 l3 l4 l5 l6
        generalize ((((((((w8.setCell ⟨w4.heap.size + 1, 3, none⟩ (.slice ua (x.cl.length + 1) uc)).setCell ⟨w4.heap.size + 1, 4, none⟩ (.int .i64 (x.nx + 1))).setCell ⟨w4.heap.size + 1, 2, none⟩ (.int .i64 (x.lf - 1))).setCell ⟨bl, ol + j * 6, none⟩ (.int .i64 x.cr)).setCell ⟨bl, ol + j * 6 + 1, none⟩ (.bool x.tw)).setCell ⟨bl, ol + j * 6 + 2, none⟩ (.int .i64 (x.lf - 1))).setCell ⟨bl, ol + j * 6 + 3, none⟩ (.slice ua (x.cl.length + 1) uc)).setCell ⟨bl, ol + j * 6 + 4, none⟩ (.int .i64 (x.nx + 1))).setCell ⟨bl, ol + j * 6 + 5, none⟩ (.int .i64 x.ep) = w9 at *
        obtain ⟨x0, x1⟩ := K5e.out.bx.two
        obtain ⟨u0, u1, u2⟩ := K7e.out.bx.three
        obtain ⟨p0, p1⟩ := K3e.out.bx.two
        have p2 := K3e.out.fz
        obtain ⟨r0, r1, r2⟩ := K4e.out.bx.three
        have r3 := K4e.out.fz
        go_region
        go_wp2_with fail
        refine bodyPost_ret (v := .tuple #[quV (.slice (some ⟨bl, ol, none⟩) Q.ls.length lc') (.slice ma' Q.ms.length mc'), clV (j : Int) x.nx x.ep, .int .i64 0]) (by simp [results, Try.results11, go_sem, p0, p1, r0, r1, r2]) rfl ⟨_, _, updV V' j (.slice ua (x.cl.length + 1) uc), by rw [HE.out, HC.out], ?_, Below.drew ?_, by rw [HP.out]; exact HNW2.out.mono HZ.out.2.2⟩
        · have hk := HZ.out
          rw [HP.out]
          refine QIs.drew ?_
          exact ((((HQ9.out.setO HNW2.out hk.1).setO HNW2.out hk.1).setO HNW2.out hk.2.1).setO HNW2.out hk.2.1).setO HNW2.out hk.2.1
        · repeat (first | (with_reducible exact B9.out) | ((with_reducible refine Below.setCell ?_ ?_ _); rotate_left; first | exact HL1.out | exact HL2.out))
  · have HE : Hid (Q.clE ln = Q.nam ln) := by show _ = _; rw [Qu.clE, if_neg hE]
    have HQ0 : Hid (Q.clQ ln = qu0) := by show _ = _; rw [Qu.clQ, HE.out, if_neg hE]
    have HC0 : Hid (Q.clC ln = (0, 0, 0)) := by show _ = _; rw [Qu.clC, HE.out, if_neg hE]
    have hE1 : (Q.nam ln == 0) = false := by simp [hE]
    rw [HE.out, HQ0.out, HC0.out]
    clear hE HE HQ0 HC0
    generalize Q.nam ln = E at *
    go_enter Try.func11, Try.ntmps11
    go_wp2_with fail
    generalize ((w.alloc (.cells #[.slice la Q.ls.length lc, .slice ma Q.ms.length mc] 25)).alloc (.cells #[.slice none 0 0, .slice none 0 0] 25)).alloc (.cells #[.int .i64 0, .int .i64 0, .int .i64 0] 27) = w2 at *
    refine (hsk _ (HQ.out.below B2.out)).mono ?_
    rintro e w3 ⟨rfl, hb⟩
    obtain ⟨p0, p1⟩ := (K3.out.below hb).bx.two
    have p2 := (K3.out.below hb).fz
    obtain ⟨r0, r1, r2⟩ := (K4.out.below hb).bx.three
    have r3 := (K4.out.below hb).fz
    have B3 : Hid (Below w.heap.size w w3) := Below.onto B2.out hb
    have HL1 : Hid (w.heap.size ≤ w.heap.size + 1) := Nat.le_succ _
    have HL2 : Hid (w.heap.size ≤ w.heap.size + 1 + 1) := by show _ ≤ _; omega
    have hne : ¬ w.heap.size + 1 = w.heap.size + 1 + 1 := by omega
    clear hb
    generalize w.heap.size + 1 + 1 = C2 at *
    generalize w.heap.size + 1 = C1 at *
    go_wp2_with fail
    refine bodyPost_ret (v := .tuple #[quV (.slice none 0 0) (.slice none 0 0), clV 0 0 0, .int .i64 E]) (by simp [results, Try.results11, go_sem, p0, p1, r0, r1, r2]) rfl ⟨_, _, fun _ => .slice none 0 0, rfl, qis0 _, ?_, qnew0 _⟩
    repeat (first | (with_reducible exact B3.out) | ((with_reducible refine Below.setCell ?_ ?_ _); rotate_left; first | exact HL1.out | exact HL2.out))

end Go.Proofs.Ytimmjhegeagofab
