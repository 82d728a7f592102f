/- queue.Take. -/
import Derived.Test.YtkgehbonijpdnaaUClaim
namespace Go.Proofs.Ytkgehbonijpdnaa
open Go.RowKit
set_option maxRecDepth 100000

theorem own_q (vl vm : Value) (Q : Qu) (V : Nat → Value) (w : World) (ho : OkQ Q) (hq : QIs w vl vm Q V) : Calls Try.prog 28 #[quV vl vm] w fun e w' =>
    ∃ la ma V', e = .returned (quV (.slice la Q.ls.length Q.ls.length) (.slice ma Q.ms.length Q.ms.length)) ∧ QIs w' (.slice la Q.ls.length Q.ls.length) (.slice ma Q.ms.length Q.ms.length) Q V' ∧ Below w.heap.size w w' ∧ QNew w.heap.size (.slice la Q.ls.length Q.ls.length) (.slice ma Q.ms.length Q.ms.length) Q V' := by
  refine (own_any vl vm Q V w ho hq).mono ?_
  rintro e w' ⟨g, h, V', rfl, h1, h2, h3, h4, h5, h6, h7⟩
  exact ⟨_, _, V', rfl, ⟨h1.sl, h2, h4.sl⟩, h7, ⟨fun b e => by (have e : g = b := by simpa [Value.ownBlock] using e); omega, fun b e => by (have e : h = b := by simpa [Value.ownBlock] using e); omega, fun j hj h0 b e => by have := h3 j hj h0 b e; omega⟩⟩
theorem ms_tail {w : World} {u : Value} {m : PMs} {l : List PMs} (h : Sl w 4 l.length (fun j => encMs (m :: l) (j + 1)) u) : Sl w 4 l.length (encMs l) u := h.congr fun _ _ _ _ => rfl
set_option maxHeartbeats 4000000 in
theorem take_any (vl vm : Value) (Q : Qu) (V : Nat → Value) (w : World) (ho : OkQ Q) (hq : QIs w vl vm Q V) : Calls Try.prog 14 #[quV vl vm] w fun e w' =>
    ∃ ul um V', e = .returned (.tuple #[quV ul um, meV Q.tkM, .int .i64 Q.tkE]) ∧ QIs w' ul um Q.tkQ V' ∧ Below w.heap.size w w' ∧ QNew w.heap.size ul um Q.tkQ V' := by
  have hck := fun W h1 => check_any vl vm Q V W ho h1
  have HQ : Hid (QIs w vl vm Q V) := hq
  have HO : Hid (OkQ Q) := ho
  obtain ⟨la, lc, rfl, _, _, hlr⟩ := hq.l
  obtain ⟨ma, mc, rfl, _, _, hmr⟩ := hq.m
  obtain ⟨k1, k2, k3, b2, s2⟩ := alloc3 w [.slice la Q.ls.length lc, .slice ma Q.ms.length mc] 30 [.slice none 0 0, .slice none 0 0] 30 [.int .i64 0, .int .i64 0, .int .i64 0, .int .u64 0] 44
  have K1 : Hid (Blk _ _ _ _) := k1
  have K2 : Hid (Blk _ _ _ _) := k2
  have K3 : Hid (Blk _ _ _ _) := k3
  have B2 : Hid (Below _ _ _) := b2
  clear hlr hmr hq ho k1 k2 k3 b2 s2
  cases hok : Q.ok
  · have HE : Hid (Q.tkE = 100) := by show _ = _; simp [Qu.tkE, hok]
    have HQ0 : Hid (Q.tkQ = qu0) := by show _ = _; rw [Qu.tkQ, HE.out, if_neg (by decide)]
    have HM0 : Hid (Q.tkM = pm0) := by show _ = _; rw [Qu.tkM, HE.out, if_neg (by decide)]
    rw [HE.out, HQ0.out, HM0.out]
    simp only [chk_no hok] at hck
    clear hok HE HQ0 HM0
    go_enter Try.func14, Try.ntmps14
    go_wp2_with fail
    generalize ((w.alloc (.cells #[.slice la Q.ls.length lc, .slice ma Q.ms.length mc] 30)).alloc (.cells #[.slice none 0 0, .slice none 0 0] 30)).alloc (.cells #[.int .i64 0, .int .i64 0, .int .i64 0, .int .u64 0] 44) = w2 at *
    refine (hck _ (HQ.out.below B2.out)).mono ?_
    rintro e w3 ⟨rfl, hb⟩
    obtain ⟨q0, q1⟩ := (K1.out.below hb).bx.two
    obtain ⟨p0, p1⟩ := (K2.out.below hb).bx.two
    have p2 := (K2.out.below hb).fz
    obtain ⟨r0, r1, r2, r3⟩ := (K3.out.below hb).bx.four
    have r4 := (K3.out.below hb).fz
    have K1b : Hid (Blk w3 _ _ _) := K1.out.below hb
    have K2b : Hid (Blk w3 _ _ _) := K2.out.below hb
    have K3b : Hid (Blk w3 _ _ _) := K3.out.below hb
    have B3 : Hid (Below w.heap.size w w3) := Below.onto B2.out hb
    have HL : Hid (w.heap.size ≤ w.heap.size + 1) := Nat.le_succ _
    have HL2 : Hid (w.heap.size ≤ w.heap.size + 1 + 1) := by show _ ≤ _; omega
    have HC12 : Hid (w.heap.size < w.heap.size + 1 ∧ w.heap.size + 1 < w.heap.size + 1 + 1) := ⟨by omega, by omega⟩
    clear hb K1 K2 K3
    generalize w.heap.size + 1 + 1 = C2 at *
    generalize w.heap.size + 1 = C1 at *
    have hne : ¬ C1 = C2 := by have := HC12.out; omega
    go_wp2_with fail
    refine bodyPost_ret (v := .tuple #[quV (.slice none 0 0) (.slice none 0 0), meV pm0, .int .i64 100]) (by simp [results, Try.results14, go_sem, p0, p1, r0, r1, r2, r3, pm0]) rfl ⟨_, _, fun _ => .slice none 0 0, rfl, qis0 _, ?_, qnew0 _⟩
    repeat (first | (with_reducible exact B3.out) | ((with_reducible refine Below.setCell ?_ ?_ _); rotate_left; first | exact HL.out | exact HL2.out))
  · simp only [chk_ok hok] at hck
    have hcs : Q.ms = [] ∨ ∃ m ms, Q.ms = m :: ms := by cases Q.ms <;> simp
    rcases hcs with hms | ⟨m, ms, hms⟩
    · have HE : Hid (Q.tkE = 105) := by show _ = _; simp [Qu.tkE, hok, hms]
      have HQ0 : Hid (Q.tkQ = qu0) := by show _ = _; rw [Qu.tkQ, HE.out, if_neg (by decide)]
      have HM0 : Hid (Q.tkM = pm0) := by show _ = _; rw [Qu.tkM, HE.out, if_neg (by decide)]
      rw [HE.out, HQ0.out, HM0.out]
      have HM0' : Hid (((Q.ms.length : Int) == 0) = true) := by show _ = _; simp [hms]
      clear hok HE HQ0 HM0 hms
      go_enter Try.func14, Try.ntmps14
      go_wp2_with fail
      generalize ((w.alloc (.cells #[.slice la Q.ls.length lc, .slice ma Q.ms.length mc] 30)).alloc (.cells #[.slice none 0 0, .slice none 0 0] 30)).alloc (.cells #[.int .i64 0, .int .i64 0, .int .i64 0, .int .u64 0] 44) = w2 at *
      refine (hck _ (HQ.out.below B2.out)).mono ?_
      rintro e w3 ⟨rfl, hb⟩
      obtain ⟨q0, q1⟩ := (K1.out.below hb).bx.two
      obtain ⟨p0, p1⟩ := (K2.out.below hb).bx.two
      have p2 := (K2.out.below hb).fz
      obtain ⟨r0, r1, r2, r3⟩ := (K3.out.below hb).bx.four
      have r4 := (K3.out.below hb).fz
      have K1b : Hid (Blk w3 _ _ _) := K1.out.below hb
      have K2b : Hid (Blk w3 _ _ _) := K2.out.below hb
      have K3b : Hid (Blk w3 _ _ _) := K3.out.below hb
      have B3 : Hid (Below w.heap.size w w3) := Below.onto B2.out hb
      have HL : Hid (w.heap.size ≤ w.heap.size + 1) := Nat.le_succ _
      have HL2 : Hid (w.heap.size ≤ w.heap.size + 1 + 1) := by show _ ≤ _; omega
      have HC12 : Hid (w.heap.size < w.heap.size + 1 ∧ w.heap.size + 1 < w.heap.size + 1 + 1) := ⟨by omega, by omega⟩
      clear hb K1 K2 K3
      generalize w.heap.size + 1 + 1 = C2 at *
      generalize w.heap.size + 1 = C1 at *
      have hm0 := HM0'.out
      have hne : ¬ C1 = C2 := by have := HC12.out; omega
      go_wp2_with fail
      refine bodyPost_ret (v := .tuple #[quV (.slice none 0 0) (.slice none 0 0), meV pm0, .int .i64 105]) (by simp [results, Try.results14, go_sem, p0, p1, r0, r1, r2, r3, pm0]) rfl ⟨_, _, fun _ => .slice none 0 0, rfl, qis0 _, ?_, qnew0 _⟩
      repeat (first | (with_reducible exact B3.out) | ((with_reducible refine Below.setCell ?_ ?_ _); rotate_left; first | exact HL.out | exact HL2.out))
    · have HE : Hid (Q.tkE = 0) := by show _ = _; simp [Qu.tkE, hok, hms]
      have HQ0 : Hid (Q.tkQ = ⟨Q.ls, ms⟩) := by show _ = _; rw [Qu.tkQ, HE.out, if_pos rfl, hms]; rfl
      have HM0 : Hid (Q.tkM = m) := by show _ = _; rw [Qu.tkM, HE.out, if_pos rfl, hms]; rfl
      have HMS : Hid (Q.ms = m :: ms) := hms
      have HM0' : Hid (((Q.ms.length : Int) == 0) = false) := by show _ = _; simp [hms]; omega
      have HLN : Hid (Q.ms.length = ms.length + 1) := by show _ = _; simp [hms]
      have HM1' : Hid ((0 : Int) < (Q.ms.length : Int)) := by show _ < _; rw [hms]; simp
      have hnm := HO.out.nm
      have HO2 : Hid (OkQ ⟨Q.ls, ms⟩) := ⟨HO.out.nl, by have := HLN.out; show ms.length ≤ 1000; omega, HO.out.nc⟩
      rw [HE.out, HQ0.out, HM0.out]
      clear hok HE HQ0 HM0 hms
      go_enter Try.func14, Try.ntmps14
      go_wp2_with fail
      generalize ((w.alloc (.cells #[.slice la Q.ls.length lc, .slice ma Q.ms.length mc] 30)).alloc (.cells #[.slice none 0 0, .slice none 0 0] 30)).alloc (.cells #[.int .i64 0, .int .i64 0, .int .i64 0, .int .u64 0] 44) = w2 at *
      refine (hck _ (HQ.out.below B2.out)).mono ?_
      rintro e w3 ⟨rfl, hb⟩
      obtain ⟨q0, q1⟩ := (K1.out.below hb).bx.two
      obtain ⟨p0, p1⟩ := (K2.out.below hb).bx.two
      have p2 := (K2.out.below hb).fz
      obtain ⟨r0, r1, r2, r3⟩ := (K3.out.below hb).bx.four
      have r4 := (K3.out.below hb).fz
      have K1b : Hid (Blk w3 _ _ _) := K1.out.below hb
      have K2b : Hid (Blk w3 _ _ _) := K2.out.below hb
      have K3b : Hid (Blk w3 _ _ _) := K3.out.below hb
      have B3 : Hid (Below w.heap.size w w3) := Below.onto B2.out hb
      have HL : Hid (w.heap.size ≤ w.heap.size + 1) := Nat.le_succ _
      have HL2 : Hid (w.heap.size ≤ w.heap.size + 1 + 1) := by show _ ≤ _; omega
      have HC12 : Hid (w.heap.size < w.heap.size + 1 ∧ w.heap.size + 1 < w.heap.size + 1 + 1) := ⟨by omega, by omega⟩
      clear hb K1 K2 K3
      generalize w.heap.size + 1 + 1 = C2 at *
      generalize w.heap.size + 1 = C1 at *
      have HQ3 : Hid (QIs w3 _ _ Q V) := HQ.out.below B3.out
      obtain ⟨b, off, _, e0, c0, c1, c2, c3⟩ := HQ3.out.msg (k := 0) (by have := HLN.out; omega)
      cases e0
      rw [show atM Q.ms 0 = m from by rw [HMS.out]; rfl, Nat.zero_mul, Nat.add_zero] at c0 c1 c2 c3
      obtain ⟨k4, b4, s4⟩ := alloc1 w3 [.int .i64 m.ln, .int .i64 m.ep, .int .i64 m.n, .int .u64 m.pay] 44
      have K4 : Hid (Blk _ _ _ _) := k4
      have B4 : Hid (Below _ _ _) := b4
      have HRS : Hid (∀ W, QIs W (.slice la Q.ls.length lc) (.slice (some ⟨b, off, none⟩) Q.ms.length mc) Q V → Calls Try.prog 27 #[.slice (some ⟨b, off, none⟩) Q.ms.length mc] W fun e w' => ∃ u, e = .returned u ∧ (∀ W c', Sl W 4 (ms.length + 1) c' (.slice (some ⟨b, off, none⟩) Q.ms.length mc) → Sl W 4 ms.length (fun j => c' (j + 1)) u) ∧ w' = W) := fun W hW => restM_any (.slice (some ⟨b, off, none⟩) Q.ms.length mc) ms.length (encMs Q.ms) W (by have := HLN.out; omega) (by have := hW.m; rwa [HLN.out] at this ⊢)
      have hm0 := HM0'.out
      have hm1 := HM1'.out
      have hz3 := K3b.out.lt
      have hz2 := K2b.out.lt
      have hz1 := K1b.out.lt
      clear k4 b4 s4
      go_wp2_with fail
      generalize w3.alloc (.cells #[.int .i64 m.ln, .int .i64 m.ep, .int .i64 m.n, .int .u64 m.pay] 44) = w4 at *
      refine (HRS.out w4 (HQ3.out.below B4.out)).mono ?_
      rintro e w5 ⟨u, rfl, hu, rfl⟩
      have HU : Hid (∀ W, QIs W (.slice la Q.ls.length lc) (.slice (some ⟨b, off, none⟩) Q.ms.length mc) Q V → Sl W 4 ms.length (encMs ms) u) := fun W hW => by
        have := hu W (encMs Q.ms) (by have := hW.m; rwa [HLN.out] at this ⊢)
        rw [HMS.out] at this
        exact ms_tail this
      obtain ⟨au, cu, rfl⟩ : ∃ au cu, u = .slice au ms.length cu := by obtain ⟨a, c, e, _⟩ := HU.out w5 (HQ3.out.below B4.out); exact ⟨_, _, e⟩
      have K1c : Hid (Blk w5 _ _ _) := K1b.out.below B4.out
      have K2c : Hid (Blk w5 _ _ _) := K2b.out.below B4.out
      have K3c : Hid (Blk w5 _ _ _) := K3b.out.below B4.out
      have BB5 : Hid (Below w.heap.size w w5) := Below.onto B3.out B4.out
      obtain ⟨y0, y1⟩ := K1c.out.bx.two
      have y2 := K1c.out.fz
      have HC := HC12.out
      have hzz : C2 < w3.heap.size := hz3
      clear hm0 hm1 hu hz1 hz2 hz3 q0 q1 p0 p1 p2 r0 r1 r2 r3 r4 c0 c1 c2 c3
      go_wp2_with fail
      have K1d : Hid (Blk (w5.setCell ⟨w.heap.size, 1, none⟩ (.slice au ms.length cu)) w.heap.size _ [.slice la Q.ls.length lc, .slice au ms.length cu]) := K1c.out.set 1 _
      have K2d : Hid (Blk (w5.setCell ⟨w.heap.size, 1, none⟩ (.slice au ms.length cu)) C1 _ _) := K2c.out.setO (by omega) _
      have K3d : Hid (Blk (w5.setCell ⟨w.heap.size, 1, none⟩ (.slice au ms.length cu)) C2 _ _) := K3c.out.setO (by omega) _
      have K4d : Hid (Blk (w5.setCell ⟨w.heap.size, 1, none⟩ (.slice au ms.length cu)) w3.heap.size _ _) := K4.out.setO (by omega) _
      have B6 : Hid (Below w.heap.size w (w5.setCell ⟨w.heap.size, 1, none⟩ (.slice au ms.length cu))) := BB5.out.setCell (Nat.le_refl _) _
      have HQ6 : Hid (QIs (w5.setCell ⟨w.heap.size, 1, none⟩ (.slice au ms.length cu)) (.slice la Q.ls.length lc) (.slice au ms.length cu) ⟨Q.ls, ms⟩ V) := ⟨(HQ.out.below B6.out).l, (HQ.out.below B6.out).c, HU.out _ (HQ.out.below B6.out)⟩
      clear y0 y1 y2 K1c K2c K3c K4
      generalize w5.setCell ⟨w.heap.size, 1, none⟩ (.slice au ms.length cu) = w6 at *
      have D6 : Hid (Below w6.heap.size w6 w6.drew) := (Below.refl _ _).drew
      obtain ⟨a0, a1⟩ := (K1d.out.below D6.out).bx.two
      obtain ⟨d0, d1, d2, d3⟩ := (K4d.out.below D6.out).bx.four
      have m1 : ¬ w.heap.size = C1 := by omega
      have m2 : ¬ w.heap.size = C2 := by omega
      have m3 : ¬ w3.heap.size = C1 := by omega
      have m4 : ¬ w3.heap.size = C2 := by omega
      have hw6 : Calls Try.prog 28 #[.agg #[.slice la Q.ls.length lc, .slice au ms.length cu]] w6.drew _ := own_q (.slice la Q.ls.length lc) (.slice au ms.length cu) ⟨Q.ls, ms⟩ V w6.drew HO2.out (HQ6.out.below D6.out)
      have hne : ¬ C1 = C2 := by omega
      clear HC hzz
      go_region_held3 (fun W => W.cell? ⟨w.heap.size, 0, none⟩ = some (.slice la Q.ls.length lc) ∧ W.cell? ⟨w.heap.size, 1, none⟩ = some (.slice au ms.length cu) ∧ W.cell? ⟨w3.heap.size, 0, none⟩ = some (.int .i64 m.ln) ∧ W.cell? ⟨w3.heap.size, 1, none⟩ = some (.int .i64 m.ep) ∧ W.cell? ⟨w3.heap.size, 2, none⟩ = some (.int .i64 m.n) ∧ W.cell? ⟨w3.heap.size, 3, none⟩ = some (.int .u64 m.pay)) (first | (with_reducible assumption) | (with_reducible exact ⟨a0, a1, d0, d1, d2, d3⟩) | (with_reducible exact ⟨a0', a1', d0', d1', d2', d3'⟩) | (with_reducible exact ⟨co m1 (co m1 a0'), co m1 (co m1 a1'), co m3 (co m3 d0'), co m3 (co m3 d1'), co m3 (co m3 d2'), co m3 (co m3 d3')⟩) | (with_reducible exact ⟨co m2 (co m2 (co m2 (co m2 (co m1 (co m1 a0'))))), co m2 (co m2 (co m2 (co m2 (co m1 (co m1 a1'))))), co m4 (co m4 (co m4 (co m4 (co m3 (co m3 d0'))))), co m4 (co m4 (co m4 (co m4 (co m3 (co m3 d1'))))), co m4 (co m4 (co m4 (co m4 (co m3 (co m3 d2'))))), co m4 (co m4 (co m4 (co m4 (co m3 (co m3 d3')))))⟩)) (first
        | (go_at_call 28; (with_reducible refine hw6.mono ?_); rintro e w7 ⟨la', ma', V', rfl, hq7, hb7, hn7⟩; obtain ⟨a0', a1'⟩ := ((K1d.out.below D6.out).below hb7).bx.two; obtain ⟨d0', d1', d2', d3'⟩ := ((K4d.out.below D6.out).below hb7).bx.four; obtain ⟨p0', p1'⟩ := ((K2d.out.below D6.out).below hb7).bx.two; obtain ⟨r0', r1', r2', r3'⟩ := ((K3d.out.below D6.out).below hb7).bx.four; have p2' := ((K2d.out.below D6.out).below hb7).fz; have r4' := ((K3d.out.below D6.out).below hb7).fz))
      have HN7 : Hid (QNew w6.heap.size _ _ _ _) := hn7
      have HQ7 : Hid (QIs w7 _ _ _ _) := hq7
      have B7 : Hid (Below w.heap.size w w7) := Below.onto (Below.onto B6.out D6.out) hb7
      have hk2 := K2d.out.lt
      have hk3 := K3d.out.lt
      clear hb7 hq7 hn7 a0 a1 d0 d1 d2 d3 a0' a1' d0' d1' d2' d3'
      go_wp2_with fail
      refine bodyPost_ret (v := .tuple #[quV (.slice la' Q.ls.length Q.ls.length) (.slice ma' ms.length ms.length), meV m, .int .i64 0]) (by simp [results, Try.results14, go_sem, p0', p1', r0', r1', r2', r3']) rfl ⟨_, _, V', rfl, ?_, ?_, ?_⟩
      · exact (((((HQ7.out.setO HN7.out hk2).setO HN7.out hk2).setO HN7.out hk3).setO HN7.out hk3).setO HN7.out hk3).setO HN7.out hk3
      · repeat (first | (with_reducible exact B7.out) | ((with_reducible refine Below.setCell ?_ ?_ _); rotate_left; first | exact HL.out | exact HL2.out))
      · exact HN7.out.mono B6.out.size

end Go.Proofs.Ytkgehbonijpdnaa
