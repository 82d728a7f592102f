/- queue.Reset. -/
import Derived.Test.YtkgehbonijpdnaaUDel2
namespace Go.Proofs.Ytkgehbonijpdnaa
open Go.RowKit
set_option maxRecDepth 100000

set_option maxHeartbeats 8000000 in
theorem reset_any (vl vm : Value) (Q : Qu) (V : Nat → Value) (i : Int) (w : World) (ho : OkQ Q) (hq : QIs w vl vm Q V) : Calls Try.prog 13 #[quV vl vm, .int .i64 i] w fun e w' =>
    ∃ ul um V', e = .returned (.tuple #[quV ul um, .int .i64 (Q.rsE i)]) ∧ QIs w' ul um (Q.rsQ i) V' ∧ Below w.heap.size w w' ∧ QNew w.heap.size ul um (Q.rsQ i) V' := by
  have hnm := fun W h1 => named_any vl vm Q V i W ho h1
  have HQ : Hid (QIs w vl vm Q V) := hq
  have HO : Hid (OkQ Q) := ho
  obtain ⟨la, lc, rfl, _, _, hlr⟩ := hq.l
  obtain ⟨ma, mc, rfl, _, _, hmr⟩ := hq.m
  clear hlr hmr hq ho
  by_cases hE : Q.nam i = 0
  · obtain ⟨hok, hH⟩ : Q.ok = true ∧ Q.hasB i = true := by
      unfold Qu.nam at hE
      by_cases h1 : Q.ok = true
      · by_cases h2 : Q.hasB i = true
        · exact ⟨h1, h2⟩
        · simp [h1, h2] at hE
      · simp [h1] at hE
    obtain ⟨j, rfl, hjn⟩ : ∃ j : Nat, i = (j : Int) ∧ j < Q.ls.length := by
      simp [Qu.hasB] at hH
      exact ⟨i.toNat, by omega, by omega⟩
    have hlane : Q.lane (j : Int) = atP Q.ls j := by simp [Qu.lane]
    obtain ⟨_, he0, he1⟩ := hasNo_iff.1 (show hasNo (atP Q.ls j) = true by have := ((ok_iff Q).1 hok).2.2 j hjn; simp [okL] at this; exact this.2.1)
    have hnc := HO.out.nc j hjn
    have hrE : Q.rsE (j : Int) = if 0 < (atP Q.ls j).cl.length then 104 else if (atP Q.ls j).ep = 1099511627776 then 3 else 0 := by rw [Qu.rsE, if_pos hE, hlane]; rfl
    have hrQ : Q.rsQ (j : Int) = if Q.rsE (j : Int) = 0 then ⟨Q.ls.set j (rstL (atP Q.ls j)), Q.ms.filter (keepI (j : Int))⟩ else qu0 := by rw [Qu.rsQ, hlane]; rfl
    simp only [hE] at hnm
    have j1 : (0 : Int) ≤ (j : Int) := by omega
    have j2 : (j : Int) < (Q.ls.length : Int) := by omega
    have HRE : Hid (_ = _) := hrE
    have HRQ : Hid (_ = _) := hrQ
    clear hE hok hH hlane hrE hrQ
    obtain ⟨k1, k2, k3, b2, s2⟩ := alloc3 w [.slice la Q.ls.length lc, .slice ma Q.ms.length mc] 30 [.int .i64 (j : Int)] 3 [.slice none 0 0, .slice none 0 0] 30
    have K1 : Hid (Blk _ _ _ _) := k1
    have K2 : Hid (Blk _ _ _ _) := k2
    have K3 : Hid (Blk _ _ _ _) := k3
    have B2 : Hid (Below _ _ _) := b2
    clear k1 k2 k3 b2 s2
    go_enter Try.func13, Try.ntmps13
    go_wp2_with fail
    generalize ((w.alloc (.cells #[.slice la Q.ls.length lc, .slice ma Q.ms.length mc] 30)).alloc (.cells #[.int .i64 (j : Int)] 3)).alloc (.cells #[.slice none 0 0, .slice none 0 0] 30) = w2 at *
    refine (hnm _ (HQ.out.below B2.out)).mono ?_
    rintro e w3 ⟨rfl, hb⟩
    obtain ⟨q0, q1⟩ := (K1.out.below hb).bx.two
    have r0 : w3.cell? ⟨w.heap.size + 1, 0, none⟩ = _ := (K2.out.below hb).bx 0 _ rfl
    obtain ⟨p0, p1⟩ := (K3.out.below hb).bx.two
    have p2 := (K3.out.below hb).fz
    have K1b : Hid (Blk w3 _ _ _) := K1.out.below hb
    have K2b : Hid (Blk w3 _ _ _) := K2.out.below hb
    have K3b : Hid (Blk w3 _ _ _) := K3.out.below hb
    have B3 : Hid (Below w.heap.size w w3) := Below.onto B2.out hb
    have HL2 : Hid (w.heap.size ≤ w.heap.size + 1 + 1) := by show _ ≤ _; omega
    have HC12 : Hid (w.heap.size < w.heap.size + 1 ∧ w.heap.size + 1 < w.heap.size + 1 + 1) := ⟨by omega, by omega⟩
    clear hb
    generalize w.heap.size + 1 + 1 = C2 at *
    generalize w.heap.size + 1 = C1 at *
    have HQ3 : Hid (QIs w3 _ _ Q V) := HQ.out.below B3.out
    obtain ⟨bl, ol, _, ca, cc, e0, hV, c0, c1, c2, c3, c4, c5⟩ := HQ3.out.at hjn
    cases e0
    have HVV : Hid (V j = .slice ca (atP Q.ls j).cl.length cc) := hV
    generalize hx : atP Q.ls j = x at *
    have HXJ : Hid (atP Q.ls j = x) := hx
    have z1 := K1b.out.lt
    have z2 := K2b.out.lt
    have z3 := K3b.out.lt
    clear hx hV
    by_cases hcl : 0 < x.cl.length
    · have HE : Hid (Q.rsE (j : Int) = 104) := by show _ = _; rw [HRE.out, if_pos hcl]
      have HP : Hid (Q.rsQ (j : Int) = qu0) := by show _ = _; rw [HRQ.out, HE.out, if_neg (by decide)]
      have h1 : (0 : Int) < (x.cl.length : Int) := by omega
      go_wp2_with fail
      refine bodyPost_ret (v := .tuple #[quV (.slice none 0 0) (.slice none 0 0), .int .i64 104]) (by simp [results, Try.results13, go_sem, p0, p1, z3]) rfl ⟨.slice none 0 0, .slice none 0 0, fun _ => .slice none 0 0, by rw [HE.out], by rw [HP.out]; exact qis0 _, ?_, by rw [HP.out]; exact qnew0 _⟩
      refine Below.alloc ?_ ?_ _
      · repeat (first | (with_reducible exact B3.out) | ((with_reducible refine Below.setCell ?_ ?_ _); rotate_left; first | exact HL2.out))
      · have := B3.out.size; simp; omega
    · have h1 : ¬ (0 : Int) < (x.cl.length : Int) := by omega
      have HCL0 : Hid (x.cl.length = 0) := by show _ = _; omega
      by_cases hep : x.ep = 1099511627776
      · have HE : Hid (Q.rsE (j : Int) = 3) := by show _ = _; rw [HRE.out, if_neg hcl, if_pos hep]
        have HP : Hid (Q.rsQ (j : Int) = qu0) := by show _ = _; rw [HRQ.out, HE.out, if_neg (by decide)]
        have h2 : (x.ep == 1099511627776) = true := by simp [hep]
        clear hep hcl
        go_wp2_with fail
        refine bodyPost_ret (v := .tuple #[quV (.slice none 0 0) (.slice none 0 0), .int .i64 3]) (by simp [results, Try.results13, go_sem, p0, p1, z3]) rfl ⟨.slice none 0 0, .slice none 0 0, fun _ => .slice none 0 0, by rw [HE.out], by rw [HP.out]; exact qis0 _, ?_, by rw [HP.out]; exact qnew0 _⟩
        refine Below.alloc ?_ ?_ _
        · repeat (first | (with_reducible exact B3.out) | ((with_reducible refine Below.setCell ?_ ?_ _); rotate_left; first | exact HL2.out))
        · have := B3.out.size; simp; omega
      · have HE : Hid (Q.rsE (j : Int) = 0) := by show _ = _; rw [HRE.out, if_neg hcl, if_neg hep]
        have HP : Hid (Q.rsQ (j : Int) = ⟨Q.ls.set j (rstL x), Q.ms.filter (keepI (j : Int))⟩) := by show _ = _; rw [HRQ.out, HE.out, if_pos rfl]
        have h2 : (x.ep == 1099511627776) = false := by simp [hep]
        have h3 : x.ep < 1099511627776 := by omega
        clear hep hcl
        obtain ⟨k4, b4, s4⟩ := alloc1 w3 [.int .i64 x.cr, .bool x.tw, .int .i64 x.cr, .slice ca x.cl.length cc, .int .i64 x.nx, .int .i64 (x.ep + 1)] 57
        have K4 : Hid (Blk _ _ _ _) := k4
        have B34 : Hid (Below _ _ _) := b4
        clear k4 b4 s4
        go_wp2_with fail
        generalize w3.alloc (.cells #[.int .i64 x.cr, .bool x.tw, .int .i64 x.cr, .slice ca x.cl.length cc, .int .i64 x.nx, .int .i64 (x.ep + 1)] 57) = w4 at *
        refine (copiedM_any (.slice ma Q.ms.length mc) Q.ms.length (encMs Q.ms) w4 HO.out.nm (HQ3.out.below B34.out).m (one_encM Q.ms)).mono ?_
        rintro e w5 ⟨rfl, hrw5, hb5, hs5⟩
        have B45 : Hid (Below w4.heap.size w4 w5) := hb5
        have K2d : Hid (Blk w5 C1 _ _) := (K2b.out.below B34.out).below hb5
        have hdl := deleteR_any Q.ms w4.heap.size C1 (j : Int) w5 HO.out.nm hrw5 (K2d.out.bx 0 _ rfl) (K2b.out.below B34.out).lt
        clear hrw5 hb5 hs5
        go_wp2_with fail
        refine hdl.mono ?_
        rintro e w6 ⟨kk, kc, rfl, hsl, hb6⟩
        have B6 : Hid (Below w4.heap.size w4 w6) := B45.out.trans hb6
        have HSL : Hid (Sl w6 4 _ _ _) := hsl
        have K1e : Hid (Blk w6 _ _ _) := (K1b.out.below B34.out).below B6.out
        have K2e : Hid (Blk w6 _ _ _) := (K2b.out.below B34.out).below B6.out
        have K3e : Hid (Blk w6 _ _ _) := (K3b.out.below B34.out).below B6.out
        have K4e : Hid (Blk w6 _ _ _) := K4.out.below B6.out
        have HC := HC12.out
        have z4 := (K1b.out.below B34.out).lt
        have K1f : Hid (Blk (w6.setCell ⟨w.heap.size, 1, none⟩ (.slice (some ⟨w4.heap.size, 0, none⟩) kk kc)) w.heap.size _ [.slice (some ⟨bl, ol, none⟩) Q.ls.length lc, .slice (some ⟨w4.heap.size, 0, none⟩) kk kc]) := K1e.out.set 1 _
        have K3f : Hid (Blk (w6.setCell ⟨w.heap.size, 1, none⟩ (.slice (some ⟨w4.heap.size, 0, none⟩) kk kc)) C2 _ _) := K3e.out.setO (by omega) _
        have B8 : Hid (Below w.heap.size w (w6.setCell ⟨w.heap.size, 1, none⟩ (.slice (some ⟨w4.heap.size, 0, none⟩) kk kc))) := (Below.onto (Below.onto B3.out B34.out) B6.out).setCell (Nat.le_refl _) _
        have HM8 : Hid (Sl (w6.setCell ⟨w.heap.size, 1, none⟩ (.slice (some ⟨w4.heap.size, 0, none⟩) kk kc)) 4 _ (encMs (Q.ms.filter (keepI (j : Int)))) (.slice (some ⟨w4.heap.size, 0, none⟩) kk kc)) := HSL.out.setO fun e => by (have e : w4.heap.size = w.heap.size := by simpa [Value.ownBlock] using e); omega
        have HQ8 : Hid (QIs (w6.setCell ⟨w.heap.size, 1, none⟩ (.slice (some ⟨w4.heap.size, 0, none⟩) kk kc)) (.slice (some ⟨bl, ol, none⟩) Q.ls.length lc) (.slice (some ⟨w4.heap.size, 0, none⟩) kk kc) ⟨Q.ls, Q.ms.filter (keepI (j : Int))⟩ V) := ⟨(HQ.out.below B8.out).l, (HQ.out.below B8.out).c, HM8.out⟩
        have HO2 : Hid (OkQ ⟨Q.ls, Q.ms.filter (keepI (j : Int))⟩) := ⟨HO.out.nl, Nat.le_trans (List.length_filter_le _ _) HO.out.nm, HO.out.nc⟩
        have hwt : Calls Try.prog 20 #[.agg #[.slice (some ⟨bl, ol, none⟩) Q.ls.length lc, .slice (some ⟨w4.heap.size, 0, none⟩) kk kc], .int .i64 (j : Int), .agg #[.int .i64 x.cr, .bool x.tw, .int .i64 x.cr, .slice ca x.cl.length cc, .int .i64 x.nx, .int .i64 (x.ep + 1)]] (w6.setCell ⟨w.heap.size, 1, none⟩ (.slice (some ⟨w4.heap.size, 0, none⟩) kk kc)) _ := with_any _ _ ⟨Q.ls, Q.ms.filter (keepI (j : Int))⟩ V _ j (rstL x) (.slice ca x.cl.length cc) hjn hnc (by have h1 := (HQ.out.below B8.out).c j hjn; rw [HVV.out, HXJ.out] at h1; exact h1) HO2.out HQ8.out
        obtain ⟨g0, g1⟩ := K1e.out.bx.two
        have g2 := K1e.out.fz
        have f0 : w6.cell? ⟨C1, 0, none⟩ = _ := K2e.out.bx 0 _ rfl
        obtain ⟨y0, y1, y2, y3, y4, y5⟩ := K4e.out.bx.six
        have n1 : ¬ w.heap.size = C1 := by omega
        have n2 : ¬ w.heap.size = w3.heap.size := by omega
        have n3 : ¬ w.heap.size = C2 := by omega
        clear hsl hb6 hdl q0 q1 r0 p0 p1 p2 c0 c1 c2 c3 c4 c5
        go_wp2_with fail
        clear g0 g1 g2 f0 y0 y1 y2 y3 y4 y5
        generalize w6.setCell ⟨w.heap.size, 1, none⟩ (.slice (some ⟨w4.heap.size, 0, none⟩) kk kc) = w8 at *
        refine hwt.mono ?_
        rintro e w9 ⟨ul, um, V', rfl, hq9, hb9, hn9⟩
        have HN9 : Hid (QNew w8.heap.size _ _ _ _) := hn9
        have HQ9 : Hid (QIs w9 _ _ _ _) := hq9
        have B9 : Hid (Below w.heap.size w w9) := Below.onto B8.out hb9
        have hk3 := K3f.out.lt
        obtain ⟨p0, p1⟩ := (K3f.out.below hb9).bx.two
        have p2 := (K3f.out.below hb9).fz
        obtain ⟨la', nl', lc', rfl⟩ : ∃ a n c, ul = .slice a n c := by obtain ⟨a, c, e, _⟩ := HQ9.out.l; exact ⟨_, _, _, e⟩
        obtain ⟨ma', nm', mc', rfl⟩ : ∃ a n c, um = .slice a n c := by obtain ⟨a, c, e, _⟩ := HQ9.out.m; exact ⟨_, _, _, e⟩
        clear hq9 hb9 hn9 hwt
        go_wp2_with fail
        refine bodyPost_ret (v := .tuple #[quV (.slice la' nl' lc') (.slice ma' nm' mc'), .int .i64 0]) (by simp [results, Try.results13, go_sem, p0, p1]) rfl ⟨.slice la' nl' lc', .slice ma' nm' mc', V', by rw [HE.out], by rw [HP.out]; exact (HQ9.out.setO HN9.out hk3).setO HN9.out hk3, ?_, by rw [HP.out]; exact HN9.out.mono B8.out.size⟩
        repeat (first | (with_reducible exact B9.out) | ((with_reducible refine Below.setCell ?_ ?_ _); rotate_left; first | exact HL2.out))
  · have HE : Hid (Q.rsE i = Q.nam i) := by show _ = _; rw [Qu.rsE, if_neg hE]
    have HP : Hid (Q.rsQ i = qu0) := by show _ = _; rw [Qu.rsQ, HE.out, if_neg hE]
    have hE1 : (Q.nam i == 0) = false := by simp [hE]
    rw [HE.out, HP.out]
    clear hE HE HP
    generalize Q.nam i = E at *
    obtain ⟨k1, k2, k3, b2, s2⟩ := alloc3 w [.slice la Q.ls.length lc, .slice ma Q.ms.length mc] 30 [.int .i64 i] 3 [.slice none 0 0, .slice none 0 0] 30
    have K1 : Hid (Blk _ _ _ _) := k1
    have K2 : Hid (Blk _ _ _ _) := k2
    have K3 : Hid (Blk _ _ _ _) := k3
    have B2 : Hid (Below _ _ _) := b2
    clear k1 k2 k3 b2 s2
    go_enter Try.func13, Try.ntmps13
    go_wp2_with fail
    generalize ((w.alloc (.cells #[.slice la Q.ls.length lc, .slice ma Q.ms.length mc] 30)).alloc (.cells #[.int .i64 i] 3)).alloc (.cells #[.slice none 0 0, .slice none 0 0] 30) = w2 at *
    refine (hnm _ (HQ.out.below B2.out)).mono ?_
    rintro e w3 ⟨rfl, hb⟩
    obtain ⟨q0, q1⟩ := (K1.out.below hb).bx.two
    have r0 : w3.cell? ⟨w.heap.size + 1, 0, none⟩ = _ := (K2.out.below hb).bx 0 _ rfl
    obtain ⟨p0, p1⟩ := (K3.out.below hb).bx.two
    have p2 := (K3.out.below hb).fz
    have K1b : Hid (Blk w3 _ _ _) := K1.out.below hb
    have K2b : Hid (Blk w3 _ _ _) := K2.out.below hb
    have K3b : Hid (Blk w3 _ _ _) := K3.out.below hb
    have B3 : Hid (Below w.heap.size w w3) := Below.onto B2.out hb
    have HL2 : Hid (w.heap.size ≤ w.heap.size + 1 + 1) := by show _ ≤ _; omega
    have HC12 : Hid (w.heap.size < w.heap.size + 1 ∧ w.heap.size + 1 < w.heap.size + 1 + 1) := ⟨by omega, by omega⟩
    clear hb
    generalize w.heap.size + 1 + 1 = C2 at *
    generalize w.heap.size + 1 = C1 at *
    go_wp2_with fail
    refine bodyPost_ret (v := .tuple #[quV (.slice none 0 0) (.slice none 0 0), .int .i64 E]) (by simp [results, Try.results13, go_sem, p0, p1]) rfl ⟨_, _, fun _ => .slice none 0 0, rfl, qis0 _, ?_, qnew0 _⟩
    repeat (first | (with_reducible exact B3.out) | ((with_reducible refine Below.setCell ?_ ?_ _); rotate_left; first | exact HL2.out))

end Go.Proofs.Ytkgehbonijpdnaa
