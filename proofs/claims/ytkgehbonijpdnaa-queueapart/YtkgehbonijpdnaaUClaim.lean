/- queue.Claim. -/
import Derived.Test.YtkgehbonijpdnaaULacks
import Derived.Deep.RegionHeld3
namespace Go.Proofs.Ytkgehbonijpdnaa
open Go.RowKit
set_option maxRecDepth 100000

theorem co {w : World} {b i b' i' : Nat} {v u : Value} (h : ¬ b = b') (hc : w.cell? ⟨b, i, none⟩ = some v) : (w.setCell ⟨b', i', none⟩ u).cell? ⟨b, i, none⟩ = some v :=
  (World.cell?_of_block (w := w) (a := ⟨b, i, none⟩) (Below.heap_setCell _ _ _ _ h)).trans hc
/-- the claim that Claim tells -/
def Qu.clC (Q : Qu) (i : Int) : Int × Int × Int := if Q.clE i = 0 then (i, (Q.lane i).nx, (Q.lane i).ep) else (0, 0, 0)
theorem cl_snoc {w : World} {u : Value} {l : List Int} {x : Int} (h : Sl w 1 (l.length + 1) (snocC l.length (encI l) fun _ => .int .i64 x) u) : Cl w u (l ++ [x]) := by
  have e : (l ++ [x]).length = l.length + 1 := by simp
  unfold Cl
  rw [e]
  refine h.congr fun j hj f _ => ?_
  unfold snocC encI
  by_cases hl : j < l.length
  · rw [if_pos hl]
    have : atI (l ++ [x]) j = atI l j := by simp [atI, List.getElem?_append_left hl]
    rw [this]
  · obtain rfl : j = l.length := by omega
    rw [if_neg hl]
    have : atI (l ++ [x]) l.length = x := by simp [atI]
    rw [this]
set_option maxHeartbeats 4000000 in
theorem claim_any (vl vm : Value) (Q : Qu) (V : Nat → Value) (i : Int) (w : World) (ho : OkQ Q) (hq : QIs w vl vm Q V) : Calls Try.prog 10 #[quV vl vm, .int .i64 i] w fun e w' =>
    ∃ ul um V', e = .returned (.tuple #[quV ul um, clV (Q.clC i).1 (Q.clC i).2.1 (Q.clC i).2.2, .int .i64 (Q.clE i)]) ∧ QIs w' ul um (Q.clQ i) V' ∧ Below w.heap.size w w' ∧ QNew w.heap.size ul um (Q.clQ i) V' := by
  have hnm := fun W h1 => named_any vl vm Q V i W ho h1
  have hwt := fun W k l vc a b c d => with_any vl vm Q V W k l vc a b c ho d
  have HQ : Hid (QIs w vl vm Q V) := hq
  have HO : Hid (OkQ Q) := ho
  obtain ⟨la, lc, rfl, _, _, hlr⟩ := hq.l
  obtain ⟨ma, mc, rfl, _, _, hmr⟩ := hq.m
  obtain ⟨k1, k2, k3, b2, s2⟩ := alloc3 w [.slice la Q.ls.length lc, .slice ma Q.ms.length mc] 30 [.slice none 0 0, .slice none 0 0] 30 [.int .i64 0, .int .i64 0, .int .i64 0] 47
  have K1 : Hid (Blk _ _ _ _) := k1
  have K2 : Hid (Blk _ _ _ _) := k2
  have K3 : Hid (Blk _ _ _ _) := k3
  have B2 : Hid (Below _ _ _) := b2
  clear hlr hmr hq ho k1 k2 k3 b2 s2
  by_cases hE : Q.nam i = 0
  · obtain ⟨hok, hH⟩ : Q.ok = true ∧ Q.hasB i = true := by
      unfold Qu.nam at hE
      by_cases h1 : Q.ok = true
      · by_cases h2 : Q.hasB i = true
        · exact ⟨h1, h2⟩
        · simp [h1, h2] at hE
      · simp [h1] at hE
    obtain ⟨j, rfl, hjn⟩ : ∃ j : Nat, i = (j : Int) ∧ j < Q.ls.length := by
      simp [Qu.hasB] at hH
      exact ⟨i.toNat, by omega, by omega⟩
    have hlane : Q.lane (j : Int) = atP Q.ls j := by simp [Qu.lane]
    obtain ⟨⟨_, hc64⟩, hf0, hfc⟩ := hasCr_iff.1 (show hasCr (atP Q.ls j) = true by have := ((ok_iff Q).1 hok).2.2 j hjn; simp [okL] at this; exact this.1)
    obtain ⟨⟨hn0, hn1⟩, _, _⟩ := hasNo_iff.1 (show hasNo (atP Q.ls j) = true by have := ((ok_iff Q).1 hok).2.2 j hjn; simp [okL] at this; exact this.2.1)
    have hnc : (atP Q.ls j).cl.length ≤ 64 := by
      have h1 := ((ok_iff Q).1 hok).2.2 j hjn
      simp [okL, covB, tkn] at h1
      omega
    have hcE : Q.clE (j : Int) = if (atP Q.ls j).lf = 0 then 101 else if (atP Q.ls j).nx = 1099511627776 then 3 else 0 := by rw [Qu.clE, if_pos hE, hlane]; rfl
    simp only [hE] at hnm
    have j1 : (0 : Int) ≤ (j : Int) := by omega
    have j2 : (j : Int) < (Q.ls.length : Int) := by omega
    clear hE hok hH
    by_cases hlf : (atP Q.ls j).lf = 0
    · have HE : Hid (Q.clE (j : Int) = 101) := by show _ = _; rw [hcE, if_pos hlf]
      have HQ0 : Hid (Q.clQ (j : Int) = qu0) := by show _ = _; rw [Qu.clQ, HE.out, if_neg (by decide)]
      have HC0 : Hid (Q.clC (j : Int) = (0, 0, 0)) := by show _ = _; rw [Qu.clC, HE.out, if_neg (by decide)]
      have hl1 : ((atP Q.ls j).lf == 0) = true := by simp [hlf]
      rw [HE.out, HQ0.out, HC0.out]
      clear hlf HE HQ0 HC0 hcE hlane
      go_enter Try.func10, Try.ntmps10
      go_wp2_with fail
      generalize ((w.alloc (.cells #[.slice la Q.ls.length lc, .slice ma Q.ms.length mc] 30)).alloc (.cells #[.slice none 0 0, .slice none 0 0] 30)).alloc (.cells #[.int .i64 0, .int .i64 0, .int .i64 0] 47) = w2 at *
      refine (hnm _ (HQ.out.below B2.out)).mono ?_
      rintro e w3 ⟨rfl, hb⟩
      obtain ⟨q0, q1⟩ := (K1.out.below hb).bx.two
      obtain ⟨p0, p1⟩ := (K2.out.below hb).bx.two
      have p2 := (K2.out.below hb).fz
      obtain ⟨r0, r1, r2⟩ := (K3.out.below hb).bx.three
      have r3 := (K3.out.below hb).fz
      have K1b : Hid (Blk w3 _ _ _) := K1.out.below hb
      have K2b : Hid (Blk w3 _ _ _) := K2.out.below hb
      have K3b : Hid (Blk w3 _ _ _) := K3.out.below hb
      have B3 : Hid (Below w.heap.size w w3) := Below.onto B2.out hb
      have HQ3 : Hid (QIs w3 _ _ Q V) := HQ.out.below B3.out
      have HL : Hid (w.heap.size ≤ w.heap.size + 1) := Nat.le_succ _
      have HL2 : Hid (w.heap.size ≤ w.heap.size + 1 + 1) := by show _ ≤ _; omega
      have hne : ¬ w.heap.size + 1 = w.heap.size + 1 + 1 := by omega
      have hz3 := K3b.out.lt
      have hz2 := K2b.out.lt
      clear hb K1 K2 K3
      obtain ⟨bl, ol, _, ca, cc, e0, hV, c0, c1, c2, c3, c4, c5⟩ := HQ3.out.at hjn
      cases e0
      have HV : Hid (V j = _) := hV
      have HZ : Hid (w.heap.size + 1 + 1 < w3.heap.size) := hz3
      have HC12 : Hid (w.heap.size < w.heap.size + 1 ∧ w.heap.size < w.heap.size + 1 + 1) := ⟨by omega, by omega⟩
      clear hV
      generalize w.heap.size + 1 + 1 = C2 at *
      generalize w.heap.size + 1 = C1 at *
      generalize atP Q.ls j = x at *
      go_wp2_with fail
      refine bodyPost_ret (v := .tuple #[quV (.slice none 0 0) (.slice none 0 0), clV 0 0 0, .int .i64 101]) (by simp [results, Try.results10, go_sem, p0, p1, r0, r1, r2, hz2, hz3]) rfl ⟨_, _, fun _ => .slice none 0 0, rfl, qis0 _, ?_, qnew0 _⟩
      refine Below.alloc ?_ ?_ _
      · repeat (first | (with_reducible exact B3.out) | ((with_reducible refine Below.setCell ?_ ?_ _); rotate_left; first | exact HL.out | exact HL2.out))
      · have := B3.out.size; simp; omega
    · by_cases hnx : (atP Q.ls j).nx = 1099511627776
      · have HE : Hid (Q.clE (j : Int) = 3) := by show _ = _; rw [hcE, if_neg hlf, if_pos hnx]
        have HQ0 : Hid (Q.clQ (j : Int) = qu0) := by show _ = _; rw [Qu.clQ, HE.out, if_neg (by decide)]
        have HC0 : Hid (Q.clC (j : Int) = (0, 0, 0)) := by show _ = _; rw [Qu.clC, HE.out, if_neg (by decide)]
        have hl1 : ((atP Q.ls j).lf == 0) = false := by simp [hlf]
        have hl2 : ((atP Q.ls j).nx == 1099511627776) = true := by simp [hnx]
        rw [HE.out, HQ0.out, HC0.out]
        clear hlf hnx HE HQ0 HC0 hcE hlane
        go_enter Try.func10, Try.ntmps10
        go_wp2_with fail
        generalize ((w.alloc (.cells #[.slice la Q.ls.length lc, .slice ma Q.ms.length mc] 30)).alloc (.cells #[.slice none 0 0, .slice none 0 0] 30)).alloc (.cells #[.int .i64 0, .int .i64 0, .int .i64 0] 47) = w2 at *
        refine (hnm _ (HQ.out.below B2.out)).mono ?_
        rintro e w3 ⟨rfl, hb⟩
        obtain ⟨q0, q1⟩ := (K1.out.below hb).bx.two
        obtain ⟨p0, p1⟩ := (K2.out.below hb).bx.two
        have p2 := (K2.out.below hb).fz
        obtain ⟨r0, r1, r2⟩ := (K3.out.below hb).bx.three
        have r3 := (K3.out.below hb).fz
        have K1b : Hid (Blk w3 _ _ _) := K1.out.below hb
        have K2b : Hid (Blk w3 _ _ _) := K2.out.below hb
        have K3b : Hid (Blk w3 _ _ _) := K3.out.below hb
        have B3 : Hid (Below w.heap.size w w3) := Below.onto B2.out hb
        have HQ3 : Hid (QIs w3 _ _ Q V) := HQ.out.below B3.out
        have HL : Hid (w.heap.size ≤ w.heap.size + 1) := Nat.le_succ _
        have HL2 : Hid (w.heap.size ≤ w.heap.size + 1 + 1) := by show _ ≤ _; omega
        have hne : ¬ w.heap.size + 1 = w.heap.size + 1 + 1 := by omega
        have hz3 := K3b.out.lt
        have hz2 := K2b.out.lt
        clear hb K1 K2 K3
        obtain ⟨bl, ol, _, ca, cc, e0, hV, c0, c1, c2, c3, c4, c5⟩ := HQ3.out.at hjn
        cases e0
        have HV : Hid (V j = _) := hV
        have HZ : Hid (w.heap.size + 1 + 1 < w3.heap.size) := hz3
        have HC12 : Hid (w.heap.size < w.heap.size + 1 ∧ w.heap.size < w.heap.size + 1 + 1) := ⟨by omega, by omega⟩
        clear hV
        generalize w.heap.size + 1 + 1 = C2 at *
        generalize w.heap.size + 1 = C1 at *
        generalize atP Q.ls j = x at *
        go_wp2_with fail
        refine bodyPost_ret (v := .tuple #[quV (.slice none 0 0) (.slice none 0 0), clV 0 0 0, .int .i64 3]) (by simp [results, Try.results10, go_sem, p0, p1, r0, r1, r2, hz2, hz3]) rfl ⟨_, _, fun _ => .slice none 0 0, rfl, qis0 _, ?_, qnew0 _⟩
        refine Below.alloc ?_ ?_ _
        · repeat (first | (with_reducible exact B3.out) | ((with_reducible refine Below.setCell ?_ ?_ _); rotate_left; first | exact HL.out | exact HL2.out))
        · have := B3.out.size; simp; omega
      · have HE : Hid (Q.clE (j : Int) = 0) := by show _ = _; rw [hcE, if_neg hlf, if_neg hnx]
        have HQ0 : Hid (Q.clQ (j : Int) = ⟨Q.ls.set j (claimL (atP Q.ls j)), Q.ms⟩) := by show _ = _; rw [Qu.clQ, HE.out, if_pos rfl, hlane]; rfl
        have HC0 : Hid (Q.clC (j : Int) = ((j : Int), (atP Q.ls j).nx, (atP Q.ls j).ep)) := by show _ = _; rw [Qu.clC, HE.out, if_pos rfl, hlane]
        have hl1 : ((atP Q.ls j).lf == 0) = false := by simp [hlf]
        have hl2 : ((atP Q.ls j).nx == 1099511627776) = false := by simp [hnx]
        have hl3 : 1 ≤ (atP Q.ls j).lf := by omega
        rw [HE.out, HQ0.out, HC0.out]
        clear hlf hnx HE HQ0 HC0 hcE hlane
        go_enter Try.func10, Try.ntmps10
        go_wp2_with fail
        generalize ((w.alloc (.cells #[.slice la Q.ls.length lc, .slice ma Q.ms.length mc] 30)).alloc (.cells #[.slice none 0 0, .slice none 0 0] 30)).alloc (.cells #[.int .i64 0, .int .i64 0, .int .i64 0] 47) = w2 at *
        refine (hnm _ (HQ.out.below B2.out)).mono ?_
        rintro e w3 ⟨rfl, hb⟩
        obtain ⟨q0, q1⟩ := (K1.out.below hb).bx.two
        obtain ⟨p0, p1⟩ := (K2.out.below hb).bx.two
        have p2 := (K2.out.below hb).fz
        obtain ⟨r0, r1, r2⟩ := (K3.out.below hb).bx.three
        have r3 := (K3.out.below hb).fz
        have K1b : Hid (Blk w3 _ _ _) := K1.out.below hb
        have K2b : Hid (Blk w3 _ _ _) := K2.out.below hb
        have K3b : Hid (Blk w3 _ _ _) := K3.out.below hb
        have B3 : Hid (Below w.heap.size w w3) := Below.onto B2.out hb
        have HQ3 : Hid (QIs w3 _ _ Q V) := HQ.out.below B3.out
        have HL : Hid (w.heap.size ≤ w.heap.size + 1) := Nat.le_succ _
        have HL2 : Hid (w.heap.size ≤ w.heap.size + 1 + 1) := by show _ ≤ _; omega
        have hne : ¬ w.heap.size + 1 = w.heap.size + 1 + 1 := by omega
        have hz3 := K3b.out.lt
        have hz2 := K2b.out.lt
        clear hb K1 K2 K3
        obtain ⟨bl, ol, _, ca, cc, e0, hV, c0, c1, c2, c3, c4, c5⟩ := HQ3.out.at hjn
        cases e0
        have HV : Hid (V j = _) := hV
        have HZ : Hid (w.heap.size + 1 + 1 < w3.heap.size) := hz3
        have HC12 : Hid (w.heap.size < w.heap.size + 1 ∧ w.heap.size < w.heap.size + 1 + 1) := ⟨by omega, by omega⟩
        clear hV
        generalize w.heap.size + 1 + 1 = C2 at *
        generalize w.heap.size + 1 = C1 at *
        have HCL3 := HQ3.out.c j hjn
        rw [HV.out] at HCL3
        have HCL3 : Hid (Cl w3 _ _) := HCL3
        generalize hx : atP Q.ls j = x at *
        have HXJ : Hid (atP Q.ls j = x) := hx
        clear hx
        obtain ⟨k1, k2, b4, s4⟩ := alloc2 w3 [.int .i64 x.cr, .bool x.tw, .int .i64 x.lf, .slice ca x.cl.length cc, .int .i64 x.nx, .int .i64 x.ep] 57 [.int .i64 (j : Int), .int .i64 x.nx, .int .i64 x.ep] 47
        have K4 : Hid (Blk _ _ _ _) := k1
        have K5 : Hid (Blk _ _ _ _) := k2
        have B4 : Hid (Below _ _ _) := b4
        have hlg := fun W h1 => longerI_any (.slice ca x.cl.length cc) x.cl.length (encI x.cl) x.nx W (by omega) h1
        clear k1 k2 b4 s4
        go_wp2_with fail
        generalize (w3.alloc (.cells #[.int .i64 x.cr, .bool x.tw, .int .i64 x.lf, .slice ca x.cl.length cc, .int .i64 x.nx, .int .i64 x.ep] 57)).alloc (.cells #[.int .i64 (j : Int), .int .i64 x.nx, .int .i64 x.ep] 47) = w4 at *
        refine (hlg _ (HCL3.out.below B4.out)).mono ?_
        rintro e w5 ⟨u, rfl, hu, hb5, hub⟩
        have HU : Hid (Cl w5 u (x.cl ++ [x.nx])) := cl_snoc hu
        have HUB : Hid (∀ g, u.ownBlock = some g → w4.heap.size ≤ g) := hub
        have K1c : Hid (Blk w5 _ _ _) := (K1b.out.below B4.out).below hb5
        have K2c : Hid (Blk w5 _ _ _) := (K2b.out.below B4.out).below hb5
        have K3c : Hid (Blk w5 _ _ _) := (K3b.out.below B4.out).below hb5
        have K4c : Hid (Blk w5 _ _ _) := K4.out.below hb5
        have K5c : Hid (Blk w5 _ _ _) := K5.out.below hb5
        have B5 : Hid (Below w.heap.size w w5) := Below.onto (Below.onto B3.out B4.out) hb5
        have H4L : Hid (w3.heap.size < w4.heap.size) := K4.out.lt
        have HWL : Hid (w.heap.size < w3.heap.size) := K1b.out.lt
        obtain ⟨au, nu, cu, rfl⟩ : ∃ au nu cu, u = .slice au nu cu := by obtain ⟨a, c, e, _⟩ := HU.out; exact ⟨_, _, _, e⟩
        obtain ⟨y0, y1, y2, y3, y4, y5⟩ := K4c.out.bx.six
        have y6 := K4c.out.fz
        clear hu hb5 hub p0 p1 p2 q0 q1 r0 r1 r2 r3 c0 c1 c2 c3 c4 c5
        go_wp2_with fail
        have h4l := H4L.out
        have hwl := HWL.out
        have K4d : Hid (Blk (((w5.setCell ⟨w3.heap.size, 3, none⟩ (.slice au nu cu)).setCell ⟨w3.heap.size, 2, none⟩ (.int .i64 (x.lf - 1))).setCell ⟨w3.heap.size, 4, none⟩ (.int .i64 (x.nx + 1))) w3.heap.size _ [.int .i64 x.cr, .bool x.tw, .int .i64 (x.lf - 1), .slice au nu cu, .int .i64 (x.nx + 1), .int .i64 x.ep]) := ((K4c.out.set 3 _).set 2 _).set 4 _
        have K5d : Hid (Blk (((w5.setCell ⟨w3.heap.size, 3, none⟩ (.slice au nu cu)).setCell ⟨w3.heap.size, 2, none⟩ (.int .i64 (x.lf - 1))).setCell ⟨w3.heap.size, 4, none⟩ (.int .i64 (x.nx + 1))) _ _ _) := ((K5c.out.setO (by omega) _).setO (by omega) _).setO (by omega) _
        have K1d : Hid (Blk (((w5.setCell ⟨w3.heap.size, 3, none⟩ (.slice au nu cu)).setCell ⟨w3.heap.size, 2, none⟩ (.int .i64 (x.lf - 1))).setCell ⟨w3.heap.size, 4, none⟩ (.int .i64 (x.nx + 1))) _ _ _) := ((K1c.out.setO (by omega) _).setO (by omega) _).setO (by omega) _
        have K2d : Hid (Blk (((w5.setCell ⟨w3.heap.size, 3, none⟩ (.slice au nu cu)).setCell ⟨w3.heap.size, 2, none⟩ (.int .i64 (x.lf - 1))).setCell ⟨w3.heap.size, 4, none⟩ (.int .i64 (x.nx + 1))) _ _ _) := ((K2c.out.setO (by omega) _).setO (by omega) _).setO (by omega) _
        have K3d : Hid (Blk (((w5.setCell ⟨w3.heap.size, 3, none⟩ (.slice au nu cu)).setCell ⟨w3.heap.size, 2, none⟩ (.int .i64 (x.lf - 1))).setCell ⟨w3.heap.size, 4, none⟩ (.int .i64 (x.nx + 1))) _ _ _) := ((K3c.out.setO (by omega) _).setO (by omega) _).setO (by omega) _
        have HU6 : Hid (Cl (((w5.setCell ⟨w3.heap.size, 3, none⟩ (.slice au nu cu)).setCell ⟨w3.heap.size, 2, none⟩ (.int .i64 (x.lf - 1))).setCell ⟨w3.heap.size, 4, none⟩ (.int .i64 (x.nx + 1))) (.slice au nu cu) (x.cl ++ [x.nx])) := ((HU.out.setO fun _ e => by have := HUB.out _ e; omega).setO fun _ e => by have := HUB.out _ e; omega).setO fun _ e => by have := HUB.out _ e; omega
        have B6 : Hid (Below w.heap.size w (((w5.setCell ⟨w3.heap.size, 3, none⟩ (.slice au nu cu)).setCell ⟨w3.heap.size, 2, none⟩ (.int .i64 (x.lf - 1))).setCell ⟨w3.heap.size, 4, none⟩ (.int .i64 (x.nx + 1)))) := ((B5.out.setCell (Nat.le_of_lt hwl) _).setCell (Nat.le_of_lt hwl) _).setCell (Nat.le_of_lt hwl) _
        have HQ6 : Hid (QIs (((w5.setCell ⟨w3.heap.size, 3, none⟩ (.slice au nu cu)).setCell ⟨w3.heap.size, 2, none⟩ (.int .i64 (x.lf - 1))).setCell ⟨w3.heap.size, 4, none⟩ (.int .i64 (x.nx + 1))) _ _ Q V) := HQ.out.below B6.out
        clear K1c K2c K3c K4c K5c HU B5 y0 y1 y2 y3 y4 y5 y6 h4l hwl
        generalize ((w5.setCell ⟨w3.heap.size, 3, none⟩ (.slice au nu cu)).setCell ⟨w3.heap.size, 2, none⟩ (.int .i64 (x.lf - 1))).setCell ⟨w3.heap.size, 4, none⟩ (.int .i64 (x.nx + 1)) = w6 at *
        have D6 : Hid (Below w6.heap.size w6 w6.drew) := (Below.refl _ _).drew
        have hc12 := HC12.out
        have hzz := HZ.out
        have m1 : ¬ w.heap.size = C1 := by omega
        have m2 : ¬ w.heap.size = C2 := by omega
        have m3 : ¬ w3.heap.size = C1 := by omega
        have m4 : ¬ w3.heap.size = C2 := by omega
        have m5 : ¬ w3.heap.size + 1 = C1 := by omega
        have m6 : ¬ w3.heap.size + 1 = C2 := by omega
        clear hc12 hzz hz2 hz3
        obtain ⟨a0, a1⟩ := (K1d.out.below D6.out).bx.two
        obtain ⟨d0, d1, d2, d3, d4, d5⟩ := (K4d.out.below D6.out).bx.six
        obtain ⟨f0, f1, f2⟩ := (K5d.out.below D6.out).bx.three
        have hw6 : Calls Try.prog 20 #[.agg #[.slice (some ⟨bl, ol, none⟩) Q.ls.length lc, .slice ma Q.ms.length mc], .int .i64 (j : Int), .agg #[.int .i64 x.cr, .bool x.tw, .int .i64 (x.lf - 1), .slice au nu cu, .int .i64 (x.nx + 1), .int .i64 x.ep]] w6.drew _ := hwt w6.drew j (claimL x) (.slice au nu cu) hjn (by simp [claimL]; omega) (HU6.out.below D6.out) (HQ6.out.below D6.out)
        go_region_held3 (fun W => W.cell? ⟨w.heap.size, 0, none⟩ = some (.slice (some ⟨bl, ol, none⟩) Q.ls.length lc) ∧ W.cell? ⟨w.heap.size, 1, none⟩ = some (.slice ma Q.ms.length mc) ∧ W.cell? ⟨w3.heap.size, 0, none⟩ = some (.int .i64 x.cr) ∧ W.cell? ⟨w3.heap.size, 1, none⟩ = some (.bool x.tw) ∧ W.cell? ⟨w3.heap.size, 2, none⟩ = some (.int .i64 (x.lf - 1)) ∧ W.cell? ⟨w3.heap.size, 3, none⟩ = some (.slice au nu cu) ∧ W.cell? ⟨w3.heap.size, 4, none⟩ = some (.int .i64 (x.nx + 1)) ∧ W.cell? ⟨w3.heap.size, 5, none⟩ = some (.int .i64 x.ep) ∧ W.cell? ⟨w3.heap.size + 1, 0, none⟩ = some (.int .i64 (j : Int)) ∧ W.cell? ⟨w3.heap.size + 1, 1, none⟩ = some (.int .i64 x.nx) ∧ W.cell? ⟨w3.heap.size + 1, 2, none⟩ = some (.int .i64 x.ep)) (first | (with_reducible assumption) | (with_reducible exact ⟨a0, a1, d0, d1, d2, d3, d4, d5, f0, f1, f2⟩) | (with_reducible exact ⟨a0', a1', d0', d1', d2', d3', d4', d5', f0', f1', f2'⟩) | (with_reducible exact ⟨co m1 (co m1 a0'), co m1 (co m1 a1'), co m3 (co m3 d0'), co m3 (co m3 d1'), co m3 (co m3 d2'), co m3 (co m3 d3'), co m3 (co m3 d4'), co m3 (co m3 d5'), co m5 (co m5 f0'), co m5 (co m5 f1'), co m5 (co m5 f2')⟩) | (with_reducible exact ⟨co m2 (co m2 (co m2 (co m1 (co m1 a0')))), co m2 (co m2 (co m2 (co m1 (co m1 a1')))), co m4 (co m4 (co m4 (co m3 (co m3 d0')))), co m4 (co m4 (co m4 (co m3 (co m3 d1')))), co m4 (co m4 (co m4 (co m3 (co m3 d2')))), co m4 (co m4 (co m4 (co m3 (co m3 d3')))), co m4 (co m4 (co m4 (co m3 (co m3 d4')))), co m4 (co m4 (co m4 (co m3 (co m3 d5')))), co m6 (co m6 (co m6 (co m5 (co m5 f0')))), co m6 (co m6 (co m6 (co m5 (co m5 f1')))), co m6 (co m6 (co m6 (co m5 (co m5 f2'))))⟩)) (first
          | (go_at_call 20; (with_reducible refine hw6.mono ?_); rintro e w7 ⟨ul, um, V', rfl, hq7, hb7, hn7⟩; obtain ⟨a0', a1'⟩ := ((K1d.out.below D6.out).below hb7).bx.two; obtain ⟨d0', d1', d2', d3', d4', d5'⟩ := ((K4d.out.below D6.out).below hb7).bx.six; obtain ⟨f0', f1', f2'⟩ := ((K5d.out.below D6.out).below hb7).bx.three; obtain ⟨p0', p1'⟩ := ((K2d.out.below D6.out).below hb7).bx.two; obtain ⟨r0', r1', r2'⟩ := ((K3d.out.below D6.out).below hb7).bx.three; have p2' := ((K2d.out.below D6.out).below hb7).fz; have r3' := ((K3d.out.below D6.out).below hb7).fz; obtain ⟨la', lc', hul, _⟩ := hq7.l; obtain ⟨ma', mc', hum, _⟩ := hq7.m; subst hul; subst hum))
        have HN7 : Hid (QNew w6.heap.size (.slice la' Q.ls.length lc') (.slice ma' Q.ms.length mc') ⟨Q.ls.set j (claimL x), Q.ms⟩ V') := by have := hn7; simp only [List.length_set] at this; exact this
        have HQ7 : Hid (QIs w7 (.slice la' Q.ls.length lc') (.slice ma' Q.ms.length mc') ⟨Q.ls.set j (claimL x), Q.ms⟩ V') := by have := hq7; simp only [List.length_set] at this; exact this
        have B7 : Hid (Below w.heap.size w w7) := Below.onto (Below.onto B6.out D6.out) hb7
        have hk2 := K2d.out.lt
        have hk3 := K3d.out.lt
        clear hb7 hq7 hn7 a0 a1 d0 d1 d2 d3 d4 d5 f0 f1 f2 a0' a1' d0' d1' d2' d3' d4' d5' f0' f1' f2'
        go_wp2_with fail
        refine bodyPost_ret (v := .tuple #[quV (.slice la' Q.ls.length lc') (.slice ma' Q.ms.length mc'), clV (j : Int) x.nx x.ep, .int .i64 0]) (by simp [results, Try.results10, go_sem, p0', p1', r0', r1', r2']) rfl ⟨.slice la' Q.ls.length lc', .slice ma' Q.ms.length mc', V', by rw [HXJ.out], ?_, ?_, ?_⟩
        · rw [HXJ.out]
          exact ((((HQ7.out.setO HN7.out hk2).setO HN7.out hk2).setO HN7.out hk3).setO HN7.out hk3).setO HN7.out hk3
        · repeat (first | (with_reducible exact B7.out) | ((with_reducible refine Below.setCell ?_ ?_ _); rotate_left; first | exact HL.out | exact HL2.out))
        · rw [HXJ.out]
          exact HN7.out.mono B6.out.size
  · have HE : Hid (Q.clE i = Q.nam i) := by show _ = _; rw [Qu.clE, if_neg hE]
    have HQ0 : Hid (Q.clQ i = qu0) := by show _ = _; rw [Qu.clQ, HE.out, if_neg hE]
    have HC0 : Hid (Q.clC i = (0, 0, 0)) := by show _ = _; rw [Qu.clC, HE.out, if_neg hE]
    have hE1 : (Q.nam i == 0) = false := by simp [hE]
    rw [HE.out, HQ0.out, HC0.out]
    clear hE HE HQ0 HC0
    generalize Q.nam i = E at *
    go_enter Try.func10, Try.ntmps10
    go_wp2_with fail
    generalize ((w.alloc (.cells #[.slice la Q.ls.length lc, .slice ma Q.ms.length mc] 30)).alloc (.cells #[.slice none 0 0, .slice none 0 0] 30)).alloc (.cells #[.int .i64 0, .int .i64 0, .int .i64 0] 47) = w2 at *
    refine (hnm _ (HQ.out.below B2.out)).mono ?_
    rintro e w3 ⟨rfl, hb⟩
    obtain ⟨p0, p1⟩ := (K2.out.below hb).bx.two
    have p2 := (K2.out.below hb).fz
    obtain ⟨r0, r1, r2⟩ := (K3.out.below hb).bx.three
    have r3 := (K3.out.below hb).fz
    have B3 : Hid (Below w.heap.size w w3) := Below.onto B2.out hb
    have HL : Hid (w.heap.size ≤ w.heap.size + 1) := Nat.le_succ _
    have HL2 : Hid (w.heap.size ≤ w.heap.size + 1 + 1) := by show _ ≤ _; omega
    have hne : ¬ w.heap.size + 1 = w.heap.size + 1 + 1 := by omega
    clear hb
    generalize w.heap.size + 1 + 1 = C2 at *
    generalize w.heap.size + 1 = C1 at *
    go_wp2_with fail
    refine bodyPost_ret (v := .tuple #[quV (.slice none 0 0) (.slice none 0 0), clV 0 0 0, .int .i64 E]) (by simp [results, Try.results10, go_sem, p0, p1, r0, r1, r2]) rfl ⟨_, _, fun _ => .slice none 0 0, rfl, qis0 _, ?_, qnew0 _⟩
    repeat (first | (with_reducible exact B3.out) | ((with_reducible refine Below.setCell ?_ ?_ _); rotate_left; first | exact HL.out | exact HL2.out))

end Go.Proofs.Ytkgehbonijpdnaa
