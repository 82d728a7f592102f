/- queue.Publish. -/
import Derived.Test.YtkgehbonijpdnaaUTake
namespace Go.Proofs.Ytkgehbonijpdnaa
open Go.RowKit
set_option maxRecDepth 100000

theorem cl_tail {w : World} {u : Value} {l : List Int} {k : Nat} (hl : l.length = k + 1) (h : Sl w 1 k (fun j => encI l (j + 1)) u) : Cl w u l.tail := by
  unfold Cl
  rw [show l.tail.length = k by simp [hl]]
  refine h.congr fun j _ f _ => ?_
  unfold encI
  congr 1
  simp [atI]
theorem ms_snoc {w : World} {u : Value} {l : List PMs} {m : PMs} (h : Sl w 4 (l.length + 1) (snocC l.length (encMs l) (encM m)) u) : Sl w 4 (l ++ [m]).length (encMs (l ++ [m])) u := by
  have e : (l ++ [m]).length = l.length + 1 := by simp
  rw [e]
  refine h.congr fun j hj f _ => ?_
  unfold snocC encMs
  by_cases hl : j < l.length
  · rw [if_pos hl]
    have : atM (l ++ [m]) j = atM l j := by simp [atM, List.getElem?_append_left hl]
    rw [this]
  · obtain rfl : j = l.length := by omega
    rw [if_neg hl]
    have : atM (l ++ [m]) l.length = m := by simp [atM]
    rw [this]
set_option maxHeartbeats 4000000 in
theorem publish_any (vl vm : Value) (Q : Qu) (V : Nat → Value) (ln n ep pay : Int) (w : World) (hms : Q.ms.length + 1 ≤ 1000) (ho : OkQ Q) (hq : QIs w vl vm Q V) : Calls Try.prog 11 #[quV vl vm, clV ln n ep, .int .u64 pay] w fun e w' =>
    ∃ ul um V', e = .returned (.tuple #[quV ul um, .int .i64 (Q.pbE ln n ep)]) ∧ QIs w' ul um (Q.pbQ ln n ep pay) V' ∧ Below w.heap.size w w' ∧ QNew w.heap.size ul um (Q.pbQ ln n ep pay) V' := by
  have hlk := fun W h1 => lacks_any vl vm Q V ln n ep W ho h1
  have HQ : Hid (QIs w vl vm Q V) := hq
  have HO : Hid (OkQ Q) := ho
  obtain ⟨la, lc, rfl, _, _, hlr⟩ := hq.l
  obtain ⟨ma, mc, rfl, _, _, hmr⟩ := hq.m
  clear hlr hmr hq ho
  by_cases hE : Q.pbE ln n ep = 0
  · obtain ⟨hok, hh1, hh2, hfst⟩ : Q.ok = true ∧ Q.hasB ln = true ∧ opn (Q.lane ln) n ep = true ∧ atI (Q.lane ln).cl 0 = n := by
      obtain ⟨h1, h2, h3⟩ := pbE_zero hE
      exact ⟨(nam_zero h1).1, (nam_zero h1).2, h2, h3⟩
    obtain ⟨j, rfl, hjn⟩ : ∃ j : Nat, ln = (j : Int) ∧ j < Q.ls.length := by
      simp [Qu.hasB] at hh1
      exact ⟨ln.toNat, by omega, by omega⟩
    have hlane : Q.lane (j : Int) = atP Q.ls j := by simp [Qu.lane]
    rw [hlane] at hh2
    obtain ⟨k, hlen⟩ : ∃ k, (atP Q.ls j).cl.length = k + 1 := by
      cases h : (atP Q.ls j).cl with
      | nil => simp [opn, h] at hh2
      | cons a l => exact ⟨l.length, rfl⟩
    have HLEN : Hid ((atP Q.ls j).cl.length = k + 1) := hlen
    have hnc := HO.out.nc j hjn
    have HP : Hid (Q.pbQ (j : Int) n ep pay = ⟨Q.ls.set j (pubL (atP Q.ls j)), Q.ms ++ [⟨(j : Int), ep, n, pay⟩]⟩) := by show _ = _; rw [Qu.pbQ, if_pos hE, hlane]; rfl
    rw [HP.out, hE]
    simp only [hE] at hlk
    have j1 : (0 : Int) ≤ (j : Int) := by omega
    have j2 : (j : Int) < (Q.ls.length : Int) := by omega
    have HO2 : Hid (OkQ ⟨Q.ls, Q.ms ++ [⟨(j : Int), ep, n, pay⟩]⟩) := ⟨HO.out.nl, by show (_ ++ _ : List PMs).length ≤ 1000; simpa using hms, HO.out.nc⟩
    obtain ⟨k1, k2, k3, b2, s2⟩ := alloc3 w [.slice la Q.ls.length lc, .slice ma Q.ms.length mc] 30 [.int .i64 (j : Int), .int .i64 n, .int .i64 ep] 47 [.slice none 0 0, .slice none 0 0] 30
    have K1 : Hid (Blk _ _ _ _) := k1
    have K2 : Hid (Blk _ _ _ _) := k2
    have K3 : Hid (Blk _ _ _ _) := k3
    have B2 : Hid (Below _ _ _) := b2
    clear k1 k2 k3 b2 s2 hE hok hh1 hh2 hfst hlane hlen HP
    go_enter Try.func11, Try.ntmps11
    go_wp2_with fail
    generalize ((w.alloc (.cells #[.slice la Q.ls.length lc, .slice ma Q.ms.length mc] 30)).alloc (.cells #[.int .i64 (j : Int), .int .i64 n, .int .i64 ep] 47)).alloc (.cells #[.slice none 0 0, .slice none 0 0] 30) = w2 at *
    refine (hlk _ (HQ.out.below B2.out)).mono ?_
    rintro e w3 ⟨rfl, hb⟩
    obtain ⟨q0, q1⟩ := (K1.out.below hb).bx.two
    obtain ⟨r0, r1, r2⟩ := (K2.out.below hb).bx.three
    obtain ⟨p0, p1⟩ := (K3.out.below hb).bx.two
    have p2 := (K3.out.below hb).fz
    have K1b : Hid (Blk w3 _ _ _) := K1.out.below hb
    have K2b : Hid (Blk w3 _ _ _) := K2.out.below hb
    have K3b : Hid (Blk w3 _ _ _) := K3.out.below hb
    have B3 : Hid (Below w.heap.size w w3) := Below.onto B2.out hb
    have HL2 : Hid (w.heap.size ≤ w.heap.size + 1 + 1) := by show _ ≤ _; omega
    have HC12 : Hid (w.heap.size < w.heap.size + 1 ∧ w.heap.size + 1 < w.heap.size + 1 + 1) := ⟨by omega, by omega⟩
    clear hb K1 K2 K3
    generalize w.heap.size + 1 + 1 = C2 at *
    generalize w.heap.size + 1 = C1 at *
    have HQ3 : Hid (QIs w3 _ _ Q V) := HQ.out.below B3.out
    obtain ⟨bl, ol, _, ca, cc, e0, hV, c0, c1, c2, c3, c4, c5⟩ := HQ3.out.at hjn
    cases e0
    have HCL : Hid (∀ W, QIs W (.slice (some ⟨bl, ol, none⟩) Q.ls.length lc) (.slice ma Q.ms.length mc) Q V → Sl W 1 (k + 1) (encI (atP Q.ls j).cl) (.slice ca (atP Q.ls j).cl.length cc)) := fun W hW => by
      have := hW.c j hjn
      rw [hV] at this
      unfold Cl at this
      rwa [HLEN.out] at this ⊢
    have HRI : Hid (∀ W, QIs W (.slice (some ⟨bl, ol, none⟩) Q.ls.length lc) (.slice ma Q.ms.length mc) Q V → Calls Try.prog 22 #[.slice ca (atP Q.ls j).cl.length cc] W fun e w' => ∃ u, e = .returned u ∧ (∀ W c', Sl W 1 (k + 1) c' (.slice ca (atP Q.ls j).cl.length cc) → Sl W 1 k (fun j => c' (j + 1)) u) ∧ w' = W) := fun W hW => restI_any _ k _ W (by have := HLEN.out; omega) (HCL.out W hW)
    have HTL : Hid (∀ W u, Sl W 1 k (fun i => encI (atP Q.ls j).cl (i + 1)) u → Cl W u (pubL (atP Q.ls j)).cl) := fun W u h => cl_tail HLEN.out h
    generalize hx : atP Q.ls j = x at *
    have HXJ : Hid (atP Q.ls j = x) := hx
    obtain ⟨k4, b4, s4⟩ := alloc1 w3 [.int .i64 x.cr, .bool x.tw, .int .i64 x.lf, .slice ca x.cl.length cc, .int .i64 x.nx, .int .i64 x.ep] 57
    have K4 : Hid (Blk _ _ _ _) := k4
    have B4 : Hid (Below _ _ _) := b4
    have hz1 := K1b.out.lt
    have hz2 := K2b.out.lt
    have hz3 := K3b.out.lt
    clear hx k4 b4 s4 hV
    go_wp2_with fail
    generalize w3.alloc (.cells #[.int .i64 x.cr, .bool x.tw, .int .i64 x.lf, .slice ca x.cl.length cc, .int .i64 x.nx, .int .i64 x.ep] 57) = w4 at *
    refine (HRI.out w4 (HQ3.out.below B4.out)).mono ?_
    rintro e w5 ⟨u, rfl, hu, rfl⟩
    have HU : Hid (∀ W, QIs W (.slice (some ⟨bl, ol, none⟩) Q.ls.length lc) (.slice ma Q.ms.length mc) Q V → Cl W u (pubL x).cl) := fun W hW => HTL.out W u (hu W _ (HCL.out W hW))
    obtain ⟨au, nu, cu, rfl⟩ : ∃ au nu cu, u = .slice au nu cu := by obtain ⟨a, c, e, _⟩ := HU.out w5 (HQ3.out.below B4.out); exact ⟨_, _, _, e⟩
    have BB5 : Hid (Below w.heap.size w w5) := Below.onto B3.out B4.out
    have HC := HC12.out
    obtain ⟨y0, y1, y2, y3, y4, y5⟩ := K4.out.bx.six
    have y6 := K4.out.fz
    obtain ⟨g0, g1⟩ := (K1b.out.below B4.out).bx.two
    have g2 := (K1b.out.below B4.out).fz
    obtain ⟨f0, f1, f2⟩ := (K2b.out.below B4.out).bx.three
    have m1 : ¬ w3.heap.size = w.heap.size := by omega
    have m2 : ¬ w3.heap.size = C1 := by omega
    have m3 : ¬ w3.heap.size = C2 := by omega
    have K4d : Hid (Blk (w5.setCell ⟨w3.heap.size, 3, none⟩ (.slice au nu cu)) w3.heap.size _ [.int .i64 x.cr, .bool x.tw, .int .i64 x.lf, .slice au nu cu, .int .i64 x.nx, .int .i64 x.ep]) := K4.out.set 3 _
    have K1d : Hid (Blk (w5.setCell ⟨w3.heap.size, 3, none⟩ (.slice au nu cu)) _ _ _) := (K1b.out.below B4.out).setO (by omega) _
    have K2d : Hid (Blk (w5.setCell ⟨w3.heap.size, 3, none⟩ (.slice au nu cu)) _ _ _) := (K2b.out.below B4.out).setO (by omega) _
    have K3d : Hid (Blk (w5.setCell ⟨w3.heap.size, 3, none⟩ (.slice au nu cu)) _ _ _) := (K3b.out.below B4.out).setO (by omega) _
    have B6 : Hid (Below w.heap.size w (w5.setCell ⟨w3.heap.size, 3, none⟩ (.slice au nu cu))) := BB5.out.setCell (Nat.le_of_lt hz1) _
    have hlm := longerM_any (.slice ma Q.ms.length mc) Q.ms.length (encMs Q.ms) ⟨(j : Int), ep, n, pay⟩ _ (by omega) (HQ.out.below B6.out).m
    clear hu hz1 hz2 hz3 q0 q1 p0 p1 p2 r0 r1 r2 c0 c1 c2 c3 c4 c5
    go_wp2_with fail
    generalize w5.setCell ⟨w3.heap.size, 3, none⟩ (.slice au nu cu) = w6 at *
    clear y0 y1 y2 y3 y4 y5 y6 g0 g1 g2 f0 f1 f2
    refine hlm.mono ?_
    rintro e w7 ⟨um, rfl, hum, hb7, _⟩
    have HUM : Hid (∀ W, Below w7.heap.size w7 W → Sl W 4 _ _ um) := fun W hW => (ms_snoc hum).below hW
    have HUMO : Hid (∀ g, um.ownBlock = some g → w6.heap.size ≤ g) := by assumption
    have HB7 : Hid (Below w6.heap.size w6 w7) := hb7
    have HMS7 : Hid (Sl w7 4 _ _ um) := ms_snoc hum
    obtain ⟨av, nv, cv, rfl⟩ : ∃ a n c, um = .slice a n c := by obtain ⟨a, c, e, _⟩ := HMS7.out; exact ⟨_, _, _, e⟩
    have K1e : Hid (Blk w7 _ _ _) := K1d.out.below hb7
    have K2e : Hid (Blk w7 _ _ _) := K2d.out.below hb7
    have K3e : Hid (Blk w7 _ _ _) := K3d.out.below hb7
    have K4e : Hid (Blk w7 _ _ _) := K4d.out.below hb7
    have z1 := K1d.out.lt
    obtain ⟨g0, g1⟩ := K1e.out.bx.two
    have g2 := K1e.out.fz
    obtain ⟨f0, f1, f2⟩ := K2e.out.bx.three
    obtain ⟨y0, y1, y2, y3, y4, y5⟩ := K4e.out.bx.six
    have n1 : ¬ w.heap.size = C1 := by omega
    have n2 : ¬ w.heap.size = w3.heap.size := by omega
    have n3 : ¬ w.heap.size = C2 := by omega
    have K1f : Hid (Blk (w7.setCell ⟨w.heap.size, 1, none⟩ (.slice av nv cv)) w.heap.size _ [.slice (some ⟨bl, ol, none⟩) Q.ls.length lc, .slice av nv cv]) := K1e.out.set 1 _
    have K3f : Hid (Blk (w7.setCell ⟨w.heap.size, 1, none⟩ (.slice av nv cv)) C2 _ _) := K3e.out.setO (by omega) _
    have B8 : Hid (Below w.heap.size w (w7.setCell ⟨w.heap.size, 1, none⟩ (.slice av nv cv))) := (Below.onto B6.out hb7).setCell (Nat.le_refl _) _
    have HM8 : Hid (Sl (w7.setCell ⟨w.heap.size, 1, none⟩ (.slice av nv cv)) 4 _ (encMs (Q.ms ++ [⟨(j : Int), ep, n, pay⟩])) (.slice av nv cv)) := HMS7.out.setO fun e => by have := HUMO.out _ e; omega
    have HQ8 : Hid (QIs (w7.setCell ⟨w.heap.size, 1, none⟩ (.slice av nv cv)) (.slice (some ⟨bl, ol, none⟩) Q.ls.length lc) (.slice av nv cv) ⟨Q.ls, Q.ms ++ [⟨(j : Int), ep, n, pay⟩]⟩ V) := ⟨(HQ.out.below B8.out).l, (HQ.out.below B8.out).c, HM8.out⟩
    have hwt : Calls Try.prog 20 #[.agg #[.slice (some ⟨bl, ol, none⟩) Q.ls.length lc, .slice av nv cv], .int .i64 (j : Int), .agg #[.int .i64 x.cr, .bool x.tw, .int .i64 x.lf, .slice au nu cu, .int .i64 x.nx, .int .i64 x.ep]] (w7.setCell ⟨w.heap.size, 1, none⟩ (.slice av nv cv)) _ := with_any _ _ ⟨Q.ls, Q.ms ++ [⟨(j : Int), ep, n, pay⟩]⟩ V _ j (pubL x) (.slice au nu cu) hjn (by simp [pubL]; omega) (HU.out _ (HQ.out.below B8.out)) HO2.out HQ8.out
    obtain ⟨p0, p1⟩ := K3f.out.bx.two
    clear hum hb7 HUM
    go_wp2_with fail
    clear y0 y1 y2 y3 y4 y5 g0 g1 g2 f0 f1 f2 p0 p1
    generalize w7.setCell ⟨w.heap.size, 1, none⟩ (.slice av nv cv) = w8 at *
    refine hwt.mono ?_
    rintro e w9 ⟨ul, um, V', rfl, hq9, hb9, hn9⟩
    have HN9 : Hid (QNew w8.heap.size _ _ _ _) := hn9
    have HQ9 : Hid (QIs w9 _ _ _ _) := hq9
    have B9 : Hid (Below w.heap.size w w9) := Below.onto B8.out hb9
    have hk3 := K3f.out.lt
    obtain ⟨p0, p1⟩ := (K3f.out.below hb9).bx.two
    have p2 := (K3f.out.below hb9).fz
    obtain ⟨la', nl', lc', rfl⟩ : ∃ a n c, ul = .slice a n c := by obtain ⟨a, c, e, _⟩ := HQ9.out.l; exact ⟨_, _, _, e⟩
    obtain ⟨ma', nm', mc', rfl⟩ : ∃ a n c, um = .slice a n c := by obtain ⟨a, c, e, _⟩ := HQ9.out.m; exact ⟨_, _, _, e⟩
    clear hq9 hb9 hn9 hwt
    go_wp2_with fail
    refine bodyPost_ret (v := .tuple #[quV (.slice la' nl' lc') (.slice ma' nm' mc'), .int .i64 0]) (by simp [results, Try.results11, go_sem, p0, p1]) rfl ⟨_, _, V', rfl, ?_, ?_, ?_⟩
    · rw [HXJ.out]
      exact (HQ9.out.setO HN9.out hk3).setO HN9.out hk3
    · repeat (first | (with_reducible exact B9.out) | ((with_reducible refine Below.setCell ?_ ?_ _); rotate_left; first | exact HL2.out))
    · rw [HXJ.out]
      exact HN9.out.mono B8.out.size
  · have HP : Hid (Q.pbQ ln n ep pay = qu0) := by show _ = _; rw [Qu.pbQ, if_neg hE]
    have hE1 : (Q.pbE ln n ep == 0) = false := by simp [hE]
    rw [HP.out]
    obtain ⟨k1, k2, k3, b2, s2⟩ := alloc3 w [.slice la Q.ls.length lc, .slice ma Q.ms.length mc] 30 [.int .i64 ln, .int .i64 n, .int .i64 ep] 47 [.slice none 0 0, .slice none 0 0] 30
    have K1 : Hid (Blk _ _ _ _) := k1
    have K2 : Hid (Blk _ _ _ _) := k2
    have K3 : Hid (Blk _ _ _ _) := k3
    have B2 : Hid (Below _ _ _) := b2
    clear k1 k2 k3 b2 s2 hE HP
    generalize Q.pbE ln n ep = E at *
    go_enter Try.func11, Try.ntmps11
    go_wp2_with fail
    generalize ((w.alloc (.cells #[.slice la Q.ls.length lc, .slice ma Q.ms.length mc] 30)).alloc (.cells #[.int .i64 ln, .int .i64 n, .int .i64 ep] 47)).alloc (.cells #[.slice none 0 0, .slice none 0 0] 30) = w2 at *
    refine (hlk _ (HQ.out.below B2.out)).mono ?_
    rintro e w3 ⟨rfl, hb⟩
    obtain ⟨q0, q1⟩ := (K1.out.below hb).bx.two
    obtain ⟨r0, r1, r2⟩ := (K2.out.below hb).bx.three
    obtain ⟨p0, p1⟩ := (K3.out.below hb).bx.two
    have p2 := (K3.out.below hb).fz
    have K1b : Hid (Blk w3 _ _ _) := K1.out.below hb
    have K2b : Hid (Blk w3 _ _ _) := K2.out.below hb
    have K3b : Hid (Blk w3 _ _ _) := K3.out.below hb
    have B3 : Hid (Below w.heap.size w w3) := Below.onto B2.out hb
    have HL2 : Hid (w.heap.size ≤ w.heap.size + 1 + 1) := by show _ ≤ _; omega
    have HC12 : Hid (w.heap.size < w.heap.size + 1 ∧ w.heap.size + 1 < w.heap.size + 1 + 1) := ⟨by omega, by omega⟩
    clear hb K1 K2 K3
    generalize w.heap.size + 1 + 1 = C2 at *
    generalize w.heap.size + 1 = C1 at *
    go_wp2_with fail
    refine bodyPost_ret (v := .tuple #[quV (.slice none 0 0) (.slice none 0 0), .int .i64 E]) (by simp [results, Try.results11, go_sem, p0, p1]) rfl ⟨_, _, fun _ => .slice none 0 0, rfl, qis0 _, ?_, qnew0 _⟩
    repeat (first | (with_reducible exact B3.out) | ((with_reducible refine Below.setCell ?_ ?_ _); rotate_left; first | exact HL2.out))

end Go.Proofs.Ytkgehbonijpdnaa
