/- The document's Reset. -/
import Derived.Test.YtimmjhegeagofabURefR
namespace Go.Proofs.Ytimmjhegeagofab
open Go.RowKit
set_option maxRecDepth 100000

theorem rst_cells {ls : List PLn} {V : Nat → Value} {j : Nat} (hj : j < ls.length) (i e : Nat) (he : e < 6) : (if i = j ∧ e = 5 then Value.int .i64 ((atP ls j).ep + 1) else if i = j ∧ e = 2 then Value.int .i64 (atP ls j).cr else encLs ls V i e) = encLs (ls.set j (rstL (atP ls j))) V i e := by
  unfold encLs
  rw [atP_set hj]
  by_cases h : i = j
  · subst h
    rw [if_pos rfl]
    match e, he with
    | 0, _ => simp [encP, rstL]
    | 1, _ => simp [encP, rstL]
    | 2, _ => simp [encP, rstL]
    | 3, _ => simp [encP]
    | 4, _ => simp [encP, rstL]
    | 5, _ => simp [encP, rstL]
  · simp [h]
theorem msg_snoc {l : List PMs} {y : PMs} {m : Nat} {xs : List Value} (hm : m = l.length) (hl : xs.length = m * 4) (hxs : ∀ i, i < m → ∀ f, f < 4 → xs[i * 4 + f]? = some (encMs l i f)) : ∀ i, i < m + 1 → ∀ f, f < 4 → (xs ++ cellsL 1 4 (fun _ => encM y))[i * 4 + f]? = some (encMs (l ++ [y]) i f) := by
  intro i hi f hf
  by_cases h : i < m
  · rw [List.getElem?_append_left (by rw [hl]; exact mul_lt_of h hf), hxs i h f hf]
    unfold encMs
    congr 2
    have h2 : i < l.length := by omega
    simp [atM, List.getElem?_append_left h2]
  · obtain rfl : i = m := by omega
    rw [List.getElem?_append_right (by omega), hl, Nat.add_sub_cancel_left]
    have := cellsL_at (n := 1) (s := 4) (c := fun _ => encM y) (j := 0) (f := f) (by omega) hf
    rw [Nat.zero_mul, Nat.zero_add] at this
    rw [this]
    unfold encMs
    congr 2
    simp [atM, hm]
set_option maxHeartbeats 8000000 in
theorem rreset_any (vl vm : Value) (Q : Qu) (V : Nat → Value) (ln : Int) (w : World) (ho : OkQ Q) (hq : QIs w vl vm Q V) : Calls Try.prog 23 #[quV vl vm, .int .i64 ln] w fun e w' =>
    ∃ ul um V', e = .returned (.tuple #[quV ul um, .int .i64 (Q.rsE ln)]) ∧ QIs w' ul um (Q.rsQ ln) V' ∧ Below w.heap.size w w' ∧ QNew w.heap.size ul um (Q.rsQ ln) V' := by
  have hsk := fun W h1 => rasked_any vl vm Q V ln W ho h1
  have how := fun W h1 => rown_any vl vm Q V W ho h1
  have HQ : Hid (QIs w vl vm Q V) := hq
  have HO : Hid (OkQ Q) := ho
  obtain ⟨la, lc, rfl, _, _, hlr⟩ := hq.l
  obtain ⟨ma, mc, rfl, _, _, hmr⟩ := hq.m
  clear hlr hmr hq ho
  obtain ⟨k1, k3, b2, s2⟩ := alloc2 w [.slice la Q.ls.length lc, .slice ma Q.ms.length mc] 25 [.slice none 0 0, .slice none 0 0] 25
  have K1 : Hid (Blk _ _ _ _) := k1
  have K3 : Hid (Blk _ _ _ _) := k3
  have B2 : Hid (Below _ _ _) := b2
  clear k1 k3 b2 s2
  by_cases hE : Q.nam ln = 0
  · obtain ⟨hok, hH⟩ := nam_zero hE
    obtain ⟨j, rfl, hjn⟩ : ∃ j : Nat, ln = (j : Int) ∧ j < Q.ls.length := by
      simp [Qu.hasB] at hH
      exact ⟨ln.toNat, by omega, by omega⟩
    have hlane : Q.lane (j : Int) = atP Q.ls j := by simp [Qu.lane]
    have hokL := ((ok_iff Q).1 hok).2.2 j hjn
    have hno : hasNo (atP Q.ls j) = true := by simp [okL] at hokL; exact hokL.2.1
    obtain ⟨_, he0, hemx⟩ := hasNo_iff.1 hno
    have hrE : Q.rsE (j : Int) = if 0 < (atP Q.ls j).cl.length then 104 else if (atP Q.ls j).ep = mxC then 3 else 0 := by rw [Qu.rsE, if_pos hE, hlane]
    have hrQ : Q.rsQ (j : Int) = if Q.rsE (j : Int) = 0 then ⟨Q.ls.set j (rstL (atP Q.ls j)), Q.ms.filter fun m => !(m.ln == (j : Int))⟩ else qu0 := by rw [Qu.rsQ, hlane]; rfl
    have hnc := HO.out.nc j hjn
    have hnm := HO.out.nm
    have j1 : (0 : Int) ≤ (j : Int) := by omega
    have j2 : (j : Int) < (Q.ls.length : Int) := by omega
    have HRE : Hid (_ = _) := hrE
    have HRQ : Hid (_ = _) := hrQ
    simp only [hE] at hsk
    clear hrE hrQ hH hlane hE hok hokL hno
    go_enter Try.func23, Try.ntmps23
    go_wp2_with fail
    generalize (w.alloc (.cells #[.slice la Q.ls.length lc, .slice ma Q.ms.length mc] 25)).alloc (.cells #[.slice none 0 0, .slice none 0 0] 25) = w2 at *
    refine (hsk _ (HQ.out.below B2.out)).mono ?_
    rintro e w3 ⟨rfl, hb⟩
    obtain ⟨q0, q1⟩ := (K1.out.below hb).bx.two
    obtain ⟨p0, p1⟩ := (K3.out.below hb).bx.two
    have p2 := (K3.out.below hb).fz
    have K1b : Hid (Blk w3 _ _ _) := K1.out.below hb
    have K3b : Hid (Blk w3 _ _ _) := K3.out.below hb
    have B3 : Hid (Below w.heap.size w w3) := Below.onto B2.out hb
    have HC12 : Hid (w.heap.size < w.heap.size + 1) := Nat.lt_succ_self _
    clear hb
    generalize w.heap.size + 1 = C2 at *
    go_wp2_with fail
    refine (how _ (HQ.out.below B3.out)).mono ?_
    rintro e w4 ⟨ul, um, V', rfl, how4, hb4⟩
    have HOW : Hid (Owned w4 w3.heap.size ul um Q V') := how4
    have HB4 : Hid (Below w3.heap.size w3 w4) := hb4
    have hq4 := how4.qis
    obtain ⟨bl, ol, lc', ca, cc, rfl, hV, c0, c1, c2, c3, c4, c5⟩ := hq4.at hjn
    obtain ⟨ma', mc', rfl, _⟩ := hq4.m
    generalize hx : atP Q.ls j = x at *
    have HXJ : Hid (atP Q.ls j = x) := hx
    obtain ⟨k5, k6, b6, s6⟩ := alloc2 w4 [.slice (some ⟨bl, ol, none⟩) Q.ls.length lc', .slice ma' Q.ms.length mc'] 25 [.int .i64 x.cr, .bool x.tw, .int .i64 x.lf, .slice ca x.cl.length cc, .int .i64 x.nx, .int .i64 x.ep] 61
    have K5 : Hid (Blk _ _ _ _) := k5
    have K6 : Hid (Blk _ _ _ _) := k6
    have S6 : Hid (_ = _) := s6
    have B46 : Hid (Below w4.heap.size w4 _) := b6
    have K1d : Hid (Blk w4 _ _ _) := K1b.out.below hb4
    have K3d : Hid (Blk w4 _ _ _) := K3b.out.below hb4
    have HC2L : Hid (C2 < w3.heap.size) := K3b.out.lt
    have HBW6 : Hid (Below w.heap.size w ((w4.alloc (.cells #[.slice (some ⟨bl, ol, none⟩) Q.ls.length lc', .slice ma' Q.ms.length mc'] 25)).alloc (.cells #[.int .i64 x.cr, .bool x.tw, .int .i64 x.lf, .slice ca x.cl.length cc, .int .i64 x.nx, .int .i64 x.ep] 61))) := Below.onto (Below.onto B3.out hb4) b6
    have K3f : Hid (Blk ((w4.alloc (.cells #[.slice (some ⟨bl, ol, none⟩) Q.ls.length lc', .slice ma' Q.ms.length mc'] 25)).alloc (.cells #[.int .i64 x.cr, .bool x.tw, .int .i64 x.lf, .slice ca x.cl.length cc, .int .i64 x.nx, .int .i64 x.ep] 61)) _ _ _) := K3d.out.below b6
    obtain ⟨q0, q1⟩ := K1d.out.bx.two
    obtain ⟨p0, p1⟩ := K3d.out.bx.two
    have p2 := K3d.out.fz
    have z1 := K1d.out.lt
    have z3 := K3d.out.lt
    have zb : bl < w4.heap.size := cell_lt c0
    have hc12 := HC12.out
    have h34 := hb4.size
    have z3' := K3b.out.lt
    have HL2 : Hid (w.heap.size ≤ C2) := by show _ ≤ _; omega
    clear how how4 hb4 hq4 k5 k6 b6 s6 hx
    by_cases hcl : 0 < x.cl.length
    · have hcl1 : (0 : Int) < (x.cl.length : Int) := by omega
      have HE : Hid (Q.rsE (j : Int) = 104) := by show _ = _; rw [HRE.out, if_pos hcl]
      have HP : Hid (Q.rsQ (j : Int) = qu0) := by show _ = _; rw [HRQ.out, HE.out, if_neg (by decide)]
      clear hcl
      go_wp2_with fail
      refine bodyPost_ret (v := .tuple #[quV (.slice none 0 0) (.slice none 0 0), .int .i64 104]) (by simp [results, Try.results23, go_sem, p0, p1, z3]) rfl ⟨.slice none 0 0, .slice none 0 0, fun _ => .slice none 0 0, by rw [HE.out], by rw [HP.out]; exact qis0 _, ?_, by rw [HP.out]; exact qnew0 _⟩
      refine Below.onto ?_ (Below.onto (below_new _ _) (below_new _ _))
      exact ((Below.onto B3.out HB4.out).setCell HL2.out _).setCell HL2.out _
    · have hcl1 : ¬ (0 : Int) < (x.cl.length : Int) := by omega
      by_cases hmx : x.ep = mxC
      · have hmx1 : (x.ep == 1099511627776) = true := by rw [hmx]; rfl
        have HE : Hid (Q.rsE (j : Int) = 3) := by show _ = _; rw [HRE.out, if_neg hcl, if_pos hmx]
        have HP : Hid (Q.rsQ (j : Int) = qu0) := by show _ = _; rw [HRQ.out, HE.out, if_neg (by decide)]
        clear hcl hmx
        go_wp2_with fail
        refine bodyPost_ret (v := .tuple #[quV (.slice none 0 0) (.slice none 0 0), .int .i64 3]) (by simp [results, Try.results23, go_sem, p0, p1, z3]) rfl ⟨.slice none 0 0, .slice none 0 0, fun _ => .slice none 0 0, by rw [HE.out], by rw [HP.out]; exact qis0 _, ?_, by rw [HP.out]; exact qnew0 _⟩
        refine Below.onto ?_ (Below.onto (below_new _ _) (below_new _ _))
        exact ((Below.onto B3.out HB4.out).setCell HL2.out _).setCell HL2.out _
      · have hmx1 : (x.ep == 1099511627776) = false := by simpa [mxC] using hmx
        have hmx2 : x.ep < 1099511627776 := by have : x.ep ≠ 1099511627776 := hmx; omega
        have HE : Hid (Q.rsE (j : Int) = 0) := by show _ = _; rw [HRE.out, if_neg hcl, if_neg hmx]
        have HP : Hid (Q.rsQ (j : Int) = ⟨Q.ls.set j (rstL x), Q.ms.filter fun m => !(m.ln == (j : Int))⟩) := by show _ = _; rw [HRQ.out, HE.out, if_pos rfl]
        have hcl0 : x.cl.length = 0 := by omega
        rw [hcl0] at c3
        clear hcl hmx hcl1 hcl0
        go_wp2_with fail
        clear K5 K6 S6 B46 HBW6 K3f
        obtain ⟨k5, k6, b6, s6⟩ := alloc2 w4 [.slice (some ⟨bl, ol, none⟩) Q.ls.length lc', .slice none 0 0] 25 [.int .i64 x.cr, .bool x.tw, .int .i64 x.lf, .slice ca 0 cc, .int .i64 x.nx, .int .i64 x.ep] 61
        have K5 : Hid (Blk _ _ _ _) := k5
        have K6 : Hid (Blk _ _ _ _) := k6
        have S6 : Hid (_ = _) := s6
        have B6 : Hid (Below w4.heap.size w4 _) := b6
        clear k5 k6 b6 s6
        generalize (w4.alloc (.cells #[.slice (some ⟨bl, ol, none⟩) Q.ls.length lc', .slice none 0 0] 25)).alloc (.cells #[.int .i64 x.cr, .bool x.tw, .int .i64 x.lf, .slice ca 0 cc, .int .i64 x.nx, .int .i64 x.ep] 61) = w6 at *
        clear hmx1
        go_loopw [9] (fun i wr => ∃ (k m : Nat) (va : Option Addr) (vc : Nat) (xs : List Value), k ≤ Q.ms.length ∧ i = .int .i64 k ∧ Hid (m = ((Q.ms.take k).filter fun m => !(m.ln == (j : Int))).length) ∧ Hid (wr.ownsRow (w4.heap.size + 1 + 1) 40 4 (.slice va m vc) m xs) ∧ Hid (∀ i, i < m → ∀ f, f < 4 → xs[i * 4 + f]? = some (encMs ((Q.ms.take k).filter fun m => !(m.ln == (j : Int))) i f)) ∧
            Hid (Blk wr w4.heap.size 25 [.slice (some ⟨bl, ol, none⟩) Q.ls.length lc', .slice va m vc]) ∧ Hid (Blk wr (w4.heap.size + 1) 61 [.int .i64 x.cr, .bool x.tw, .int .i64 x.lf, .slice ca 0 cc, .int .i64 x.nx, .int .i64 x.ep]) ∧ Hid (Below w4.heap.size w4 wr) ∧ Hid (w4.heap.size + 1 + 1 ≤ wr.heap.size)) (fun i _ => Q.ms.length - (intOf i).toNat)
        case atStart => exact ⟨0, 0, none, 0, [], Nat.zero_le _, rfl, by show 0 = _; simp, World.ownsRow_nil _ _ _ _, fun j hj => absurd hj (by omega), K5.out, K6.out, B6.out, by show _ ≤ _; rw [S6.out]; exact Nat.le_refl _⟩
        case round =>
          obtain ⟨k, m, va, vc, xs, hk, rfl, hml, hrow, hxs, hx5, hx6, hbw, hsz⟩ := hrel
          clear q0 q1 p0 p1 p2 c0 c1 c2 c3 c4 c5
          obtain ⟨q0, q1⟩ := (K1d.out.below hbw.out).bx.two
          obtain ⟨d0, d1⟩ := hx5.out.bx.two
          have d2 := hx5.out.fz
          by_cases hlt : k < Q.ms.length
          · obtain ⟨b, off, _, e0, c0, c1, c2, c3⟩ := (HQ.out.below (Below.onto (Below.onto B3.out HB4.out) hbw.out)).msg hlt
            cases e0
            obtain ⟨y, hy⟩ : ∃ y, y = atM Q.ms k := ⟨_, rfl⟩
            rw [← hy] at c0 c1 c2 c3
            have HY : Hid (y = atM Q.ms k) := hy
            have htk : Q.ms.take (k + 1) = Q.ms.take k ++ [y] := by rw [List.take_succ_eq_append_getElem hlt, hy, atM_eq hlt]
            have HTK : Hid (_ = _) := htk
            clear hy htk
            by_cases hln : y.ln = (j : Int)
            · have hln1 : (y.ln == (j : Int)) = true := by simp [hln]
              have HF : Hid (((Q.ms.take (k + 1)).filter fun m => !(m.ln == (j : Int))) = ((Q.ms.take k).filter fun m => !(m.ln == (j : Int)))) := by show _ = _; rw [HTK.out, List.filter_append]; simp [hln]
              clear hln
              go_wp2_with fail
              exact ⟨⟨k + 1, m, va, vc, xs, by omega, by go_num, by show _ = _; rw [HF.out]; exact hml.out, hrow.out, (by show ∀ _, _; rw [HF.out]; exact hxs.out), hx5.out, hx6.out, hbw.out, hsz.out⟩, by simp [intOf]; omega⟩
            · have hln1 : (y.ln == (j : Int)) = false := by simp [hln]
              have HF : Hid (((Q.ms.take (k + 1)).filter fun m => !(m.ln == (j : Int))) = ((Q.ms.take k).filter fun m => !(m.ln == (j : Int))) ++ [y]) := by show _ = _; rw [HTK.out, List.filter_append]; simp [hln]
              clear hln
              have bd : Below wr.heap.size wr (wr.drew.alloc (.cells #[.int .i64 y.ln, .int .i64 y.ep, .int .i64 y.n, .int .u64 y.pay] 40)) := Below.onto ((Below.refl _ _).drew) (below_new _ _)
              have hown : World.ownsRow (wr.drew.alloc (.cells #[.int .i64 y.ln, .int .i64 y.ep, .int .i64 y.n, .int .u64 y.pay] 40)) (w4.heap.size + 1 + 1) _ _ _ _ _ := own_below hrow.out bd
              have hy : Bx (wr.drew.alloc (.cells #[.int .i64 y.ln, .int .i64 y.ep, .int .i64 y.n, .int .u64 y.pay] 40)) wr.heap.size _ := bx_at wr.drew wr.heap.size (by simp) [.int .i64 y.ln, .int .i64 y.ep, .int .i64 y.n, .int .u64 y.pay] 40
              have hsl : Sl (wr.drew.alloc (.cells #[.int .i64 y.ln, .int .i64 y.ep, .int .i64 y.n, .int .u64 y.pay] 40)) 4 1 (fun _ => encM y) (.slice (some ⟨wr.heap.size, 0, none⟩) 1 1) := ⟨_, _, rfl, Nat.le_refl _, (fun e => by cases e), fun i hi => ⟨wr.heap.size, 0, rfl, fun f hf => by
                obtain rfl : i = 0 := by omega
                rw [Nat.zero_mul, Nat.zero_add]
                exact hy f _ (enc4 f hf)⟩⟩
              have HSL : Hid (Sl _ _ _ _ _) := hsl
              have HOWN : Hid (World.ownsRow _ _ _ _ _ _ _) := hown
              have hbs : w4.heap.size + 1 + 1 ≤ (wr.drew.alloc (.cells #[.int .i64 y.ln, .int .i64 y.ep, .int .i64 y.n, .int .u64 y.pay] 40)).heap.size := Nat.le_trans hsz.out bd.size
              have HBS : Hid (_ ≤ _) := hbs
              have H1M : Hid (∀ i, i < 1 → ∀ f, f < 4 → (encM y f).oneCell' = true) := fun i _ f hf => by
                match f, hf with
                | 0, _ => rfl
                | 1, _ => rfl
                | 2, _ => rfl
                | 3, _ => rfl
              have HML : Hid (m ≤ 1000) := by
                show _ ≤ _
                have := hml.out
                have h2 := List.length_filter_le (fun m : PMs => !(m.ln == (j : Int))) (Q.ms.take k)
                simp at h2
                omega
              have hml1 : m + 1 ≤ 1000000 := by have := HML.out; omega
              have HGB : Hid (∀ w', World.grownBy (wr.drew.alloc (.cells #[.int .i64 y.ln, .int .i64 y.ep, .int .i64 y.n, .int .u64 y.pay] 40)) w' (Value.slice va m vc).ownBlock → Below (w4.heap.size + 1 + 1) wr w') := fun w' hg => (bd.mono hsz.out).trans (grown_below hg hbs fun g e => own_blk hrow.out g e)
              have l1 := hx5.out.lt
              have l2 := (K1d.out.below hbw.out).lt
              have l3 := cell_lt c0
              clear bd hown hy hsl hbs
              go_wp2_with fail
              go_region_law (refine step_app eltM rfl (.tmp 50) (.tmp 56) rfl (w4.heap.size + 1 + 1) (.slice va m vc) m 1 xs (fun _ => encM y) ⟨wr.heap.size, 0, none⟩ 1 rfl rfl HOWN.out HSL.out H1M.out hml1 HBS.out ?_; intro v' w' h1 h2; obtain ⟨va', vc', rfl⟩ := own_form2 h1; have hgb := HGB.out w' h2; have kd := hx5.out.upTo hgb (by omega); obtain ⟨u0, u1⟩ := kd.bx.two; have u2 := kd.fz)
              all_goals
                go_wp2_with fail
                go_round
                case measure => simp [intOf]; omega
                case rel =>
                  refine ⟨k + 1, m + 1, va', vc', xs ++ cellsL 1 4 (fun _ => encM y), by omega, by go_num, ?_, ?_, ?_, kd.set 1 _, (hx6.out.upTo hgb (by omega)).setO (by omega) _, (hbw.out.trans (hgb.mono (by omega))).setCell (Nat.le_refl _) _, ?_⟩
                  · show _ = _
                    rw [HF.out, List.length_append, ← hml.out]
                    rfl
                  · exact own_set h1 fun e => by have := own_blk h1 _ e; omega
                  · show ∀ _, _
                    rw [HF.out]
                    exact msg_snoc hml.out hrow.out.1 hxs.out
                  · show _ ≤ _
                    have h3 : (w'.setCell ⟨w4.heap.size, 1, none⟩ (.slice va' (m + 1) vc')).heap.size = w'.heap.size := by simp [World.setCell]
                    rw [h3]
                    exact Nat.le_trans hsz.out hgb.size
          · obtain rfl : k = Q.ms.length := by omega
            obtain ⟨ys, o1, o2⟩ := HOW.out.l
            have o7 := own_below o1 hbw.out
            have hbl3 : w3.heap.size ≤ bl := own_blk o1 bl rfl
            have hfr : ∀ i, wr.frozen? ⟨bl, i, none⟩ = false := fun i => by
              rcases o7.2 with ⟨e1, _⟩ | ⟨g, cap, cur, e1, _, h2, _⟩
              · cases e1
              · injection e1 with e1
                injection e1 with e1
                have e2 : bl = g := congrArg Addr.block e1
                rw [e2]
                exact frozen_of_row _ _ _ _ _ h2
            have HQ7 : Hid (QIs wr _ _ Q V') := HOW.out.qis.below hbw.out
            have l25 : wr.cell? ⟨bl, ol + j * 6 + 2, none⟩ = some (.int .i64 x.lf) ∧ wr.cell? ⟨bl, ol + j * 6 + 5, none⟩ = some (.int .i64 x.ep) := by
              obtain ⟨_, _, _, _, _, e1, _, _, _, l2, _, _, l5⟩ := HQ7.out.at hjn
              injection e1 with e1
              injection e1 with e1
              injection e1 with e2 e3
              rw [HXJ.out, ← e2, ← e3] at l2 l5
              exact ⟨l2, l5⟩
            obtain ⟨l2, l5⟩ := l25
            have HQ8 : Hid (QIs ((wr.setCell ⟨bl, ol + j * 6 + 2, none⟩ (.int .i64 x.cr)).setCell ⟨bl, ol + j * 6 + 5, none⟩ (.int .i64 (x.ep + 1))) (.slice (some ⟨bl, ol, none⟩) Q.ls.length lc') (.slice va m vc) ⟨Q.ls.set j (rstL x), Q.ms.filter fun m => !(m.ln == (j : Int))⟩ V') := by
              obtain ⟨_, _, e1, g1, _, hr⟩ := HQ7.out.l
              cases e1
              refine ⟨?_, fun i hi => ?_, ?_⟩
              · show Sl _ 6 (Q.ls.set j (rstL x)).length _ _
                rw [show (Q.ls.set j (rstL x)).length = Q.ls.length from by simp]
                refine ⟨_, _, rfl, g1, (fun e => by cases e), ((hr.put hjn (f := 2) (by omega) _).put hjn (f := 5) (by omega) _).congr fun i _ e he => ?_⟩
                rw [← HXJ.out]
                exact rst_cells hjn i e he
              · have hi' : i < Q.ls.length := by simpa using hi
                obtain ⟨ys, o3, o4⟩ := HOW.out.c i hi'
                show Cl _ (V' i) (atP (Q.ls.set j (rstL x)) i).cl
                have hcl : (atP (Q.ls.set j (rstL x)) i).cl = (atP Q.ls i).cl := by
                  rw [atP_set hjn]
                  by_cases e : i = j
                  · rw [if_pos e, e, HXJ.out]; rfl
                  · rw [if_neg e]
                rw [hcl]
                exact ((HQ7.out.c i hi').setO fun _ e => own_two o1 o3 (by decide) bl rfl e).setO fun _ e => own_two o1 o3 (by decide) bl rfl e
              · have hxx := hxs.out
                have hmm := hml.out
                rw [List.take_length] at hxx hmm
                show Sl _ 4 (Q.ms.filter fun m => !(m.ln == (j : Int))).length _ _
                rw [← hmm]
                exact ((sl_own hrow.out hxx).setO fun e => by have := own_blk hrow.out bl e; omega).setO fun e => by have := own_blk hrow.out bl e; omega
            have HNW2 : Hid (QNew w3.heap.size (.slice (some ⟨bl, ol, none⟩) Q.ls.length lc') (.slice va m vc) ⟨Q.ls.set j (rstL x), Q.ms.filter fun m => !(m.ln == (j : Int))⟩ V') := ⟨HOW.out.new.l, fun b e => by have := own_blk hrow.out b e; omega, fun i hi h0 b e => by
              have hi' : i < Q.ls.length := by simpa using hi
              obtain ⟨ys, o3, o4⟩ := HOW.out.c i hi'
              exact own_blk o3 b e⟩
            have K3g : Hid (Blk ((wr.setCell ⟨bl, ol + j * 6 + 2, none⟩ (.int .i64 x.cr)).setCell ⟨bl, ol + j * 6 + 5, none⟩ (.int .i64 (x.ep + 1))) C2 _ _) := ((K3d.out.below hbw.out).setO (by omega) _).setO (by omega) _
            have B8 : Hid (Below w.heap.size w ((wr.setCell ⟨bl, ol + j * 6 + 2, none⟩ (.int .i64 x.cr)).setCell ⟨bl, ol + j * 6 + 5, none⟩ (.int .i64 (x.ep + 1)))) := ((Below.onto (Below.onto B3.out HB4.out) hbw.out).setCell (show w.heap.size ≤ bl by omega) _).setCell (show w.heap.size ≤ bl by omega) _
            obtain ⟨y0, y1, y2, y3, y4, y5⟩ := hx6.out.bx.six
            obtain ⟨p0, p1⟩ := (K3d.out.below hbw.out).bx.two
            have p2 := (K3d.out.below hbw.out).fz
            have m1 : ¬ bl = w4.heap.size := by omega
            have m2 : ¬ bl = w4.heap.size + 1 := by omega
            have m4 : ¬ bl = C2 := by omega
            have m5 : ¬ C2 = w4.heap.size := by omega
            have f2 := hfr (ol + j * 6 + 2)
            have f5 := hfr (ol + j * 6 + 5)
            clear o1 o2 o7
            go_wp2_with fail
            obtain ⟨v0, v1⟩ := K3g.out.bx.two
            refine bodyPost_ret (v := .tuple #[quV (.slice (some ⟨bl, ol, none⟩) Q.ls.length lc') (.slice va m vc), .int .i64 0]) (by simp [results, Try.results23, go_sem, v0, v1]) rfl ⟨.slice (some ⟨bl, ol, none⟩) Q.ls.length lc', .slice va m vc, V', by rw [HE.out], by rw [HP.out]; exact (HQ8.out.setO HNW2.out HC2L.out).setO HNW2.out HC2L.out, ?_, by rw [HP.out]; exact HNW2.out.mono B3.out.size⟩
            exact (B8.out.setCell HL2.out _).setCell HL2.out _
  · have HE : Hid (Q.rsE ln = Q.nam ln) := by show _ = _; rw [Qu.rsE, if_neg hE]
    have HP : Hid (Q.rsQ ln = qu0) := by show _ = _; rw [Qu.rsQ, HE.out, if_neg hE]
    have hE1 : (Q.nam ln == 0) = false := by simp [hE]
    rw [HE.out, HP.out]
    clear hE HE HP
    generalize Q.nam ln = E at *
    go_enter Try.func23, Try.ntmps23
    go_wp2_with fail
    generalize (w.alloc (.cells #[.slice la Q.ls.length lc, .slice ma Q.ms.length mc] 25)).alloc (.cells #[.slice none 0 0, .slice none 0 0] 25) = w2 at *
    refine (hsk _ (HQ.out.below B2.out)).mono ?_
    rintro e w3 ⟨rfl, hb⟩
    obtain ⟨p0, p1⟩ := (K3.out.below hb).bx.two
    have p2 := (K3.out.below hb).fz
    have B3 : Hid (Below w.heap.size w w3) := Below.onto B2.out hb
    clear hb
    go_wp2_with fail
    refine bodyPost_ret (v := .tuple #[quV (.slice none 0 0) (.slice none 0 0), .int .i64 E]) (by simp [results, Try.results23, go_sem, p0, p1]) rfl ⟨_, _, fun _ => .slice none 0 0, rfl, qis0 _, ?_, qnew0 _⟩
    exact (B3.out.setCell (Nat.le_succ _) _).setCell (Nat.le_succ _) _

end Go.Proofs.Ytimmjhegeagofab
