/- The document's own. -/
import Derived.Test.YtimmjhegeagofabURefO
namespace Go.Proofs.Ytimmjhegeagofab
open Go.RowKit
set_option maxRecDepth 100000

set_option maxHeartbeats 4000000 in
theorem rown_any (vl vm : Value) (Q : Qu) (V : Nat → Value) (w : World) (ho : OkQ Q) (hq : QIs w vl vm Q V) : Calls Try.prog 48 #[quV vl vm] w fun e w' =>
    ∃ ul um V', e = .returned (quV ul um) ∧ Owned w' w.heap.size ul um Q V' ∧ Below w.heap.size w w' := by
  have HQ : Hid (QIs w vl vm Q V) := hq
  have HO : Hid (OkQ Q) := ho
  have hn := ho.nl
  have hm := ho.nm
  obtain ⟨la, lc, rfl, _, _, hlr⟩ := hq.l
  obtain ⟨ma, mc, rfl, _, _, hmr⟩ := hq.m
  obtain ⟨k1, k2, b2, s2⟩ := alloc2 w [.slice la Q.ls.length lc, .slice ma Q.ms.length mc] 25 [.slice none 0 0, .slice none 0 0] 25
  have K1 : Hid (Blk _ _ _ _) := k1
  have K2 : Hid (Blk _ _ _ _) := k2
  have B2 : Hid (Below _ _ _) := b2
  have S2 : Hid (_ = _) := s2
  have b3 := below_new ((w.alloc (.cells #[.slice la Q.ls.length lc, .slice ma Q.ms.length mc] 25)).alloc (.cells #[.slice none 0 0, .slice none 0 0] 25)) (.cells #[] 40)
  have hown := gown_0 ((w.alloc (.cells #[.slice la Q.ls.length lc, .slice ma Q.ms.length mc] 25)).alloc (.cells #[.slice none 0 0, .slice none 0 0] 25)) ((w.alloc (.cells #[.slice la Q.ls.length lc, .slice ma Q.ms.length mc] 25)).alloc (.cells #[.slice none 0 0, .slice none 0 0] 25)).heap.size 40 4 (Nat.le_refl _)
  have hsl := (HQ.out.below (Below.onto b2 b3)).m
  have B3 : Hid (Below _ _ _) := b3
  have hbs : ((w.alloc (.cells #[.slice la Q.ls.length lc, .slice ma Q.ms.length mc] 25)).alloc (.cells #[.slice none 0 0, .slice none 0 0] 25)).heap.size ≤ (((w.alloc (.cells #[.slice la Q.ls.length lc, .slice ma Q.ms.length mc] 25)).alloc (.cells #[.slice none 0 0, .slice none 0 0] 25)).alloc (.cells #[] 40)).heap.size := b3.size
  rw [s2] at hown
  clear hlr hmr hq ho k1 k2 b2 b3 s2
  go_enter Try.func48, Try.ntmps48
  go_wp2_with (at_builtin; refine wpList_app eltM rfl (.tmp 6) (.tmp 8) rfl (w.heap.size + 1 + 1) (.slice (some ⟨w.heap.size + 1 + 1, 0, none⟩) 0 0) _ 0 Q.ms.length [] (encMs Q.ms) rfl rfl hown hsl (one_encM Q.ms) (by omega) (by rw [S2.out] at hbs; exact hbs) ?_; intro v4 w4 h4 hg4; obtain ⟨va, vc, rfl⟩ := own_form2 h4)
  rw [Nat.zero_add, List.nil_append] at h4
  have hgb : Below (w.heap.size + 1 + 1) (((w.alloc (.cells #[.slice la Q.ls.length lc, .slice ma Q.ms.length mc] 25)).alloc (.cells #[.slice none 0 0, .slice none 0 0] 25)).alloc (.cells #[] 40)) w4 := grown_below hg4 (by rw [S2.out] at hbs; exact hbs) fun g e => by (have e : w.heap.size + 1 + 1 = g := by simpa [Value.ownBlock] using e); omega
  have HM4 : Hid (w4.ownsRow (w.heap.size + 1 + 1) 40 4 (.slice va Q.ms.length vc) Q.ms.length (cellsL Q.ms.length 4 (encMs Q.ms))) := h4
  have B4 : Hid (Below w.heap.size w w4) := (Below.onto B2.out B3.out).trans (hgb.mono (by omega))
  have K1b : Hid (Blk w4 w.heap.size _ _) := (K1.out.below B3.out).upTo hgb (by omega)
  have K2b : Hid (Blk w4 (w.heap.size + 1) _ _) := (K2.out.below B3.out).upTo hgb (by omega)
  obtain ⟨k5, b5, s5⟩ := alloc1 w4 [.slice none 0 0, .slice va Q.ms.length vc] 25
  have K5 : Hid (Blk _ _ _ _) := k5
  have B5 : Hid (Below _ _ _) := b5
  have S5 : Hid (_ = _) := s5
  have HSZ : Hid (w.heap.size + 1 + 1 ≤ w4.heap.size) := by
    show _ ≤ _
    have h1 := hgb.size
    have h2 := B3.out.size
    have h3 := S2.out
    omega
  clear h4 hg4 hgb hown hsl hbs k5 b5 s5 K1 K2 B2 B3 S2
  generalize w4.alloc (.cells #[.slice none 0 0, .slice va Q.ms.length vc] 25) = w5 at *
  have K1c : Hid (Blk w5 w.heap.size _ _) := K1b.out.below B5.out
  have K2c : Hid (Blk w5 (w.heap.size + 1) _ _) := K2b.out.below B5.out
  have HM5 : Hid (w5.ownsRow (w.heap.size + 1 + 1) _ _ _ _ _) := own_below HM4.out B5.out
  have HB5 : Hid (Below w.heap.size w w5) := Below.onto B4.out B5.out
  have HGL : Hid (∀ b, (Value.slice va Q.ms.length vc).ownBlock = some b → w.heap.size + 1 + 1 ≤ b ∧ b < w4.heap.size) := fun b e => by
    refine ⟨own_blk HM4.out b e, ?_⟩
    rcases HM4.out.2 with ⟨e1, _⟩ | ⟨g, cap, cur, e1, _, h2, _⟩
    · rw [e1] at e; cases e
    · rw [e1] at e; cases e; exact (Array.getElem?_eq_some_iff.1 h2).1
  have HC : Hid (w.heap.size < w.heap.size + 1 ∧ w.heap.size + 1 < w.heap.size + 1 + 1) := ⟨by omega, by omega⟩
  generalize w.heap.size + 1 + 1 = g0 at *
  generalize w.heap.size + 1 = C1 at *
  generalize w4.heap.size = D at *
  go_loopw [4] (fun i wr => ∃ (k : Nat) (V' : Nat → Value) (al : Option Addr) (cl : Nat) (xs : List Value), k ≤ Q.ls.length ∧ i = .int .i64 k ∧ Hid (wr.ownsRow (D + 1) 61 6 (.slice al k cl) k xs) ∧ Hid (Blk wr D 25 [.slice al k cl, .slice va Q.ms.length vc]) ∧
      Hid (∀ j, j < k → ∀ f, f < 6 → xs[j * 6 + f]? = some (encLs Q.ls V' j f)) ∧ Hid (∀ j, j < k → ∃ ys, wr.ownsRow (D + 1) 3 1 (V' j) (atP Q.ls j).cl.length ys ∧ ∀ i, i < (atP Q.ls j).cl.length → ys[i]? = some (.int .i64 (atI (atP Q.ls j).cl i))) ∧ Hid (∀ i j, i < j → j < k → ∀ b, (V' i).ownBlock = some b → (V' j).ownBlock ≠ some b) ∧
      Hid (wr.ownsRow g0 40 4 (.slice va Q.ms.length vc) Q.ms.length (cellsL Q.ms.length 4 (encMs Q.ms))) ∧ Hid (Blk wr w.heap.size 25 [.slice la Q.ls.length lc, .slice ma Q.ms.length mc]) ∧ Hid (Blk wr C1 25 [.slice none 0 0, .slice none 0 0]) ∧ Hid (Below w.heap.size w wr) ∧ Hid (D + 1 ≤ wr.heap.size)) (fun i _ => Q.ls.length - (intOf i).toNat)
  case atStart => exact ⟨0, V, none, 0, [], Nat.zero_le _, rfl, World.ownsRow_nil _ _ _ _, K5.out, fun j hj => absurd hj (by omega), fun j hj => absurd hj (by omega), fun i j _ hj => absurd hj (by omega), HM5.out, K1c.out, K2c.out, HB5.out, by show _ ≤ _; rw [S5.out]; exact Nat.le_refl _⟩
  case round =>
    obtain ⟨k, V', al, cl, xs, hk, rfl, hlan, hbx, hxs, hcls, hdis, hmsg, hq1, hq2, hbw, hsz⟩ := hrel
    obtain ⟨q0, q1⟩ := hq1.out.bx.two
    obtain ⟨d0, d1⟩ := hbx.out.bx.two
    by_cases hlt : k < Q.ls.length
    · obtain ⟨bl, ol, _, ca, cc, e0, hV, a0, a1, a2, a3, a4, a5⟩ := (HQ.out.below hbw.out).at hlt
      cases e0
      have HCL := (HQ.out.below hbw.out).c k hlt
      rw [hV] at HCL
      have HCL : Hid (Cl wr _ _) := HCL
      have hnc := HO.out.nc k hlt
      obtain ⟨x, hx⟩ : ∃ x, x = atP Q.ls k := ⟨_, rfl⟩
      rw [← hx] at a0 a1 a2 a3 a4 a5 HCL hnc
      have HX : Hid (x = atP Q.ls k) := hx
      obtain ⟨k6, b6, s6⟩ := alloc1 wr [.int .i64 x.cr, .bool x.tw, .int .i64 x.lf, .slice ca x.cl.length cc, .int .i64 x.nx, .int .i64 x.ep] 61
      have b7 := below_new (wr.alloc (.cells #[.int .i64 x.cr, .bool x.tw, .int .i64 x.lf, .slice ca x.cl.length cc, .int .i64 x.nx, .int .i64 x.ep] 61)) (.cells #[] 3)
      have hown := gown_0 (wr.alloc (.cells #[.int .i64 x.cr, .bool x.tw, .int .i64 x.lf, .slice ca x.cl.length cc, .int .i64 x.nx, .int .i64 x.ep] 61)) (wr.heap.size + 1) 3 1 (Nat.le_of_eq s6.symm)
      have hsl : Sl _ 1 _ _ _ := (HCL.out.below b6).below b7
      have hb7 : wr.heap.size + 1 ≤ ((wr.alloc (.cells #[.int .i64 x.cr, .bool x.tw, .int .i64 x.lf, .slice ca x.cl.length cc, .int .i64 x.nx, .int .i64 x.ep] 61)).alloc (.cells #[] 3)).heap.size := Nat.le_trans (Nat.le_of_eq s6.symm) b7.size
      have B67 : Hid (Below wr.heap.size wr _) := Below.onto b6 b7
      have K6 : Hid (Blk ((wr.alloc (.cells #[.int .i64 x.cr, .bool x.tw, .int .i64 x.lf, .slice ca x.cl.length cc, .int .i64 x.nx, .int .i64 x.ep] 61)).alloc (.cells #[] 3)) wr.heap.size _ _) := k6.below b7
      rw [s6] at hown
      have S6 : Hid (wr.heap.size + 1 = wr.heap.size + 1) := rfl
      have S6' : Hid (_ = _) := s6
      have hz1 : w.heap.size < wr.heap.size := hq1.out.lt
      have hzD : D < wr.heap.size := by have := hsz.out; omega
      have HF8 : Hid (∀ w8, ((wr.alloc (.cells #[.int .i64 x.cr, .bool x.tw, .int .i64 x.lf, .slice ca x.cl.length cc, .int .i64 x.nx, .int .i64 x.ep] 61)).alloc (.cells #[] 3)).grownBy w8 (Value.slice (some ⟨wr.heap.size + 1, 0, none⟩) 0 0).ownBlock → Blk w8 wr.heap.size 61 [.int .i64 x.cr, .bool x.tw, .int .i64 x.lf, .slice ca x.cl.length cc, .int .i64 x.nx, .int .i64 x.ep] ∧ Blk w8 D 25 [.slice al k cl, .slice va Q.ms.length vc] ∧ Below wr.heap.size wr w8) := fun w8 hg8 => by
        have hgb : Below (wr.heap.size + 1) ((wr.alloc (.cells #[.int .i64 x.cr, .bool x.tw, .int .i64 x.lf, .slice ca x.cl.length cc, .int .i64 x.nx, .int .i64 x.ep] 61)).alloc (.cells #[] 3)) w8 := grown_below hg8 (by rw [hs_alloc, hs_alloc]; omega) fun g e => by
          have e : wr.heap.size + 1 = g := by simpa [Value.ownBlock] using e
          omega
        have hB : Below wr.heap.size wr w8 := B67.out.trans (hgb.mono (by omega))
        exact ⟨K6.out.upTo hgb (by omega), hbx.out.below hB, hB⟩
      have HL9 : Hid (∀ w8 u, Below wr.heap.size wr w8 → World.ownsRow (World.setCell w8 ⟨wr.heap.size, 3, none⟩ u) (D + 1) 61 6 (.slice al k cl) k xs) := fun w8 u hB => own_set (own_below hlan.out hB) fun e => by
        rcases hlan.out.2 with ⟨e1, _⟩ | ⟨g, cap, cur, e1, _, h2, _⟩
        · rw [e1] at e; cases e
        · rw [e1] at e
          have e : g = wr.heap.size := by simpa [Value.ownBlock] using e
          have hlt := (Array.getElem?_eq_some_iff.1 h2).1
          omega
      have HS10 : Hid (∀ (w9 : World) ua uc, Sl (w9.alloc (.cells #[.int .i64 x.cr, .bool x.tw, .int .i64 x.lf, .slice ua x.cl.length uc, .int .i64 x.nx, .int .i64 x.ep] 61)) 6 1 (fun _ => encP x (.slice ua x.cl.length uc)) (.slice (some ⟨w9.heap.size, 0, none⟩) 1 1)) := fun w9 ua uc => ⟨_, _, rfl, Nat.le_refl _, (fun e => by cases e), fun j hj => ⟨w9.heap.size, 0, rfl, fun f hf => by
        obtain rfl : j = 0 := by omega
        have h := bx_new w9 [.int .i64 x.cr, .bool x.tw, .int .i64 x.lf, .slice ua x.cl.length uc, .int .i64 x.nx, .int .i64 x.ep] 61
        match f, hf with
        | 0, _ => exact h 0 _ rfl
        | 1, _ => exact h 1 _ rfl
        | 2, _ => exact h 2 _ rfl
        | 3, _ => exact h 3 _ rfl
        | 4, _ => exact h 4 _ rfl
        | 5, _ => exact h 5 _ rfl⟩⟩
      have H1P : Hid (∀ ua uc, ∀ j, j < 1 → ∀ f, f < 6 → (encP x (.slice ua x.cl.length uc) f).oneCell' = true) := fun ua uc j _ f hf => by
        match f, hf with
        | 0, _ => rfl
        | 1, _ => rfl
        | 2, _ => rfl
        | 3, _ => rfl
        | 4, _ => rfl
        | 5, _ => rfl
      have HLB : Hid (∀ b, (Value.slice al k cl).ownBlock = some b → D + 1 ≤ b) := fun b e => own_blk hlan.out b e
      have hkk : k + 1 ≤ 1000000 := by omega
      have HZ10 : Hid (∀ w8 u o, Below wr.heap.size wr w8 → D + 1 ≤ ((World.setCell w8 ⟨wr.heap.size, 3, none⟩ u).alloc o).heap.size) := fun w8 u o hB => by
        have h1 := hB.size
        have h2 := hsz.out
        have h3 : (World.setCell w8 ⟨wr.heap.size, 3, none⟩ u).heap.size = w8.heap.size := by simp [World.setCell]
        rw [hs_alloc, h3]
        omega
      have HK11 : Hid (∀ w8 u o w11, Below wr.heap.size wr w8 → Blk w8 D 25 [.slice al k cl, .slice va Q.ms.length vc] → World.grownBy ((World.setCell w8 ⟨wr.heap.size, 3, none⟩ u).alloc o) w11 (Value.slice al k cl).ownBlock → Blk w11 D 25 [.slice al k cl, .slice va Q.ms.length vc]) := fun w8 u o w11 hB hk hg =>
        ((hk.setO (show D ≠ wr.heap.size by omega) u).below (below_new _ _)).upTo (grown_below hg (HZ10.out w8 u o hB) fun g e => HLB.out g e) (Nat.lt_succ_self D)
      have nD : ¬ wr.heap.size = D := by omega
      clear hV hx k6 b6 b7 s6
      go_wp2_with (first
        | (at_builtin; refine wpList_app eltI rfl (.tmp 23) (.tmp 25) rfl (wr.heap.size + 1) (.slice (some ⟨wr.heap.size + 1, 0, none⟩) 0 0) _ 0 x.cl.length [] (encI x.cl) rfl rfl hown hsl (one_encI x.cl) (by omega) hb7 ?_; intro v8 w8 h8 hg8; obtain ⟨ua, uc, rfl⟩ := own_form2 h8; obtain ⟨k8, kd8, b8⟩ := HF8.out w8 hg8; obtain ⟨y0, y1, y2, y3, y4, y5⟩ := k8.bx.six; have y6 := k8.fz; obtain ⟨dd0, dd1⟩ := kd8.bx.two)
        | (at_builtin; refine wpList_app eltP rfl (.tmp 29) (.tmp 31) rfl (D + 1) (.slice al k cl) (.slice (some ⟨w8.heap.size, 0, none⟩) 1 1) k 1 xs (fun _ => encP x (.slice ua x.cl.length uc)) rfl rfl (own_below (HL9.out w8 _ b8) (below_new _ _)) (by have h := HS10.out (w8.setCell ⟨wr.heap.size, 3, none⟩ (.slice ua x.cl.length uc)) ua uc; simp only [World.setCell, Array.size_modify] at h ⊢; exact h) (H1P.out ua uc) hkk (HZ10.out w8 _ _ b8) ?_; intro v11 w11 h11 hg11; obtain ⟨al', cl', rfl⟩ := own_form2 h11; have kd11 := HK11.out w8 _ _ w11 b8 kd8 hg11; obtain ⟨z0, z1⟩ := kd11.bx.two; have z2 := kd11.fz))
      have h8' : w8.ownsRow (wr.heap.size + 1) 3 1 (.slice ua x.cl.length uc) x.cl.length (cellsL x.cl.length 1 (encI x.cl)) := by simpa using h8
      have hE : wr.heap.size < w8.heap.size := k8.lt
      have hW9 : (w8.setCell ⟨wr.heap.size, 3, none⟩ (.slice ua x.cl.length uc)).heap.size = w8.heap.size := by simp [World.setCell]
      have hL10 := own_below (HL9.out w8 (.slice ua x.cl.length uc) b8) (below_new _ (.cells #[.int .i64 x.cr, .bool x.tw, .int .i64 x.lf, .slice ua x.cl.length uc, .int .i64 x.nx, .int .i64 x.ep] 61))
      have hB11 : Below (D + 1) _ w11 := grown_below hg11 (HZ10.out w8 _ _ b8) fun g e => HLB.out g e
      have key : ∀ b, b < D → (w11.setCell ⟨D, 0, none⟩ (.slice al' (k + 1) cl')).heap[b]? = wr.heap[b]? := fun b hb => by
        rw [Below.heap_setCell _ _ _ _ (show b ≠ D by omega), hB11.block b (by omega), (below_new _ _).block b (by rw [hW9]; omega), Below.heap_setCell _ _ _ _ (show b ≠ wr.heap.size by omega)]
        exact b8.block b (by omega)
      have carry : ∀ (v : Value) (m : Nat) (ys : List Value), (w8.setCell ⟨wr.heap.size, 3, none⟩ (.slice ua x.cl.length uc)).ownsRow (D + 1) 3 1 v m ys → (w11.setCell ⟨D, 0, none⟩ (.slice al' (k + 1) cl')).ownsRow (D + 1) 3 1 v m ys := fun v m ys h9 => by
        have h10 := own_below h9 (below_new _ (.cells #[.int .i64 x.cr, .bool x.tw, .int .i64 x.lf, .slice ua x.cl.length uc, .int .i64 x.nx, .int .i64 x.ep] 61))
        have h11c : w11.ownsRow (D + 1) 3 1 v m ys := own_same h10 fun b e => hg11.block b (own_lt h10 e) (fun e2 => own_two hL10 h10 (by decide) b e2.symm e)
        exact own_set h11c fun e => by have := own_blk h11c D e; omega
      have hc12 := HC.out
      have hszz := HSZ.out
      refine ⟨⟨k + 1, updV V' k (.slice ua x.cl.length uc), al', cl', xs ++ cellsL 1 6 (fun _ => encP x (.slice ua x.cl.length uc)), by omega, by go_num, ?_, ?_, ?_, ?_, ?_, ?_, ?_, ?_, ?_, ?_⟩, by simp [intOf]; omega⟩
      · exact own_set h11 fun e => by have := own_blk h11 D e; omega
      · exact kd11.set 0 _
      · intro j hj f hf
        have hxl := hlan.out.1
        by_cases ej : j = k
        · subst ej
          rw [List.getElem?_append_right (by omega), hxl, Nat.add_sub_cancel_left]
          have := cellsL_at (n := 1) (s := 6) (c := fun _ => encP x (.slice ua x.cl.length uc)) (j := 0) (f := f) (by omega) hf
          rw [Nat.zero_mul, Nat.zero_add] at this
          rw [this]
          unfold encLs updV
          rw [if_pos rfl, ← HX.out]
        · rw [List.getElem?_append_left (by rw [hxl]; exact mul_lt_of (by omega) hf), hxs.out j (by omega) f hf]
          unfold encLs updV
          rw [if_neg ej]
      · intro j hj
        unfold updV
        by_cases ej : j = k
        · rw [if_pos ej, ej, ← HX.out]
          refine ⟨_, carry _ _ _ (own_mono (own_set h8' (own_ne_blk h8' k8 (by decide))) (by omega)), fun i hi => ?_⟩
          have := cellsL_at (n := x.cl.length) (s := 1) (c := encI x.cl) (j := i) (f := 0) hi (by omega)
          rwa [Nat.mul_one, Nat.add_zero] at this
        · rw [if_neg ej]
          obtain ⟨ys, h1, h2⟩ := hcls.out j (by omega)
          exact ⟨ys, carry _ _ _ (own_set (own_below h1 b8) fun e => by have := own_lt h1 e; omega), h2⟩
      · intro i j hij hj b e1 e2
        unfold updV at e1 e2
        rw [if_neg (by omega)] at e1
        by_cases ej : j = k
        · rw [if_pos ej] at e2
          obtain ⟨ys, h1, h2⟩ := hcls.out i (by omega)
          have l1 := own_lt h1 e1
          have l2 := own_blk h8' b e2
          omega
        · rw [if_neg ej] at e2
          exact hdis.out i j hij (by omega) b e1 e2
      · exact own_same hmsg.out fun b e => key b (HGL.out b e).2
      · exact hq1.out.same (key _ (by omega))
      · exact hq2.out.same (key _ (by omega))
      · have h1 := Below.onto hbw.out b8
        have h2 := (h1.setCell (p := ⟨wr.heap.size, 3, none⟩) (Nat.le_of_lt hz1) (.slice ua x.cl.length uc))
        have h3 := Below.onto h2 (below_new _ (.cells #[.int .i64 x.cr, .bool x.tw, .int .i64 x.lf, .slice ua x.cl.length uc, .int .i64 x.nx, .int .i64 x.ep] 61))
        exact (h3.trans (hB11.mono (by omega))).setCell (show w.heap.size ≤ D by omega) _
      · have h1 := HZ10.out w8 (.slice ua x.cl.length uc) (.cells #[.int .i64 x.cr, .bool x.tw, .int .i64 x.lf, .slice ua x.cl.length uc, .int .i64 x.nx, .int .i64 x.ep] 61) b8
        have h2 := hB11.size
        have h3 : (w11.setCell ⟨D, 0, none⟩ (.slice al' (k + 1) cl')).heap.size = w11.heap.size := by simp [World.setCell]
        show _ ≤ _
        rw [h3]
        omega
    · obtain rfl : k = Q.ls.length := by omega
      obtain ⟨f0, f1⟩ := hq2.out.bx.two
      have f2 := hq2.out.fz
      have hc12 := HC.out
      have hszz := HSZ.out
      have nD : ¬ D = C1 := by omega
      go_wp2_with fail
      refine bodyPost_ret (v := quV (.slice al Q.ls.length cl) (.slice va Q.ms.length vc)) (by simp [results, Try.results48, go_sem, f0, f1]) rfl ⟨_, _, V', rfl, ⟨⟨xs, ?_, hxs.out⟩, fun j hj => ?_, ⟨_, ?_, fun j hj f hf => cellsL_at hj hf⟩, hdis.out⟩, ?_⟩
      · exact own_mono (own_set (own_set hlan.out fun e => by have := own_blk hlan.out C1 e; omega) fun e => by have := own_blk hlan.out C1 e; omega) (by omega)
      · obtain ⟨ys, h1, h2⟩ := hcls.out j hj
        exact ⟨ys, own_mono (own_set (own_set h1 fun e => by have := own_blk h1 C1 e; omega) fun e => by have := own_blk h1 C1 e; omega) (by omega), h2⟩
      · exact own_mono (own_set (own_set hmsg.out fun e => by have := own_blk hmsg.out C1 e; omega) fun e => by have := own_blk hmsg.out C1 e; omega) (by omega)
      · exact (hbw.out.setCell (show w.heap.size ≤ C1 by omega) _).setCell (show w.heap.size ≤ C1 by omega) _

end Go.Proofs.Ytimmjhegeagofab
