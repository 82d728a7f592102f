/- The law QueueForms: a row of calls. -/
import Derived.Test.YtimmjhegeagofaaUTakes
import Derived.Test.YtimmjhegeagofaaUSame
import Derived.Test.YtimmjhegeagofaaURefN
import Derived.Deep.RegionHeld3
namespace Go.Proofs.Ytimmjhegeagofaa
open Go.RowKit
set_option maxRecDepth 100000

theorem same_own (va vb : Value) (A : Qu) (V : Nat → Value) (w : World) (hoa : OkQ A) (ha : QIs w va vb A V) : Calls Try.prog 33 #[quV va vb, quV va vb] w fun e w' => e = .returned (.bool true) ∧ Below w.heap.size w w' := by
  have := same_any va vb va vb A A V V w hoa ha ha
  rwa [eqQ_refl] at this
theorem newQ_okq (cs : List Int) (tw : List Bool) (hn : cs.length ≤ 18) : OkQ (newQ cs tw) := by
  unfold newQ
  split
  case isTrue h =>
    have hll : cs.length = tw.length := by
      by_cases hll : cs.length = tw.length
      · exact hll
      · rw [newE, if_neg hll] at h; cases h
    have hL := rnl_len hll
    refine ⟨by show (newL cs tw).length ≤ 1000; omega, by show ([] : List PMs).length ≤ 1000; simp, fun j hj => ?_⟩
    have hj' : j < cs.length := by have : j < (newL cs tw).length := hj; omega
    show (atP (newL cs tw) j).cl.length ≤ 1000
    rw [rnl_at hll hj']
    simp
  case isFalse => exact okq0
theorem four_sets {w4 : World} {C b : Nat} {u0 u1 u2 u3 : Value} (hb : C + 1 + 1 ≤ b) : (World.heap ((((w4.setCell ⟨C, 0, none⟩ u0).setCell ⟨C, 1, none⟩ u1).setCell ⟨C + 1, 0, none⟩ u2).setCell ⟨C + 1, 1, none⟩ u3))[b]? = w4.heap[b]? := by
  rw [Below.heap_setCell _ _ _ _ (show b ≠ C + 1 by omega), Below.heap_setCell _ _ _ _ (show b ≠ C + 1 by omega), Below.heap_setCell _ _ _ _ (show b ≠ C by omega), Below.heap_setCell _ _ _ _ (show b ≠ C by omega)]
/-- two boxes, behind light -/
theorem light_two {w F w4 : World} {vl vm ul um : Value} {Q : Qu} {V V' : Nat → Value} {B : Nat} (hq : QIs w vl vm Q V) (hF : Below w.heap.size w F) (h1 : Sl w4 6 (liQ Q).ls.length (encLs (liQ Q).ls V') ul) (h2 : ∀ b, ul.ownBlock = some b → B ≤ b) (h3 : ∀ W0, QIs W0 vl vm Q V → Cls W0 V' (liQ Q).ls ∧ Sl W0 4 (liQ Q).ms.length (encMs (liQ Q).ms) um)
    (hk : ∀ b, B ≤ b → F.heap[b]? = w4.heap[b]?) : QIs F ul um (liQ Q) V' := by
  obtain ⟨h5, h6⟩ := h3 w hq
  exact ⟨h1.same fun b e => hk b (h2 b e), h5.below hF, h6.below hF⟩
set_option maxHeartbeats 8000000 in
theorem uforms (vc vt vl vm pl pm : Value) (cs : List Int) (tw : List Bool) (Q P : Qu) (V U : Nat → Value) (w : World) (hc : Cl w vc cs) (ht : Sl w 1 tw.length (encB tw) vt) (hq : QIs w vl vm Q V) (hl : Q.ls.length ≤ maxLen) (hm : Q.ms.length ≤ maxLen) (hp : QIs w pl pm P U) (hpl : P.ls.length ≤ maxLen) (hpm : P.ms.length ≤ maxLen) :
    Calls Try.prog 8 #[vc, vt, quV vl vm, quV pl pm] w fun e w' => e = .returned (.bool true) ∧ Below w.heap.size w w' := by
  have HQ0 : Hid (QIs w vl vm Q V) := hq
  have HP0 : Hid (QIs w pl pm P U) := hp
  have HC0 : Hid (Cl w vc cs) := hc
  have HT0 : Hid (Sl w 1 tw.length (encB tw) vt) := ht
  obtain ⟨la, lc, rfl, _⟩ := hq.l
  obtain ⟨ma, mc, rfl, _⟩ := hq.m
  obtain ⟨pa, pc, rfl, _⟩ := hp.l
  obtain ⟨pb, pd, rfl, _⟩ := hp.m
  obtain ⟨ca, cc, rfl, hcc, _⟩ := hc
  obtain ⟨ta, tc, rfl, htc, _⟩ := ht
  obtain ⟨k1, k2, b2, s2⟩ := alloc2 w [.slice la Q.ls.length lc, .slice ma Q.ms.length mc] 67 [.slice pa P.ls.length pc, .slice pb P.ms.length pd] 67
  have K1 : Hid (Blk _ _ _ _) := k1
  have K2 : Hid (Blk _ _ _ _) := k2
  have B2 : Hid (Below _ _ _) := b2
  have S2 : Hid (w.heap.size + 1 + 1 = ((w.alloc (.cells #[.slice la Q.ls.length lc, .slice ma Q.ms.length mc] 67)).alloc (.cells #[.slice pa P.ls.length pc, .slice pb P.ms.length pd] 67)).heap.size) := s2.symm
  clear k1 k2 b2 s2 hq hp
  go_enter Try.func8, Try.ntmps8
  go_wp2_with fail
  generalize (w.alloc (.cells #[.slice la Q.ls.length lc, .slice ma Q.ms.length mc] 67)).alloc (.cells #[.slice pa P.ls.length pc, .slice pb P.ms.length pd] 67) = w2 at *
  go_region
  have K1 : Hid (Blk w2.drew _ _ _) := K1.out.below (Below.refl _ _).drew
  have K2 : Hid (Blk w2.drew _ _ _) := K2.out.below (Below.refl _ _).drew
  have B2 : Hid (Below w.heap.size w w2.drew) := B2.out.drew
  have S2 : Hid (w.heap.size + 1 + 1 = w2.drew.heap.size) := by show _ = _; rw [S2.out]; simp
  generalize w2.drew = w2 at *
  obtain ⟨kc, hkc⟩ : ∃ k, k = (min (cs.length : Int) 18).toNat := ⟨_, rfl⟩
  obtain ⟨kt, hkt⟩ : ∃ k, k = (min (tw.length : Int) 18).toNat := ⟨_, rfl⟩
  have HC1 : Hid (Cl w (.slice ca kc cc) (cs.take 18)) := by
    have h := HC0.out.front (k := kc) (by omega)
    show Sl w 1 (cs.take 18).length _ _
    rw [show (cs.take 18).length = kc by rw [List.length_take]; omega]
    refine h.congr fun i hi f _ => ?_
    have : i < 18 := by omega
    unfold encI
    simp [atI, this]
  have HT1 : Hid (Sl w 1 (tw.take 18).length (encB (tw.take 18)) (.slice ta kt tc)) := by
    have h := HT0.out.front (k := kt) (by omega)
    show Sl w 1 (tw.take 18).length _ _
    rw [show (tw.take 18).length = kt by rw [List.length_take]; omega]
    refine h.congr fun i hi f _ => ?_
    have : i < 18 := by omega
    unfold encB
    simp [atB, this]
  have HNC : Hid ((cs.take 18).length ≤ 18) := by show _ ≤ _; rw [List.length_take]; omega
  rw [← hkc, ← hkt]
  generalize (min (cs.length : Int) 18) = mc1
  generalize (min (tw.length : Int) 18) = mt1
  clear hkc hkt HC0 HT0
  generalize cs.take 18 = cx at *
  generalize tw.take 18 = tx at *
  go_wp2_with fail
  have D2 : Hid (Below w2.heap.size w2 w2.drew) := (Below.refl _ _).drew
  have hlq := fun W (h : Below w2.heap.size w2 W) => light_any _ _ Q V W hl hm (HQ0.out.below (Below.onto B2.out h))
  have hlp := fun W (h : Below w2.heap.size w2 W) => light_any _ _ P U W hpl hpm (HP0.out.below (Below.onto B2.out h))
  obtain ⟨a0, a1⟩ := (K1.out.below D2.out).bx.two
  obtain ⟨b0, b1⟩ := (K2.out.below D2.out).bx.two
  go_region_with (first
    | (go_at_call 27; (with_reducible refine (hlq w2.drew D2.out).mono ?_); rintro e w3 ⟨ulq, umq, Vq, rfl, h1q, h2q, h3q, hbq⟩; obtain ⟨a0', a1'⟩ := ((K1.out.below D2.out).below hbq).bx.two; obtain ⟨b0', b1'⟩ := ((K2.out.below D2.out).below hbq).bx.two; have a2' := ((K1.out.below D2.out).below hbq).fz; have b2' := ((K2.out.below D2.out).below hbq).fz; obtain ⟨laq, lcq, rfl, _⟩ := id h1q; obtain ⟨maq, mcq, rfl, _⟩ := (h3q _ HQ0.out).2; have hb3 := hbq)
    | (go_at_call 27; (with_reducible refine (hlp w2.drew D2.out).mono ?_); rintro e w3 ⟨ulp, ump, Vp, rfl, h1p, h2p, h3p, hbp⟩; obtain ⟨a0', a1'⟩ := ((K1.out.below D2.out).below hbp).bx.two; obtain ⟨b0', b1'⟩ := ((K2.out.below D2.out).below hbp).bx.two; have a2' := ((K1.out.below D2.out).below hbp).fz; have b2' := ((K2.out.below D2.out).below hbp).fz; obtain ⟨lap, lcp, rfl, _⟩ := id h1p; obtain ⟨map, mcp, rfl, _⟩ := (h3p _ HP0.out).2; have hb3 := hbp)
    | (go_at_call 27; (with_reducible refine (hlp w3 (Below.onto D2.out hb3)).mono ?_); rintro e w4 ⟨ulp, ump, Vp, rfl, h1p, h2p, h3p, hbp⟩; obtain ⟨a0', a1'⟩ := ((K1.out.below (Below.onto D2.out hb3)).below hbp).bx.two; obtain ⟨b0', b1'⟩ := ((K2.out.below (Below.onto D2.out hb3)).below hbp).bx.two; have a2' := ((K1.out.below (Below.onto D2.out hb3)).below hbp).fz; have b2' := ((K2.out.below (Below.onto D2.out hb3)).below hbp).fz; obtain ⟨lap, lcp, rfl, _⟩ := id h1p; obtain ⟨map, mcp, rfl, _⟩ := (h3p _ HP0.out).2; have h1q := h1q.below hbp; have hb4 := hbp)
    | (go_at_call 27; (with_reducible refine (hlq w3 (Below.onto D2.out hb3)).mono ?_); rintro e w4 ⟨ulq, umq, Vq, rfl, h1q, h2q, h3q, hbq⟩; obtain ⟨a0', a1'⟩ := ((K1.out.below (Below.onto D2.out hb3)).below hbq).bx.two; obtain ⟨b0', b1'⟩ := ((K2.out.below (Below.onto D2.out hb3)).below hbq).bx.two; have a2' := ((K1.out.below (Below.onto D2.out hb3)).below hbq).fz; have b2' := ((K2.out.below (Below.onto D2.out hb3)).below hbq).fz; obtain ⟨laq, lcq, rfl, _⟩ := id h1q; obtain ⟨maq, mcq, rfl, _⟩ := (h3q _ HQ0.out).2; have h1p := h1p.below hbq; have hb4 := hbq))
  all_goals
    have hS2 := S2.out
    have hd2 := D2.out.size
    have hs3 := hb3.size
    have BW : Hid (Below w.heap.size w ((((w4.setCell ⟨w.heap.size, 0, none⟩ (.slice laq (liQ Q).ls.length lcq)).setCell ⟨w.heap.size, 1, none⟩ (.slice maq (liQ Q).ms.length mcq)).setCell ⟨w.heap.size + 1, 0, none⟩ (.slice lap (liQ P).ls.length lcp)).setCell ⟨w.heap.size + 1, 1, none⟩ (.slice map (liQ P).ms.length mcp))) := ((((Below.onto (Below.onto (Below.onto B2.out D2.out) hb3) hb4).setCell (Nat.le_refl _) _).setCell (Nat.le_refl _) _).setCell (Nat.le_succ _) _).setCell (Nat.le_succ _) _
    have hk : ∀ b, w.heap.size + 1 + 1 ≤ b → (World.heap ((((w4.setCell ⟨w.heap.size, 0, none⟩ (.slice laq (liQ Q).ls.length lcq)).setCell ⟨w.heap.size, 1, none⟩ (.slice maq (liQ Q).ms.length mcq)).setCell ⟨w.heap.size + 1, 0, none⟩ (.slice lap (liQ P).ls.length lcp)).setCell ⟨w.heap.size + 1, 1, none⟩ (.slice map (liQ P).ms.length mcp)))[b]? = w4.heap[b]? := fun b hb => four_sets hb
    have H1 : Hid (QIs ((((w4.setCell ⟨w.heap.size, 0, none⟩ (.slice laq (liQ Q).ls.length lcq)).setCell ⟨w.heap.size, 1, none⟩ (.slice maq (liQ Q).ms.length mcq)).setCell ⟨w.heap.size + 1, 0, none⟩ (.slice lap (liQ P).ls.length lcp)).setCell ⟨w.heap.size + 1, 1, none⟩ (.slice map (liQ P).ms.length mcp)) _ _ (liQ Q) Vq) := light_two (B := w.heap.size + 1 + 1) HQ0.out BW.out h1q (fun b e => by have := h2q b e; omega) h3q hk
    have H2 : Hid (QIs ((((w4.setCell ⟨w.heap.size, 0, none⟩ (.slice laq (liQ Q).ls.length lcq)).setCell ⟨w.heap.size, 1, none⟩ (.slice maq (liQ Q).ms.length mcq)).setCell ⟨w.heap.size + 1, 0, none⟩ (.slice lap (liQ P).ls.length lcp)).setCell ⟨w.heap.size + 1, 1, none⟩ (.slice map (liQ P).ms.length mcp)) _ _ (liQ P) Vp) := light_two (B := w.heap.size + 1 + 1) HP0.out BW.out h1p (fun b e => by have := h2p b e; omega) h3p hk
    have Q0 : Hid (Blk ((((w4.setCell ⟨w.heap.size, 0, none⟩ (.slice laq (liQ Q).ls.length lcq)).setCell ⟨w.heap.size, 1, none⟩ (.slice maq (liQ Q).ms.length mcq)).setCell ⟨w.heap.size + 1, 0, none⟩ (.slice lap (liQ P).ls.length lcp)).setCell ⟨w.heap.size + 1, 1, none⟩ (.slice map (liQ P).ms.length mcp)) w.heap.size 67 [.slice laq (liQ Q).ls.length lcq, .slice maq (liQ Q).ms.length mcq]) := (((((K1.out.below D2.out).below hb3).below hb4).set 0 _ |>.set 1 _).setO (Nat.ne_of_lt (Nat.lt_succ_self _)) _).setO (Nat.ne_of_lt (Nat.lt_succ_self _)) _
    have Q1 : Hid (Blk ((((w4.setCell ⟨w.heap.size, 0, none⟩ (.slice laq (liQ Q).ls.length lcq)).setCell ⟨w.heap.size, 1, none⟩ (.slice maq (liQ Q).ms.length mcq)).setCell ⟨w.heap.size + 1, 0, none⟩ (.slice lap (liQ P).ls.length lcp)).setCell ⟨w.heap.size + 1, 1, none⟩ (.slice map (liQ P).ms.length mcp)) (w.heap.size + 1) 67 [.slice lap (liQ P).ls.length lcp, .slice map (liQ P).ms.length mcp]) := (((((K2.out.below D2.out).below hb3).below hb4).setO (Nat.succ_ne_self _) _).setO (Nat.succ_ne_self _) _ |>.set 0 _).set 1 _
    have HO : Hid (OkQ (liQ Q)) := liQ_ok Q
    have HOP : Hid (OkQ (liQ P)) := liQ_ok P
    clear hk h1q h2q h3q h1p h2p h3p hb3 hb4 hbq hbp hs3 hd2 hS2 a0 a1 b0 b1 a0' a1' b0' b1' a2' b2' hlq hlp K1 K2 B2 D2 S2
    generalize (((w4.setCell ⟨w.heap.size, 0, none⟩ (.slice laq (liQ Q).ls.length lcq)).setCell ⟨w.heap.size, 1, none⟩ (.slice maq (liQ Q).ms.length mcq)).setCell ⟨w.heap.size + 1, 0, none⟩ (.slice lap (liQ P).ls.length lcp)).setCell ⟨w.heap.size + 1, 1, none⟩ (.slice map (liQ P).ms.length mcp) = w5 at *
    generalize liQ Q = X at *
    generalize liQ P = Y at *
    go_wp2_with fail
    refine (new_any _ _ cx tx w5 (Nat.le_trans HNC.out (by decide)) (HC1.out.below BW.out) (HT1.out.below BW.out)).mono ?_
    rintro e w6 ⟨ua, xa, Va, rfl, hqa, hb, _⟩
    have H1 : Hid (QIs w6 _ _ _ _) := H1.out.below hb
    have H2 : Hid (QIs w6 _ _ _ _) := H2.out.below hb
    have Q0 : Hid (Blk w6 _ _ _) := Q0.out.below hb
    have Q1 : Hid (Blk w6 _ _ _) := Q1.out.below hb
    have BW : Hid (Below w.heap.size w w6) := Below.onto BW.out hb
    obtain ⟨laa, lca, rfl, _⟩ := hqa.l
    obtain ⟨maa, mca, rfl, _⟩ := hqa.m
    have Ha : Hid (QIs w6 _ _ _ _) := hqa
    obtain ⟨k90, b9, s9⟩ := alloc1 w6 [.slice laa (newQ cx tx).ls.length lca, .slice maa (newQ cx tx).ms.length mca] 67
    obtain ⟨q0_0, q0_1⟩ := Q0.out.bx.two
    have q0_l := Q0.out.lt
    obtain ⟨q1_0, q1_1⟩ := Q1.out.bx.two
    have q1_l := Q1.out.lt
    have Qa : Hid (Blk _ _ _ _) := k90
    have B9 : Hid (Below w6.heap.size w6 _) := b9
    clear k90 b9 s9
    go_wp2_with fail
    clear q0_0 q0_1 q0_l q1_0 q1_1 q1_l
    generalize w6.alloc (.cells #[.slice laa (newQ cx tx).ls.length lca, .slice maa (newQ cx tx).ms.length mca] 67) = w7 at *
    have H1 : Hid (QIs w7 _ _ _ _) := H1.out.below B9.out
    have H2 : Hid (QIs w7 _ _ _ _) := H2.out.below B9.out
    have Q0 : Hid (Blk w7 _ _ _) := Q0.out.below B9.out
    have Q1 : Hid (Blk w7 _ _ _) := Q1.out.below B9.out
    have Ha : Hid (QIs w7 _ _ _ _) := Ha.out.below B9.out
    have BW : Hid (Below w.heap.size w w7) := Below.onto BW.out B9.out
    refine ((rnew_any _ _ cx tx w7 (Nat.le_trans HNC.out (by decide)) (HC1.out.below BW.out) (HT1.out.below BW.out))).mono ?_
    rintro e w8 ⟨ub, xb, Vb, rfl, hqb, hb⟩
    have H1 : Hid (QIs w8 _ _ _ _) := H1.out.below hb
    have H2 : Hid (QIs w8 _ _ _ _) := H2.out.below hb
    have Q0 : Hid (Blk w8 _ _ _) := Q0.out.below hb
    have Q1 : Hid (Blk w8 _ _ _) := Q1.out.below hb
    have Ha : Hid (QIs w8 _ _ _ _) := Ha.out.below hb
    have Qa : Hid (Blk w8 _ _ _) := Qa.out.below hb
    have BW : Hid (Below w.heap.size w w8) := Below.onto BW.out hb
    obtain ⟨lab, lcb, rfl, _⟩ := hqb.l
    obtain ⟨mab, mcb, rfl, _⟩ := hqb.m
    have Hb : Hid (QIs w8 _ _ _ _) := hqb
    obtain ⟨k90, b9, s9⟩ := alloc1 w8 [.slice lab (newQ cx tx).ls.length lcb, .slice mab (newQ cx tx).ms.length mcb] 67
    obtain ⟨q0_0, q0_1⟩ := Q0.out.bx.two
    have q0_l := Q0.out.lt
    obtain ⟨q1_0, q1_1⟩ := Q1.out.bx.two
    have q1_l := Q1.out.lt
    obtain ⟨qa_0, qa_1⟩ := Qa.out.bx.two
    have qa_l := Qa.out.lt
    have Qb : Hid (Blk _ _ _ _) := k90
    have B9 : Hid (Below w8.heap.size w8 _) := b9
    clear k90 b9 s9
    go_wp2_with fail
    clear q0_0 q0_1 q0_l q1_0 q1_1 q1_l qa_0 qa_1 qa_l
    generalize w8.alloc (.cells #[.slice lab (newQ cx tx).ls.length lcb, .slice mab (newQ cx tx).ms.length mcb] 67) = w9 at *
    have H1 : Hid (QIs w9 _ _ _ _) := H1.out.below B9.out
    have H2 : Hid (QIs w9 _ _ _ _) := H2.out.below B9.out
    have Q0 : Hid (Blk w9 _ _ _) := Q0.out.below B9.out
    have Q1 : Hid (Blk w9 _ _ _) := Q1.out.below B9.out
    have Ha : Hid (QIs w9 _ _ _ _) := Ha.out.below B9.out
    have Qa : Hid (Blk w9 _ _ _) := Qa.out.below B9.out
    have Hb : Hid (QIs w9 _ _ _ _) := Hb.out.below B9.out
    have BW : Hid (Below w.heap.size w w9) := Below.onto BW.out B9.out
    obtain ⟨q0_0, q0_1⟩ := Q0.out.bx.two
    have q0_0' := cell_regrown q0_0
    have q0_1' := cell_regrown q0_1
    clear q0_0 q0_1
    obtain ⟨q1_0, q1_1⟩ := Q1.out.bx.two
    have q1_0' := cell_regrown q1_0
    have q1_1' := cell_regrown q1_1
    clear q1_0 q1_1
    obtain ⟨qa_0, qa_1⟩ := Qa.out.bx.two
    have qa_0' := cell_regrown qa_0
    have qa_1' := cell_regrown qa_1
    clear qa_0 qa_1
    obtain ⟨qb_0, qb_1⟩ := Qb.out.bx.two
    have qb_0' := cell_regrown qb_0
    have qb_1' := cell_regrown qb_1
    clear qb_0 qb_1
    have cA := regrown_call (w := w9) fun W hW => rsame_one _ _ _ _ _ _ _ W (newQ_okq cx tx HNC.out) (Ha.out.below hW) (Hb.out.below hW)
    have cB := regrown_call (w := w9) fun W hW => check_any _ _ X Vq W HO.out (H1.out.below hW)
    have cC := regrown_call (w := w9) fun W hW => rcheck_any _ _ X Vq W HO.out (H1.out.below hW)
    have cD := regrown_call (w := w9) fun W hW => same_any _ _ _ _ X Y Vq Vp W HO.out (H1.out.below hW) (H2.out.below hW)
    have cE := regrown_call (w := w9) fun W hW => rsame_any _ _ _ _ X Y Vq Vp W HO.out (H1.out.below hW) (H2.out.below hW)
    have cF := regrown_call (w := w9) fun W hW => same_own _ _ X Vq W HO.out (H1.out.below hW)
    have cG := regrown_call (w := w9) fun W _ => awake_any W
    generalize X.chk = ck at *
    generalize eqQ X Y = eq at *
    refine wp_region_quiet_below (by kernel_rfl) (by kernel_rfl) ?_
    repeat (go_big_quiet_step (first | with_reducible exact cA _ _ | with_reducible exact cB _ _ | with_reducible exact cC _ _ | with_reducible exact cF _ _ | with_reducible exact cD _ _ | with_reducible exact cE _ _ | with_reducible exact cG _ _))
    refine wpQuiet_nil ?_
    intro _ hw'
    obtain ⟨⟨dq, osq⟩, hw''⟩ := hw'
    subst hw''
    go_wp2_with fail
    go_ret
    exact ⟨rfl, Below.onto BW.out (below_regrown _ _ _)⟩

end Go.Proofs.Ytimmjhegeagofaa
