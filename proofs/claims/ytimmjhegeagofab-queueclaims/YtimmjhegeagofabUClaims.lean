/- The law QueueClaims: a row of calls. -/
import Derived.Test.YtimmjhegeagofabULight
import Derived.Test.YtimmjhegeagofabUAwake
import Derived.Test.YtimmjhegeagofabURefQ
import Derived.Test.YtimmjhegeagofabURefB
import Derived.Test.YtimmjhegeagofabUTakes
namespace Go.Proofs.Ytimmjhegeagofab
open Go.RowKit
set_option maxRecDepth 100000

theorem clQ_okq {Q : Qu} {i : Int} (h : OkQ Q) : OkQ (Q.clQ i) := by
  unfold Qu.clQ
  split
  case isTrue hE =>
    refine okq_set h ?_ h.nm
    simp only [claimL, List.length_append, List.length_singleton]
    have hn : Q.nam i = 0 := by
      by_cases hn : Q.nam i = 0
      · exact hn
      · rw [Qu.clE, if_neg hn] at hE; exact absurd hE hn
    obtain ⟨hok, hH⟩ := nam_zero hn
    have hi : i.toNat < Q.ls.length := by simp [Qu.hasB] at hH; omega
    have h1 := ((ok_iff Q).1 hok).2.2 i.toNat hi
    simp [okL] at h1
    have h2 := hasCr_iff.1 h1.1
    have h3 : 0 ≤ tkn (atP Q.ls i.toNat) (cnt Q.ms (i.toNat : Int)) := by simpa [covB] using h1.2.2.1
    unfold tkn at h3
    show (atP Q.ls i.toNat).cl.length + 1 ≤ 1000
    omega
  case isFalse => exact okq0
theorem pbQ_okq {Q : Qu} {ln n ep pay : Int} (hm : Q.ms.length + 1 ≤ 1000) (h : OkQ Q) : OkQ (Q.pbQ ln n ep pay) := by
  unfold Qu.pbQ
  split
  · refine okq_set h ?_ (by simpa using hm)
    have := lane_len h ln
    simp only [pubL, List.length_tail]
    omega
  · exact okq0
set_option maxHeartbeats 8000000 in
theorem uclaims (vl vm : Value) (Q : Qu) (V : Nat → Value) (ln c0 c1 c2 pay : Int) (w : World) (hq : QIs w vl vm Q V) (hl : Q.ls.length ≤ maxLen) (hm : Q.ms.length ≤ maxLen) : Calls Try.prog 3 #[quV vl vm, .int .i64 ln, clV c0 c1 c2, .int .u64 pay] w fun e w' => e = .returned (.bool true) ∧ Below w.heap.size w w' := by
  have HQ0 : Hid (QIs w vl vm Q V) := hq
  obtain ⟨la, lc, rfl, _⟩ := hq.l
  obtain ⟨ma, mc, rfl, _⟩ := hq.m
  obtain ⟨k1, k2, b2, s2⟩ := alloc2 w [.slice la Q.ls.length lc, .slice ma Q.ms.length mc] 25 [.int .i64 c0, .int .i64 c1, .int .i64 c2] 27
  have Q0 : Hid (Blk _ _ _ _) := k1
  have C0 : Hid (Blk _ _ _ _) := k2
  have B2 : Hid (Below _ _ _) := b2
  have S2 : Hid (w.heap.size < ((w.alloc (.cells #[.slice la Q.ls.length lc, .slice ma Q.ms.length mc] 25)).alloc (.cells #[.int .i64 c0, .int .i64 c1, .int .i64 c2] 27)).heap.size) := by show _ < _; rw [s2]; omega
  clear k1 k2 b2 s2 hq
  go_enter Try.func3, Try.ntmps3
  go_wp2_with fail
  generalize (w.alloc (.cells #[.slice la Q.ls.length lc, .slice ma Q.ms.length mc] 25)).alloc (.cells #[.int .i64 c0, .int .i64 c1, .int .i64 c2] 27) = w2 at *
  have hS2 := S2.out
  refine (light_any _ _ Q V w2 hl hm (HQ0.out.below B2.out)).mono ?_
  rintro e w3 ⟨ul, um, V1, rfl, h1, h2, h3, hb3⟩
  have H1 := light_box HQ0.out (Nat.le_refl _) hS2 B2.out h1 h2 h3 hb3
  have HO : Hid (OkQ (liQ Q)) := liQ_ok Q
  have HMS : Hid ((liQ Q).ms.length + 1 ≤ 1000) := by show _ ≤ _; simp [liQ]; omega
  obtain ⟨la1, lc1, rfl, _⟩ := h1
  obtain ⟨ma1, mc1, rfl, _⟩ := (h3 w HQ0.out).2
  clear h2 h3
  generalize liQ Q = X at *
  have H1 : Hid (QIs _ _ _ _ _) := H1
  have q0_2 := (Q0.out.below hb3).fz
  obtain ⟨q0_0, q0_1⟩ := (Q0.out.below hb3).bx.two
  obtain ⟨c0_0, c0_1, c0_2⟩ := (C0.out.below hb3).bx.three
  have Q0 : Hid (Blk ((w3.setCell ⟨w.heap.size, 0, none⟩ (.slice la1 X.ls.length lc1)).setCell ⟨w.heap.size, 1, none⟩ (.slice ma1 X.ms.length mc1)) _ _ [.slice la1 X.ls.length lc1, .slice ma1 X.ms.length mc1]) := ((Q0.out.below hb3).set 0 _).set 1 _
  have C0 : Hid (Blk ((w3.setCell ⟨w.heap.size, 0, none⟩ (.slice la1 X.ls.length lc1)).setCell ⟨w.heap.size, 1, none⟩ (.slice ma1 X.ms.length mc1)) _ _ _) := ((C0.out.below hb3).setO (Nat.succ_ne_self _) _).setO (Nat.succ_ne_self _) _
  have BW : Hid (Below w.heap.size w ((w3.setCell ⟨w.heap.size, 0, none⟩ (.slice la1 X.ls.length lc1)).setCell ⟨w.heap.size, 1, none⟩ (.slice ma1 X.ms.length mc1))) := ((Below.onto B2.out hb3).setCell (Nat.le_refl _) _).setCell (Nat.le_refl _) _
  clear B2 S2 hS2 hb3
  go_wp2_with fail
  clear q0_0 q0_1 q0_2 c0_0 c0_1 c0_2
  generalize (w3.setCell ⟨w.heap.size, 0, none⟩ (.slice la1 X.ls.length lc1)).setCell ⟨w.heap.size, 1, none⟩ (.slice ma1 X.ms.length mc1) = w4 at *
  refine (claim_any _ _ X V1 ln w4 HO.out H1.out).mono ?_
  rintro e w5 ⟨ua, xa, Va, rfl, hqa, hb, _⟩
  have H1 : Hid (QIs w5 _ _ _ _) := H1.out.below hb
  have Q0 : Hid (Blk w5 _ _ _) := Q0.out.below hb
  have C0 : Hid (Blk w5 _ _ _) := C0.out.below hb
  have BW : Hid (Below w.heap.size w w5) := Below.onto BW.out hb
  obtain ⟨laa, lca, rfl, _⟩ := hqa.l
  obtain ⟨maa, mca, rfl, _⟩ := hqa.m
  have Ha : Hid (QIs w5 _ _ _ _) := hqa
  obtain ⟨k90, k91, b9, s9⟩ := alloc2 w5 [.slice laa (X.clQ ln).ls.length lca, .slice maa (X.clQ ln).ms.length mca] 25 [.int .i64 (X.clC ln).1, .int .i64 (X.clC ln).2.1, .int .i64 (X.clC ln).2.2] 27
  obtain ⟨q0_0, q0_1⟩ := Q0.out.bx.two
  have q0_l := Q0.out.lt
  obtain ⟨c0_0, c0_1, c0_2⟩ := C0.out.bx.three
  have c0_l := C0.out.lt
  have Qa : Hid (Blk _ _ _ _) := k90
  have Ca : Hid (Blk _ _ _ _) := k91
  have B9 : Hid (Below w5.heap.size w5 _) := b9
  clear k90 k91 b9 s9
  go_wp2_with fail
  clear q0_0 q0_1 q0_l c0_0 c0_1 c0_2 c0_l
  generalize (w5.alloc (.cells #[.slice laa (X.clQ ln).ls.length lca, .slice maa (X.clQ ln).ms.length mca] 25)).alloc (.cells #[.int .i64 (X.clC ln).1, .int .i64 (X.clC ln).2.1, .int .i64 (X.clC ln).2.2] 27) = w6 at *
  have H1 : Hid (QIs w6 _ _ _ _) := H1.out.below B9.out
  have Q0 : Hid (Blk w6 _ _ _) := Q0.out.below B9.out
  have C0 : Hid (Blk w6 _ _ _) := C0.out.below B9.out
  have Ha : Hid (QIs w6 _ _ _ _) := Ha.out.below B9.out
  have BW : Hid (Below w.heap.size w w6) := Below.onto BW.out B9.out
  refine (rclaim_any _ _ X V1 ln w6 HO.out H1.out).mono ?_
  rintro e w7 ⟨ub, xb, Vb, rfl, hqb, hb, _⟩
  have H1 : Hid (QIs w7 _ _ _ _) := H1.out.below hb
  have Q0 : Hid (Blk w7 _ _ _) := Q0.out.below hb
  have C0 : Hid (Blk w7 _ _ _) := C0.out.below hb
  have Ha : Hid (QIs w7 _ _ _ _) := Ha.out.below hb
  have Qa : Hid (Blk w7 _ _ _) := Qa.out.below hb
  have Ca : Hid (Blk w7 _ _ _) := Ca.out.below hb
  have BW : Hid (Below w.heap.size w w7) := Below.onto BW.out hb
  obtain ⟨lab, lcb, rfl, _⟩ := hqb.l
  obtain ⟨mab, mcb, rfl, _⟩ := hqb.m
  have Hb : Hid (QIs w7 _ _ _ _) := hqb
  obtain ⟨k90, k91, b9, s9⟩ := alloc2 w7 [.slice lab (X.clQ ln).ls.length lcb, .slice mab (X.clQ ln).ms.length mcb] 25 [.int .i64 (X.clC ln).1, .int .i64 (X.clC ln).2.1, .int .i64 (X.clC ln).2.2] 27
  obtain ⟨q0_0, q0_1⟩ := Q0.out.bx.two
  have q0_l := Q0.out.lt
  obtain ⟨c0_0, c0_1, c0_2⟩ := C0.out.bx.three
  have c0_l := C0.out.lt
  obtain ⟨qa_0, qa_1⟩ := Qa.out.bx.two
  have qa_l := Qa.out.lt
  obtain ⟨ca_0, ca_1, ca_2⟩ := Ca.out.bx.three
  have ca_l := Ca.out.lt
  have Qb : Hid (Blk _ _ _ _) := k90
  have Cb : Hid (Blk _ _ _ _) := k91
  have B9 : Hid (Below w7.heap.size w7 _) := b9
  clear k90 k91 b9 s9
  go_wp2_with fail
  clear q0_0 q0_1 q0_l c0_0 c0_1 c0_2 c0_l qa_0 qa_1 qa_l ca_0 ca_1 ca_2 ca_l
  generalize (w7.alloc (.cells #[.slice lab (X.clQ ln).ls.length lcb, .slice mab (X.clQ ln).ms.length mcb] 25)).alloc (.cells #[.int .i64 (X.clC ln).1, .int .i64 (X.clC ln).2.1, .int .i64 (X.clC ln).2.2] 27) = w8 at *
  have H1 : Hid (QIs w8 _ _ _ _) := H1.out.below B9.out
  have Q0 : Hid (Blk w8 _ _ _) := Q0.out.below B9.out
  have C0 : Hid (Blk w8 _ _ _) := C0.out.below B9.out
  have Ha : Hid (QIs w8 _ _ _ _) := Ha.out.below B9.out
  have Qa : Hid (Blk w8 _ _ _) := Qa.out.below B9.out
  have Ca : Hid (Blk w8 _ _ _) := Ca.out.below B9.out
  have Hb : Hid (QIs w8 _ _ _ _) := Hb.out.below B9.out
  have BW : Hid (Below w.heap.size w w8) := Below.onto BW.out B9.out
  refine (publish_any _ _ X V1 c0 c1 c2 pay w8 HMS.out HO.out H1.out).mono ?_
  rintro e w9 ⟨ud, xd, Vd, rfl, hqd, hb, _⟩
  have H1 : Hid (QIs w9 _ _ _ _) := H1.out.below hb
  have Q0 : Hid (Blk w9 _ _ _) := Q0.out.below hb
  have C0 : Hid (Blk w9 _ _ _) := C0.out.below hb
  have Ha : Hid (QIs w9 _ _ _ _) := Ha.out.below hb
  have Qa : Hid (Blk w9 _ _ _) := Qa.out.below hb
  have Ca : Hid (Blk w9 _ _ _) := Ca.out.below hb
  have Hb : Hid (QIs w9 _ _ _ _) := Hb.out.below hb
  have Qb : Hid (Blk w9 _ _ _) := Qb.out.below hb
  have Cb : Hid (Blk w9 _ _ _) := Cb.out.below hb
  have BW : Hid (Below w.heap.size w w9) := Below.onto BW.out hb
  obtain ⟨lad, lcd, rfl, _⟩ := hqd.l
  obtain ⟨mad, mcd, rfl, _⟩ := hqd.m
  have Hd : Hid (QIs w9 _ _ _ _) := hqd
  obtain ⟨k90, b9, s9⟩ := alloc1 w9 [.slice lad (X.pbQ c0 c1 c2 pay).ls.length lcd, .slice mad (X.pbQ c0 c1 c2 pay).ms.length mcd] 25
  obtain ⟨q0_0, q0_1⟩ := Q0.out.bx.two
  have q0_l := Q0.out.lt
  obtain ⟨c0_0, c0_1, c0_2⟩ := C0.out.bx.three
  have c0_l := C0.out.lt
  obtain ⟨qa_0, qa_1⟩ := Qa.out.bx.two
  have qa_l := Qa.out.lt
  obtain ⟨ca_0, ca_1, ca_2⟩ := Ca.out.bx.three
  have ca_l := Ca.out.lt
  obtain ⟨qb_0, qb_1⟩ := Qb.out.bx.two
  have qb_l := Qb.out.lt
  obtain ⟨cb_0, cb_1, cb_2⟩ := Cb.out.bx.three
  have cb_l := Cb.out.lt
  have Qd : Hid (Blk _ _ _ _) := k90
  have B9 : Hid (Below w9.heap.size w9 _) := b9
  clear k90 b9 s9
  go_wp2_with fail
  clear q0_0 q0_1 q0_l c0_0 c0_1 c0_2 c0_l qa_0 qa_1 qa_l ca_0 ca_1 ca_2 ca_l qb_0 qb_1 qb_l cb_0 cb_1 cb_2 cb_l
  generalize w9.alloc (.cells #[.slice lad (X.pbQ c0 c1 c2 pay).ls.length lcd, .slice mad (X.pbQ c0 c1 c2 pay).ms.length mcd] 25) = w10 at *
  have H1 : Hid (QIs w10 _ _ _ _) := H1.out.below B9.out
  have Q0 : Hid (Blk w10 _ _ _) := Q0.out.below B9.out
  have C0 : Hid (Blk w10 _ _ _) := C0.out.below B9.out
  have Ha : Hid (QIs w10 _ _ _ _) := Ha.out.below B9.out
  have Qa : Hid (Blk w10 _ _ _) := Qa.out.below B9.out
  have Ca : Hid (Blk w10 _ _ _) := Ca.out.below B9.out
  have Hb : Hid (QIs w10 _ _ _ _) := Hb.out.below B9.out
  have Qb : Hid (Blk w10 _ _ _) := Qb.out.below B9.out
  have Cb : Hid (Blk w10 _ _ _) := Cb.out.below B9.out
  have Hd : Hid (QIs w10 _ _ _ _) := Hd.out.below B9.out
  have BW : Hid (Below w.heap.size w w10) := Below.onto BW.out B9.out
  refine (rpublish_any _ _ X V1 c0 c1 c2 pay w10 HMS.out HO.out H1.out).mono ?_
  rintro e w11 ⟨uh, xh, Vh, rfl, hqh, hb, _⟩
  have H1 : Hid (QIs w11 _ _ _ _) := H1.out.below hb
  have Q0 : Hid (Blk w11 _ _ _) := Q0.out.below hb
  have C0 : Hid (Blk w11 _ _ _) := C0.out.below hb
  have Ha : Hid (QIs w11 _ _ _ _) := Ha.out.below hb
  have Qa : Hid (Blk w11 _ _ _) := Qa.out.below hb
  have Ca : Hid (Blk w11 _ _ _) := Ca.out.below hb
  have Hb : Hid (QIs w11 _ _ _ _) := Hb.out.below hb
  have Qb : Hid (Blk w11 _ _ _) := Qb.out.below hb
  have Cb : Hid (Blk w11 _ _ _) := Cb.out.below hb
  have Hd : Hid (QIs w11 _ _ _ _) := Hd.out.below hb
  have Qd : Hid (Blk w11 _ _ _) := Qd.out.below hb
  have BW : Hid (Below w.heap.size w w11) := Below.onto BW.out hb
  obtain ⟨lah, lch, rfl, _⟩ := hqh.l
  obtain ⟨mah, mch, rfl, _⟩ := hqh.m
  have Hh : Hid (QIs w11 _ _ _ _) := hqh
  obtain ⟨k90, b9, s9⟩ := alloc1 w11 [.slice lah (X.pbQ c0 c1 c2 pay).ls.length lch, .slice mah (X.pbQ c0 c1 c2 pay).ms.length mch] 25
  obtain ⟨q0_0, q0_1⟩ := Q0.out.bx.two
  have q0_l := Q0.out.lt
  obtain ⟨c0_0, c0_1, c0_2⟩ := C0.out.bx.three
  have c0_l := C0.out.lt
  obtain ⟨qa_0, qa_1⟩ := Qa.out.bx.two
  have qa_l := Qa.out.lt
  obtain ⟨ca_0, ca_1, ca_2⟩ := Ca.out.bx.three
  have ca_l := Ca.out.lt
  obtain ⟨qb_0, qb_1⟩ := Qb.out.bx.two
  have qb_l := Qb.out.lt
  obtain ⟨cb_0, cb_1, cb_2⟩ := Cb.out.bx.three
  have cb_l := Cb.out.lt
  obtain ⟨qd_0, qd_1⟩ := Qd.out.bx.two
  have qd_l := Qd.out.lt
  have Qh : Hid (Blk _ _ _ _) := k90
  have B9 : Hid (Below w11.heap.size w11 _) := b9
  clear k90 b9 s9
  go_wp2_with fail
  clear q0_0 q0_1 q0_l c0_0 c0_1 c0_2 c0_l qa_0 qa_1 qa_l ca_0 ca_1 ca_2 ca_l qb_0 qb_1 qb_l cb_0 cb_1 cb_2 cb_l qd_0 qd_1 qd_l
  generalize w11.alloc (.cells #[.slice lah (X.pbQ c0 c1 c2 pay).ls.length lch, .slice mah (X.pbQ c0 c1 c2 pay).ms.length mch] 25) = w12 at *
  have H1 : Hid (QIs w12 _ _ _ _) := H1.out.below B9.out
  have Q0 : Hid (Blk w12 _ _ _) := Q0.out.below B9.out
  have C0 : Hid (Blk w12 _ _ _) := C0.out.below B9.out
  have Ha : Hid (QIs w12 _ _ _ _) := Ha.out.below B9.out
  have Qa : Hid (Blk w12 _ _ _) := Qa.out.below B9.out
  have Ca : Hid (Blk w12 _ _ _) := Ca.out.below B9.out
  have Hb : Hid (QIs w12 _ _ _ _) := Hb.out.below B9.out
  have Qb : Hid (Blk w12 _ _ _) := Qb.out.below B9.out
  have Cb : Hid (Blk w12 _ _ _) := Cb.out.below B9.out
  have Hd : Hid (QIs w12 _ _ _ _) := Hd.out.below B9.out
  have Qd : Hid (Blk w12 _ _ _) := Qd.out.below B9.out
  have Hh : Hid (QIs w12 _ _ _ _) := Hh.out.below B9.out
  have BW : Hid (Below w.heap.size w w12) := Below.onto BW.out B9.out
  obtain ⟨q0_0, q0_1⟩ := Q0.out.bx.two
  have q0_0' := cell_regrown q0_0
  have q0_1' := cell_regrown q0_1
  clear q0_0 q0_1
  obtain ⟨c0_0, c0_1, c0_2⟩ := C0.out.bx.three
  have c0_0' := cell_regrown c0_0
  have c0_1' := cell_regrown c0_1
  have c0_2' := cell_regrown c0_2
  clear c0_0 c0_1 c0_2
  obtain ⟨qa_0, qa_1⟩ := Qa.out.bx.two
  have qa_0' := cell_regrown qa_0
  have qa_1' := cell_regrown qa_1
  clear qa_0 qa_1
  obtain ⟨ca_0, ca_1, ca_2⟩ := Ca.out.bx.three
  have ca_0' := cell_regrown ca_0
  have ca_1' := cell_regrown ca_1
  have ca_2' := cell_regrown ca_2
  clear ca_0 ca_1 ca_2
  obtain ⟨qb_0, qb_1⟩ := Qb.out.bx.two
  have qb_0' := cell_regrown qb_0
  have qb_1' := cell_regrown qb_1
  clear qb_0 qb_1
  obtain ⟨cb_0, cb_1, cb_2⟩ := Cb.out.bx.three
  have cb_0' := cell_regrown cb_0
  have cb_1' := cell_regrown cb_1
  have cb_2' := cell_regrown cb_2
  clear cb_0 cb_1 cb_2
  obtain ⟨qd_0, qd_1⟩ := Qd.out.bx.two
  have qd_0' := cell_regrown qd_0
  have qd_1' := cell_regrown qd_1
  clear qd_0 qd_1
  obtain ⟨qh_0, qh_1⟩ := Qh.out.bx.two
  have qh_0' := cell_regrown qh_0
  have qh_1' := cell_regrown qh_1
  clear qh_0 qh_1
  have cA := regrown_call (w := w12) fun W hW => rsame_one _ _ _ _ _ _ _ W (clQ_okq HO.out) (Ha.out.below hW) (Hb.out.below hW)
  have cB := regrown_call (w := w12) fun W hW => rsame_one _ _ _ _ _ _ _ W (pbQ_okq HMS.out HO.out) (Hd.out.below hW) (Hh.out.below hW)
  have cC := regrown_call (w := w12) fun W hW => ready_any _ _ X V1 c0 c1 c2 W HO.out (H1.out.below hW)
  have cD := regrown_call (w := w12) fun W hW => rready_any _ _ X V1 c0 c1 c2 W HO.out (H1.out.below hW)
  have cE := regrown_call (w := w12) fun W _ => awake_any W
  generalize decide (X.pbE c0 c1 c2 = 0) = pb at *
  refine wp_region_quiet_below (by kernel_rfl) (by kernel_rfl) ?_
  repeat (go_big_quiet_step (first | with_reducible exact cA _ _ | with_reducible exact cB _ _ | with_reducible exact cC _ _ | with_reducible exact cD _ _ | with_reducible exact cE _ _))
  refine wpQuiet_nil ?_
  intro _ hw'
  obtain ⟨⟨dq, osq⟩, hw''⟩ := hw'
  subst hw''
  go_wp2_with fail
  go_ret
  exact ⟨rfl, Below.onto BW.out (below_regrown _ _ _)⟩

end Go.Proofs.Ytimmjhegeagofab
