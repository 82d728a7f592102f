/- The law QueueTakes: a row of calls. -/
import Derived.Test.YtimmjhegeagofabULight
import Derived.Test.YtimmjhegeagofabUAwake
import Derived.Test.YtimmjhegeagofabURefQ
import Derived.Test.YtimmjhegeagofabURefE
namespace Go.Proofs.Ytimmjhegeagofab
open Go.RowKit
set_option maxRecDepth 100000

theorem rsame_one (va vb ua ub : Value) (A : Qu) (V U : Nat → Value) (w : World) (hoa : OkQ A) (ha : QIs w va vb A V) (hb : QIs w ua ub A U) : Calls Try.prog 14 #[quV va vb, quV ua ub] w fun e w' => e = .returned (.bool true) ∧ Below w.heap.size w w' := by
  have := rsame_any va vb ua ub A A V U w hoa ha hb
  rwa [eqQ_refl] at this
theorem tkQ_okq {Q : Qu} (h : OkQ Q) : OkQ Q.tkQ := by
  unfold Qu.tkQ
  split
  · exact ⟨h.nl, by have := h.nm; simp; omega, h.nc⟩
  · exact okq0
theorem okq_set {Q : Qu} (h : OkQ Q) {i : Nat} {x : PLn} {ms : List PMs} (hx : x.cl.length ≤ 1000) (hm : ms.length ≤ 1000) : OkQ ⟨Q.ls.set i x, ms⟩ := by
  refine ⟨by simpa using h.nl, hm, fun j hj => ?_⟩
  have hj' : j < Q.ls.length := by simpa using hj
  show (atP (Q.ls.set i x) j).cl.length ≤ 1000
  by_cases hi : i < Q.ls.length
  · rw [atP_set hi]
    split
    · exact hx
    · exact h.nc j hj'
  · rw [List.set_eq_of_length_le (by omega)]
    exact h.nc j hj'
theorem lane_len {Q : Qu} (h : OkQ Q) (i : Int) : (Q.lane i).cl.length ≤ 1000 := by
  unfold Qu.lane
  by_cases hi : i.toNat < Q.ls.length
  · exact h.nc _ hi
  · simp [atP, hi, pl0]
theorem rtQ_okq {Q : Qu} {ln ep : Int} (h : OkQ Q) : OkQ (Q.rtQ ln ep) := by
  unfold Qu.rtQ
  split
  · split
    · exact okq_set h (lane_len h ln) h.nm
    · exact h
  · exact okq0
theorem rsQ_okq {Q : Qu} {i : Int} (h : OkQ Q) : OkQ (Q.rsQ i) := by
  unfold Qu.rsQ
  split
  · exact okq_set h (lane_len h i) (Nat.le_trans (List.length_filter_le _ _) h.nm)
  · exact okq0
set_option maxHeartbeats 8000000 in
theorem utakes (vl vm : Value) (Q : Qu) (V : Nat → Value) (m : PMs) (ln : Int) (w : World) (hq : QIs w vl vm Q V) (hl : Q.ls.length ≤ maxLen) (hm : Q.ms.length ≤ maxLen) : Calls Try.prog 4 #[quV vl vm, meV m, .int .i64 ln] w fun e w' => e = .returned (.bool true) ∧ Below w.heap.size w w' := by
  have HQ0 : Hid (QIs w vl vm Q V) := hq
  obtain ⟨la, lc, rfl, _⟩ := hq.l
  obtain ⟨ma, mc, rfl, _⟩ := hq.m
  obtain ⟨k1, k2, b2, s2⟩ := alloc2 w [.slice la Q.ls.length lc, .slice ma Q.ms.length mc] 25 [.int .i64 m.ln, .int .i64 m.ep, .int .i64 m.n, .int .u64 m.pay] 40
  have Q0 : Hid (Blk _ _ _ _) := k1
  have M0 : Hid (Blk _ _ _ _) := k2
  have B2 : Hid (Below _ _ _) := b2
  have S2 : Hid (w.heap.size < ((w.alloc (.cells #[.slice la Q.ls.length lc, .slice ma Q.ms.length mc] 25)).alloc (.cells #[.int .i64 m.ln, .int .i64 m.ep, .int .i64 m.n, .int .u64 m.pay] 40)).heap.size) := by show _ < _; rw [s2]; omega
  clear k1 k2 b2 s2 hq
  go_enter Try.func4, Try.ntmps4
  go_wp2_with fail
  generalize (w.alloc (.cells #[.slice la Q.ls.length lc, .slice ma Q.ms.length mc] 25)).alloc (.cells #[.int .i64 m.ln, .int .i64 m.ep, .int .i64 m.n, .int .u64 m.pay] 40) = w2 at *
  have hS2 := S2.out
  refine (light_any _ _ Q V w2 hl hm (HQ0.out.below B2.out)).mono ?_
  rintro e w3 ⟨ul, um, V1, rfl, h1, h2, h3, hb3⟩
  have H1 := light_box HQ0.out (Nat.le_refl _) hS2 B2.out h1 h2 h3 hb3
  have HO : Hid (OkQ (liQ Q)) := liQ_ok Q
  obtain ⟨la1, lc1, rfl, _⟩ := h1
  obtain ⟨ma1, mc1, rfl, _⟩ := (h3 w HQ0.out).2
  clear h2 h3
  generalize liQ Q = X at *
  have H1 : Hid (QIs _ _ _ _ _) := H1
  have q0_2 := (Q0.out.below hb3).fz
  obtain ⟨q0_0, q0_1⟩ := (Q0.out.below hb3).bx.two
  obtain ⟨m0_0, m0_1, m0_2, m0_3⟩ := (M0.out.below hb3).bx.four
  have Q0 : Hid (Blk ((w3.setCell ⟨w.heap.size, 0, none⟩ (.slice la1 X.ls.length lc1)).setCell ⟨w.heap.size, 1, none⟩ (.slice ma1 X.ms.length mc1)) _ _ [.slice la1 X.ls.length lc1, .slice ma1 X.ms.length mc1]) := ((Q0.out.below hb3).set 0 _).set 1 _
  have M0 : Hid (Blk ((w3.setCell ⟨w.heap.size, 0, none⟩ (.slice la1 X.ls.length lc1)).setCell ⟨w.heap.size, 1, none⟩ (.slice ma1 X.ms.length mc1)) _ _ _) := ((M0.out.below hb3).setO (Nat.succ_ne_self _) _).setO (Nat.succ_ne_self _) _
  have BW : Hid (Below w.heap.size w ((w3.setCell ⟨w.heap.size, 0, none⟩ (.slice la1 X.ls.length lc1)).setCell ⟨w.heap.size, 1, none⟩ (.slice ma1 X.ms.length mc1))) := ((Below.onto B2.out hb3).setCell (Nat.le_refl _) _).setCell (Nat.le_refl _) _
  clear B2 S2 hS2 hb3
  go_wp2_with fail
  clear q0_0 q0_1 q0_2 m0_0 m0_1 m0_2 m0_3
  generalize (w3.setCell ⟨w.heap.size, 0, none⟩ (.slice la1 X.ls.length lc1)).setCell ⟨w.heap.size, 1, none⟩ (.slice ma1 X.ms.length mc1) = w4 at *
  refine (take_any _ _ X V1 w4 HO.out H1.out).mono ?_
  rintro e w5 ⟨ua, xa, Va, rfl, hqa, hb, _⟩
  have H1 : Hid (QIs w5 _ _ _ _) := H1.out.below hb
  have Q0 : Hid (Blk w5 _ _ _) := Q0.out.below hb
  have M0 : Hid (Blk w5 _ _ _) := M0.out.below hb
  have BW : Hid (Below w.heap.size w w5) := Below.onto BW.out hb
  obtain ⟨laa, lca, rfl, _⟩ := hqa.l
  obtain ⟨maa, mca, rfl, _⟩ := hqa.m
  have Ha : Hid (QIs w5 _ _ _ _) := hqa
  obtain ⟨k90, k91, b9, s9⟩ := alloc2 w5 [.slice laa X.tkQ.ls.length lca, .slice maa X.tkQ.ms.length mca] 25 [.int .i64 X.tkM.ln, .int .i64 X.tkM.ep, .int .i64 X.tkM.n, .int .u64 X.tkM.pay] 40
  obtain ⟨q0_0, q0_1⟩ := Q0.out.bx.two
  have q0_l := Q0.out.lt
  obtain ⟨m0_0, m0_1, m0_2, m0_3⟩ := M0.out.bx.four
  have m0_l := M0.out.lt
  have Qa : Hid (Blk _ _ _ _) := k90
  have Ma : Hid (Blk _ _ _ _) := k91
  have B9 : Hid (Below w5.heap.size w5 _) := b9
  clear k90 k91 b9 s9
  go_wp2_with fail
  clear q0_0 q0_1 q0_l m0_0 m0_1 m0_2 m0_3 m0_l
  generalize (w5.alloc (.cells #[.slice laa X.tkQ.ls.length lca, .slice maa X.tkQ.ms.length mca] 25)).alloc (.cells #[.int .i64 X.tkM.ln, .int .i64 X.tkM.ep, .int .i64 X.tkM.n, .int .u64 X.tkM.pay] 40) = w6 at *
  have H1 : Hid (QIs w6 _ _ _ _) := H1.out.below B9.out
  have Q0 : Hid (Blk w6 _ _ _) := Q0.out.below B9.out
  have M0 : Hid (Blk w6 _ _ _) := M0.out.below B9.out
  have Ha : Hid (QIs w6 _ _ _ _) := Ha.out.below B9.out
  have BW : Hid (Below w.heap.size w w6) := Below.onto BW.out B9.out
  refine (rtake_any _ _ X V1 w6 HO.out H1.out).mono ?_
  rintro e w7 ⟨ub, xb, Vb, rfl, hqb, hb, _⟩
  have H1 : Hid (QIs w7 _ _ _ _) := H1.out.below hb
  have Q0 : Hid (Blk w7 _ _ _) := Q0.out.below hb
  have M0 : Hid (Blk w7 _ _ _) := M0.out.below hb
  have Ha : Hid (QIs w7 _ _ _ _) := Ha.out.below hb
  have Qa : Hid (Blk w7 _ _ _) := Qa.out.below hb
  have Ma : Hid (Blk w7 _ _ _) := Ma.out.below hb
  have BW : Hid (Below w.heap.size w w7) := Below.onto BW.out hb
  obtain ⟨lab, lcb, rfl, _⟩ := hqb.l
  obtain ⟨mab, mcb, rfl, _⟩ := hqb.m
  have Hb : Hid (QIs w7 _ _ _ _) := hqb
  obtain ⟨k90, k91, b9, s9⟩ := alloc2 w7 [.slice lab X.tkQ.ls.length lcb, .slice mab X.tkQ.ms.length mcb] 25 [.int .i64 X.tkM.ln, .int .i64 X.tkM.ep, .int .i64 X.tkM.n, .int .u64 X.tkM.pay] 40
  obtain ⟨q0_0, q0_1⟩ := Q0.out.bx.two
  have q0_l := Q0.out.lt
  obtain ⟨m0_0, m0_1, m0_2, m0_3⟩ := M0.out.bx.four
  have m0_l := M0.out.lt
  obtain ⟨qa_0, qa_1⟩ := Qa.out.bx.two
  have qa_l := Qa.out.lt
  obtain ⟨ma_0, ma_1, ma_2, ma_3⟩ := Ma.out.bx.four
  have ma_l := Ma.out.lt
  have Qb : Hid (Blk _ _ _ _) := k90
  have Mb : Hid (Blk _ _ _ _) := k91
  have B9 : Hid (Below w7.heap.size w7 _) := b9
  clear k90 k91 b9 s9
  go_wp2_with fail
  clear q0_0 q0_1 q0_l m0_0 m0_1 m0_2 m0_3 m0_l qa_0 qa_1 qa_l ma_0 ma_1 ma_2 ma_3 ma_l
  generalize (w7.alloc (.cells #[.slice lab X.tkQ.ls.length lcb, .slice mab X.tkQ.ms.length mcb] 25)).alloc (.cells #[.int .i64 X.tkM.ln, .int .i64 X.tkM.ep, .int .i64 X.tkM.n, .int .u64 X.tkM.pay] 40) = w8 at *
  have H1 : Hid (QIs w8 _ _ _ _) := H1.out.below B9.out
  have Q0 : Hid (Blk w8 _ _ _) := Q0.out.below B9.out
  have M0 : Hid (Blk w8 _ _ _) := M0.out.below B9.out
  have Ha : Hid (QIs w8 _ _ _ _) := Ha.out.below B9.out
  have Qa : Hid (Blk w8 _ _ _) := Qa.out.below B9.out
  have Ma : Hid (Blk w8 _ _ _) := Ma.out.below B9.out
  have Hb : Hid (QIs w8 _ _ _ _) := Hb.out.below B9.out
  have BW : Hid (Below w.heap.size w w8) := Below.onto BW.out B9.out
  refine (retire_any _ _ X V1 m.ln m.ep m.n m.pay w8 HO.out H1.out).mono ?_
  rintro e w9 ⟨uc, xc, Vc, rfl, hqc, hb, _⟩
  have H1 : Hid (QIs w9 _ _ _ _) := H1.out.below hb
  have Q0 : Hid (Blk w9 _ _ _) := Q0.out.below hb
  have M0 : Hid (Blk w9 _ _ _) := M0.out.below hb
  have Ha : Hid (QIs w9 _ _ _ _) := Ha.out.below hb
  have Qa : Hid (Blk w9 _ _ _) := Qa.out.below hb
  have Ma : Hid (Blk w9 _ _ _) := Ma.out.below hb
  have Hb : Hid (QIs w9 _ _ _ _) := Hb.out.below hb
  have Qb : Hid (Blk w9 _ _ _) := Qb.out.below hb
  have Mb : Hid (Blk w9 _ _ _) := Mb.out.below hb
  have BW : Hid (Below w.heap.size w w9) := Below.onto BW.out hb
  obtain ⟨lac, lcc, rfl, _⟩ := hqc.l
  obtain ⟨mac, mcc, rfl, _⟩ := hqc.m
  have Hc : Hid (QIs w9 _ _ _ _) := hqc
  obtain ⟨k90, b9, s9⟩ := alloc1 w9 [.slice lac (X.rtQ m.ln m.ep).ls.length lcc, .slice mac (X.rtQ m.ln m.ep).ms.length mcc] 25
  obtain ⟨q0_0, q0_1⟩ := Q0.out.bx.two
  have q0_l := Q0.out.lt
  obtain ⟨m0_0, m0_1, m0_2, m0_3⟩ := M0.out.bx.four
  have m0_l := M0.out.lt
  obtain ⟨qa_0, qa_1⟩ := Qa.out.bx.two
  have qa_l := Qa.out.lt
  obtain ⟨ma_0, ma_1, ma_2, ma_3⟩ := Ma.out.bx.four
  have ma_l := Ma.out.lt
  obtain ⟨qb_0, qb_1⟩ := Qb.out.bx.two
  have qb_l := Qb.out.lt
  obtain ⟨mb_0, mb_1, mb_2, mb_3⟩ := Mb.out.bx.four
  have mb_l := Mb.out.lt
  have Qc : Hid (Blk _ _ _ _) := k90
  have B9 : Hid (Below w9.heap.size w9 _) := b9
  clear k90 b9 s9
  go_wp2_with fail
  clear q0_0 q0_1 q0_l m0_0 m0_1 m0_2 m0_3 m0_l qa_0 qa_1 qa_l ma_0 ma_1 ma_2 ma_3 ma_l qb_0 qb_1 qb_l mb_0 mb_1 mb_2 mb_3 mb_l
  generalize w9.alloc (.cells #[.slice lac (X.rtQ m.ln m.ep).ls.length lcc, .slice mac (X.rtQ m.ln m.ep).ms.length mcc] 25) = w10 at *
  have H1 : Hid (QIs w10 _ _ _ _) := H1.out.below B9.out
  have Q0 : Hid (Blk w10 _ _ _) := Q0.out.below B9.out
  have M0 : Hid (Blk w10 _ _ _) := M0.out.below B9.out
  have Ha : Hid (QIs w10 _ _ _ _) := Ha.out.below B9.out
  have Qa : Hid (Blk w10 _ _ _) := Qa.out.below B9.out
  have Ma : Hid (Blk w10 _ _ _) := Ma.out.below B9.out
  have Hb : Hid (QIs w10 _ _ _ _) := Hb.out.below B9.out
  have Qb : Hid (Blk w10 _ _ _) := Qb.out.below B9.out
  have Mb : Hid (Blk w10 _ _ _) := Mb.out.below B9.out
  have Hc : Hid (QIs w10 _ _ _ _) := Hc.out.below B9.out
  have BW : Hid (Below w.heap.size w w10) := Below.onto BW.out B9.out
  refine (rretire_any _ _ X V1 m.ln m.ep m.n m.pay w10 HO.out H1.out).mono ?_
  rintro e w11 ⟨ud, xd, Vd, rfl, hqd, hb, _⟩
  have H1 : Hid (QIs w11 _ _ _ _) := H1.out.below hb
  have Q0 : Hid (Blk w11 _ _ _) := Q0.out.below hb
  have M0 : Hid (Blk w11 _ _ _) := M0.out.below hb
  have Ha : Hid (QIs w11 _ _ _ _) := Ha.out.below hb
  have Qa : Hid (Blk w11 _ _ _) := Qa.out.below hb
  have Ma : Hid (Blk w11 _ _ _) := Ma.out.below hb
  have Hb : Hid (QIs w11 _ _ _ _) := Hb.out.below hb
  have Qb : Hid (Blk w11 _ _ _) := Qb.out.below hb
  have Mb : Hid (Blk w11 _ _ _) := Mb.out.below hb
  have Hc : Hid (QIs w11 _ _ _ _) := Hc.out.below hb
  have Qc : Hid (Blk w11 _ _ _) := Qc.out.below hb
  have BW : Hid (Below w.heap.size w w11) := Below.onto BW.out hb
  obtain ⟨lad, lcd, rfl, _⟩ := hqd.l
  obtain ⟨mad, mcd, rfl, _⟩ := hqd.m
  have Hd : Hid (QIs w11 _ _ _ _) := hqd
  obtain ⟨k90, b9, s9⟩ := alloc1 w11 [.slice lad (X.rtQ m.ln m.ep).ls.length lcd, .slice mad (X.rtQ m.ln m.ep).ms.length mcd] 25
  obtain ⟨q0_0, q0_1⟩ := Q0.out.bx.two
  have q0_l := Q0.out.lt
  obtain ⟨m0_0, m0_1, m0_2, m0_3⟩ := M0.out.bx.four
  have m0_l := M0.out.lt
  obtain ⟨qa_0, qa_1⟩ := Qa.out.bx.two
  have qa_l := Qa.out.lt
  obtain ⟨ma_0, ma_1, ma_2, ma_3⟩ := Ma.out.bx.four
  have ma_l := Ma.out.lt
  obtain ⟨qb_0, qb_1⟩ := Qb.out.bx.two
  have qb_l := Qb.out.lt
  obtain ⟨mb_0, mb_1, mb_2, mb_3⟩ := Mb.out.bx.four
  have mb_l := Mb.out.lt
  obtain ⟨qc_0, qc_1⟩ := Qc.out.bx.two
  have qc_l := Qc.out.lt
  have Qd : Hid (Blk _ _ _ _) := k90
  have B9 : Hid (Below w11.heap.size w11 _) := b9
  clear k90 b9 s9
  go_wp2_with fail
  clear q0_0 q0_1 q0_l m0_0 m0_1 m0_2 m0_3 m0_l qa_0 qa_1 qa_l ma_0 ma_1 ma_2 ma_3 ma_l qb_0 qb_1 qb_l mb_0 mb_1 mb_2 mb_3 mb_l qc_0 qc_1 qc_l
  generalize w11.alloc (.cells #[.slice lad (X.rtQ m.ln m.ep).ls.length lcd, .slice mad (X.rtQ m.ln m.ep).ms.length mcd] 25) = w12 at *
  have H1 : Hid (QIs w12 _ _ _ _) := H1.out.below B9.out
  have Q0 : Hid (Blk w12 _ _ _) := Q0.out.below B9.out
  have M0 : Hid (Blk w12 _ _ _) := M0.out.below B9.out
  have Ha : Hid (QIs w12 _ _ _ _) := Ha.out.below B9.out
  have Qa : Hid (Blk w12 _ _ _) := Qa.out.below B9.out
  have Ma : Hid (Blk w12 _ _ _) := Ma.out.below B9.out
  have Hb : Hid (QIs w12 _ _ _ _) := Hb.out.below B9.out
  have Qb : Hid (Blk w12 _ _ _) := Qb.out.below B9.out
  have Mb : Hid (Blk w12 _ _ _) := Mb.out.below B9.out
  have Hc : Hid (QIs w12 _ _ _ _) := Hc.out.below B9.out
  have Qc : Hid (Blk w12 _ _ _) := Qc.out.below B9.out
  have Hd : Hid (QIs w12 _ _ _ _) := Hd.out.below B9.out
  have BW : Hid (Below w.heap.size w w12) := Below.onto BW.out B9.out
  refine (reset_any _ _ X V1 ln w12 HO.out H1.out).mono ?_
  rintro e w13 ⟨us, xs, Vs, rfl, hqs, hb, _⟩
  have H1 : Hid (QIs w13 _ _ _ _) := H1.out.below hb
  have Q0 : Hid (Blk w13 _ _ _) := Q0.out.below hb
  have M0 : Hid (Blk w13 _ _ _) := M0.out.below hb
  have Ha : Hid (QIs w13 _ _ _ _) := Ha.out.below hb
  have Qa : Hid (Blk w13 _ _ _) := Qa.out.below hb
  have Ma : Hid (Blk w13 _ _ _) := Ma.out.below hb
  have Hb : Hid (QIs w13 _ _ _ _) := Hb.out.below hb
  have Qb : Hid (Blk w13 _ _ _) := Qb.out.below hb
  have Mb : Hid (Blk w13 _ _ _) := Mb.out.below hb
  have Hc : Hid (QIs w13 _ _ _ _) := Hc.out.below hb
  have Qc : Hid (Blk w13 _ _ _) := Qc.out.below hb
  have Hd : Hid (QIs w13 _ _ _ _) := Hd.out.below hb
  have Qd : Hid (Blk w13 _ _ _) := Qd.out.below hb
  have BW : Hid (Below w.heap.size w w13) := Below.onto BW.out hb
  obtain ⟨las, lcs, rfl, _⟩ := hqs.l
  obtain ⟨mas, mcs, rfl, _⟩ := hqs.m
  have Hs : Hid (QIs w13 _ _ _ _) := hqs
  obtain ⟨k90, b9, s9⟩ := alloc1 w13 [.slice las (X.rsQ ln).ls.length lcs, .slice mas (X.rsQ ln).ms.length mcs] 25
  obtain ⟨q0_0, q0_1⟩ := Q0.out.bx.two
  have q0_l := Q0.out.lt
  obtain ⟨m0_0, m0_1, m0_2, m0_3⟩ := M0.out.bx.four
  have m0_l := M0.out.lt
  obtain ⟨qa_0, qa_1⟩ := Qa.out.bx.two
  have qa_l := Qa.out.lt
  obtain ⟨ma_0, ma_1, ma_2, ma_3⟩ := Ma.out.bx.four
  have ma_l := Ma.out.lt
  obtain ⟨qb_0, qb_1⟩ := Qb.out.bx.two
  have qb_l := Qb.out.lt
  obtain ⟨mb_0, mb_1, mb_2, mb_3⟩ := Mb.out.bx.four
  have mb_l := Mb.out.lt
  obtain ⟨qc_0, qc_1⟩ := Qc.out.bx.two
  have qc_l := Qc.out.lt
  obtain ⟨qd_0, qd_1⟩ := Qd.out.bx.two
  have qd_l := Qd.out.lt
  have Qs : Hid (Blk _ _ _ _) := k90
  have B9 : Hid (Below w13.heap.size w13 _) := b9
  clear k90 b9 s9
  go_wp2_with fail
  clear q0_0 q0_1 q0_l m0_0 m0_1 m0_2 m0_3 m0_l qa_0 qa_1 qa_l ma_0 ma_1 ma_2 ma_3 ma_l qb_0 qb_1 qb_l mb_0 mb_1 mb_2 mb_3 mb_l qc_0 qc_1 qc_l qd_0 qd_1 qd_l
  generalize w13.alloc (.cells #[.slice las (X.rsQ ln).ls.length lcs, .slice mas (X.rsQ ln).ms.length mcs] 25) = w14 at *
  have H1 : Hid (QIs w14 _ _ _ _) := H1.out.below B9.out
  have Q0 : Hid (Blk w14 _ _ _) := Q0.out.below B9.out
  have M0 : Hid (Blk w14 _ _ _) := M0.out.below B9.out
  have Ha : Hid (QIs w14 _ _ _ _) := Ha.out.below B9.out
  have Qa : Hid (Blk w14 _ _ _) := Qa.out.below B9.out
  have Ma : Hid (Blk w14 _ _ _) := Ma.out.below B9.out
  have Hb : Hid (QIs w14 _ _ _ _) := Hb.out.below B9.out
  have Qb : Hid (Blk w14 _ _ _) := Qb.out.below B9.out
  have Mb : Hid (Blk w14 _ _ _) := Mb.out.below B9.out
  have Hc : Hid (QIs w14 _ _ _ _) := Hc.out.below B9.out
  have Qc : Hid (Blk w14 _ _ _) := Qc.out.below B9.out
  have Hd : Hid (QIs w14 _ _ _ _) := Hd.out.below B9.out
  have Qd : Hid (Blk w14 _ _ _) := Qd.out.below B9.out
  have Hs : Hid (QIs w14 _ _ _ _) := Hs.out.below B9.out
  have BW : Hid (Below w.heap.size w w14) := Below.onto BW.out B9.out
  refine (rreset_any _ _ X V1 ln w14 HO.out H1.out).mono ?_
  rintro e w15 ⟨ut, xt, Vt, rfl, hqt, hb, _⟩
  have H1 : Hid (QIs w15 _ _ _ _) := H1.out.below hb
  have Q0 : Hid (Blk w15 _ _ _) := Q0.out.below hb
  have M0 : Hid (Blk w15 _ _ _) := M0.out.below hb
  have Ha : Hid (QIs w15 _ _ _ _) := Ha.out.below hb
  have Qa : Hid (Blk w15 _ _ _) := Qa.out.below hb
  have Ma : Hid (Blk w15 _ _ _) := Ma.out.below hb
  have Hb : Hid (QIs w15 _ _ _ _) := Hb.out.below hb
  have Qb : Hid (Blk w15 _ _ _) := Qb.out.below hb
  have Mb : Hid (Blk w15 _ _ _) := Mb.out.below hb
  have Hc : Hid (QIs w15 _ _ _ _) := Hc.out.below hb
  have Qc : Hid (Blk w15 _ _ _) := Qc.out.below hb
  have Hd : Hid (QIs w15 _ _ _ _) := Hd.out.below hb
  have Qd : Hid (Blk w15 _ _ _) := Qd.out.below hb
  have Hs : Hid (QIs w15 _ _ _ _) := Hs.out.below hb
  have Qs : Hid (Blk w15 _ _ _) := Qs.out.below hb
  have BW : Hid (Below w.heap.size w w15) := Below.onto BW.out hb
  obtain ⟨lat, lct, rfl, _⟩ := hqt.l
  obtain ⟨mat, mct, rfl, _⟩ := hqt.m
  have Ht : Hid (QIs w15 _ _ _ _) := hqt
  obtain ⟨k90, b9, s9⟩ := alloc1 w15 [.slice lat (X.rsQ ln).ls.length lct, .slice mat (X.rsQ ln).ms.length mct] 25
  obtain ⟨q0_0, q0_1⟩ := Q0.out.bx.two
  have q0_l := Q0.out.lt
  obtain ⟨m0_0, m0_1, m0_2, m0_3⟩ := M0.out.bx.four
  have m0_l := M0.out.lt
  obtain ⟨qa_0, qa_1⟩ := Qa.out.bx.two
  have qa_l := Qa.out.lt
  obtain ⟨ma_0, ma_1, ma_2, ma_3⟩ := Ma.out.bx.four
  have ma_l := Ma.out.lt
  obtain ⟨qb_0, qb_1⟩ := Qb.out.bx.two
  have qb_l := Qb.out.lt
  obtain ⟨mb_0, mb_1, mb_2, mb_3⟩ := Mb.out.bx.four
  have mb_l := Mb.out.lt
  obtain ⟨qc_0, qc_1⟩ := Qc.out.bx.two
  have qc_l := Qc.out.lt
  obtain ⟨qd_0, qd_1⟩ := Qd.out.bx.two
  have qd_l := Qd.out.lt
  obtain ⟨qs_0, qs_1⟩ := Qs.out.bx.two
  have qs_l := Qs.out.lt
  have Qt : Hid (Blk _ _ _ _) := k90
  have B9 : Hid (Below w15.heap.size w15 _) := b9
  clear k90 b9 s9
  go_wp2_with fail
  clear q0_0 q0_1 q0_l m0_0 m0_1 m0_2 m0_3 m0_l qa_0 qa_1 qa_l ma_0 ma_1 ma_2 ma_3 ma_l qb_0 qb_1 qb_l mb_0 mb_1 mb_2 mb_3 mb_l qc_0 qc_1 qc_l qd_0 qd_1 qd_l qs_0 qs_1 qs_l
  generalize w15.alloc (.cells #[.slice lat (X.rsQ ln).ls.length lct, .slice mat (X.rsQ ln).ms.length mct] 25) = w16 at *
  have H1 : Hid (QIs w16 _ _ _ _) := H1.out.below B9.out
  have Q0 : Hid (Blk w16 _ _ _) := Q0.out.below B9.out
  have M0 : Hid (Blk w16 _ _ _) := M0.out.below B9.out
  have Ha : Hid (QIs w16 _ _ _ _) := Ha.out.below B9.out
  have Qa : Hid (Blk w16 _ _ _) := Qa.out.below B9.out
  have Ma : Hid (Blk w16 _ _ _) := Ma.out.below B9.out
  have Hb : Hid (QIs w16 _ _ _ _) := Hb.out.below B9.out
  have Qb : Hid (Blk w16 _ _ _) := Qb.out.below B9.out
  have Mb : Hid (Blk w16 _ _ _) := Mb.out.below B9.out
  have Hc : Hid (QIs w16 _ _ _ _) := Hc.out.below B9.out
  have Qc : Hid (Blk w16 _ _ _) := Qc.out.below B9.out
  have Hd : Hid (QIs w16 _ _ _ _) := Hd.out.below B9.out
  have Qd : Hid (Blk w16 _ _ _) := Qd.out.below B9.out
  have Hs : Hid (QIs w16 _ _ _ _) := Hs.out.below B9.out
  have Qs : Hid (Blk w16 _ _ _) := Qs.out.below B9.out
  have Ht : Hid (QIs w16 _ _ _ _) := Ht.out.below B9.out
  have BW : Hid (Below w.heap.size w w16) := Below.onto BW.out B9.out
  refine (rsame_one _ _ _ _ _ _ _ _ (tkQ_okq HO.out) Ha.out Hb.out).mono ?_
  rintro e w17 ⟨rfl, hb⟩
  have H1 : Hid (QIs w17 _ _ _ _) := H1.out.below hb
  have Q0 : Hid (Blk w17 _ _ _) := Q0.out.below hb
  have M0 : Hid (Blk w17 _ _ _) := M0.out.below hb
  have Ha : Hid (QIs w17 _ _ _ _) := Ha.out.below hb
  have Qa : Hid (Blk w17 _ _ _) := Qa.out.below hb
  have Ma : Hid (Blk w17 _ _ _) := Ma.out.below hb
  have Hb : Hid (QIs w17 _ _ _ _) := Hb.out.below hb
  have Qb : Hid (Blk w17 _ _ _) := Qb.out.below hb
  have Mb : Hid (Blk w17 _ _ _) := Mb.out.below hb
  have Hc : Hid (QIs w17 _ _ _ _) := Hc.out.below hb
  have Qc : Hid (Blk w17 _ _ _) := Qc.out.below hb
  have Hd : Hid (QIs w17 _ _ _ _) := Hd.out.below hb
  have Qd : Hid (Blk w17 _ _ _) := Qd.out.below hb
  have Hs : Hid (QIs w17 _ _ _ _) := Hs.out.below hb
  have Qs : Hid (Blk w17 _ _ _) := Qs.out.below hb
  have Ht : Hid (QIs w17 _ _ _ _) := Ht.out.below hb
  have Qt : Hid (Blk w17 _ _ _) := Qt.out.below hb
  have BW : Hid (Below w.heap.size w w17) := Below.onto BW.out hb
  obtain ⟨q0_0, q0_1⟩ := Q0.out.bx.two
  have q0_l := Q0.out.lt
  obtain ⟨m0_0, m0_1, m0_2, m0_3⟩ := M0.out.bx.four
  have m0_l := M0.out.lt
  obtain ⟨qa_0, qa_1⟩ := Qa.out.bx.two
  have qa_l := Qa.out.lt
  obtain ⟨ma_0, ma_1, ma_2, ma_3⟩ := Ma.out.bx.four
  have ma_l := Ma.out.lt
  obtain ⟨qb_0, qb_1⟩ := Qb.out.bx.two
  have qb_l := Qb.out.lt
  obtain ⟨mb_0, mb_1, mb_2, mb_3⟩ := Mb.out.bx.four
  have mb_l := Mb.out.lt
  obtain ⟨qc_0, qc_1⟩ := Qc.out.bx.two
  have qc_l := Qc.out.lt
  obtain ⟨qd_0, qd_1⟩ := Qd.out.bx.two
  have qd_l := Qd.out.lt
  obtain ⟨qs_0, qs_1⟩ := Qs.out.bx.two
  have qs_l := Qs.out.lt
  obtain ⟨qt_0, qt_1⟩ := Qt.out.bx.two
  have qt_l := Qt.out.lt
  go_wp2_with fail
  clear q0_0 q0_1 q0_l m0_0 m0_1 m0_2 m0_3 m0_l qa_0 qa_1 qa_l ma_0 ma_1 ma_2 ma_3 ma_l qb_0 qb_1 qb_l mb_0 mb_1 mb_2 mb_3 mb_l qc_0 qc_1 qc_l qd_0 qd_1 qd_l qs_0 qs_1 qs_l qt_0 qt_1 qt_l
  refine (rsame_one _ _ _ _ _ _ _ _ (rtQ_okq HO.out) Hc.out Hd.out).mono ?_
  rintro e w18 ⟨rfl, hb⟩
  have H1 : Hid (QIs w18 _ _ _ _) := H1.out.below hb
  have Q0 : Hid (Blk w18 _ _ _) := Q0.out.below hb
  have M0 : Hid (Blk w18 _ _ _) := M0.out.below hb
  have Ha : Hid (QIs w18 _ _ _ _) := Ha.out.below hb
  have Qa : Hid (Blk w18 _ _ _) := Qa.out.below hb
  have Ma : Hid (Blk w18 _ _ _) := Ma.out.below hb
  have Hb : Hid (QIs w18 _ _ _ _) := Hb.out.below hb
  have Qb : Hid (Blk w18 _ _ _) := Qb.out.below hb
  have Mb : Hid (Blk w18 _ _ _) := Mb.out.below hb
  have Hc : Hid (QIs w18 _ _ _ _) := Hc.out.below hb
  have Qc : Hid (Blk w18 _ _ _) := Qc.out.below hb
  have Hd : Hid (QIs w18 _ _ _ _) := Hd.out.below hb
  have Qd : Hid (Blk w18 _ _ _) := Qd.out.below hb
  have Hs : Hid (QIs w18 _ _ _ _) := Hs.out.below hb
  have Qs : Hid (Blk w18 _ _ _) := Qs.out.below hb
  have Ht : Hid (QIs w18 _ _ _ _) := Ht.out.below hb
  have Qt : Hid (Blk w18 _ _ _) := Qt.out.below hb
  have BW : Hid (Below w.heap.size w w18) := Below.onto BW.out hb
  obtain ⟨q0_0, q0_1⟩ := Q0.out.bx.two
  have q0_l := Q0.out.lt
  obtain ⟨m0_0, m0_1, m0_2, m0_3⟩ := M0.out.bx.four
  have m0_l := M0.out.lt
  obtain ⟨qa_0, qa_1⟩ := Qa.out.bx.two
  have qa_l := Qa.out.lt
  obtain ⟨ma_0, ma_1, ma_2, ma_3⟩ := Ma.out.bx.four
  have ma_l := Ma.out.lt
  obtain ⟨qb_0, qb_1⟩ := Qb.out.bx.two
  have qb_l := Qb.out.lt
  obtain ⟨mb_0, mb_1, mb_2, mb_3⟩ := Mb.out.bx.four
  have mb_l := Mb.out.lt
  obtain ⟨qc_0, qc_1⟩ := Qc.out.bx.two
  have qc_l := Qc.out.lt
  obtain ⟨qd_0, qd_1⟩ := Qd.out.bx.two
  have qd_l := Qd.out.lt
  obtain ⟨qs_0, qs_1⟩ := Qs.out.bx.two
  have qs_l := Qs.out.lt
  obtain ⟨qt_0, qt_1⟩ := Qt.out.bx.two
  have qt_l := Qt.out.lt
  go_wp2_with fail
  clear q0_0 q0_1 q0_l m0_0 m0_1 m0_2 m0_3 m0_l qa_0 qa_1 qa_l ma_0 ma_1 ma_2 ma_3 ma_l qb_0 qb_1 qb_l mb_0 mb_1 mb_2 mb_3 mb_l qc_0 qc_1 qc_l qd_0 qd_1 qd_l qs_0 qs_1 qs_l qt_0 qt_1 qt_l
  refine (rsame_one _ _ _ _ _ _ _ _ (rsQ_okq HO.out) Hs.out Ht.out).mono ?_
  rintro e w19 ⟨rfl, hb⟩
  have H1 : Hid (QIs w19 _ _ _ _) := H1.out.below hb
  have Q0 : Hid (Blk w19 _ _ _) := Q0.out.below hb
  have M0 : Hid (Blk w19 _ _ _) := M0.out.below hb
  have Ha : Hid (QIs w19 _ _ _ _) := Ha.out.below hb
  have Qa : Hid (Blk w19 _ _ _) := Qa.out.below hb
  have Ma : Hid (Blk w19 _ _ _) := Ma.out.below hb
  have Hb : Hid (QIs w19 _ _ _ _) := Hb.out.below hb
  have Qb : Hid (Blk w19 _ _ _) := Qb.out.below hb
  have Mb : Hid (Blk w19 _ _ _) := Mb.out.below hb
  have Hc : Hid (QIs w19 _ _ _ _) := Hc.out.below hb
  have Qc : Hid (Blk w19 _ _ _) := Qc.out.below hb
  have Hd : Hid (QIs w19 _ _ _ _) := Hd.out.below hb
  have Qd : Hid (Blk w19 _ _ _) := Qd.out.below hb
  have Hs : Hid (QIs w19 _ _ _ _) := Hs.out.below hb
  have Qs : Hid (Blk w19 _ _ _) := Qs.out.below hb
  have Ht : Hid (QIs w19 _ _ _ _) := Ht.out.below hb
  have Qt : Hid (Blk w19 _ _ _) := Qt.out.below hb
  have BW : Hid (Below w.heap.size w w19) := Below.onto BW.out hb
  obtain ⟨q0_0, q0_1⟩ := Q0.out.bx.two
  have q0_l := Q0.out.lt
  obtain ⟨m0_0, m0_1, m0_2, m0_3⟩ := M0.out.bx.four
  have m0_l := M0.out.lt
  obtain ⟨qa_0, qa_1⟩ := Qa.out.bx.two
  have qa_l := Qa.out.lt
  obtain ⟨ma_0, ma_1, ma_2, ma_3⟩ := Ma.out.bx.four
  have ma_l := Ma.out.lt
  obtain ⟨qb_0, qb_1⟩ := Qb.out.bx.two
  have qb_l := Qb.out.lt
  obtain ⟨mb_0, mb_1, mb_2, mb_3⟩ := Mb.out.bx.four
  have mb_l := Mb.out.lt
  obtain ⟨qc_0, qc_1⟩ := Qc.out.bx.two
  have qc_l := Qc.out.lt
  obtain ⟨qd_0, qd_1⟩ := Qd.out.bx.two
  have qd_l := Qd.out.lt
  obtain ⟨qs_0, qs_1⟩ := Qs.out.bx.two
  have qs_l := Qs.out.lt
  obtain ⟨qt_0, qt_1⟩ := Qt.out.bx.two
  have qt_l := Qt.out.lt
  go_wp2_with fail
  clear q0_0 q0_1 q0_l m0_0 m0_1 m0_2 m0_3 m0_l qa_0 qa_1 qa_l ma_0 ma_1 ma_2 ma_3 ma_l qb_0 qb_1 qb_l mb_0 mb_1 mb_2 mb_3 mb_l qc_0 qc_1 qc_l qd_0 qd_1 qd_l qs_0 qs_1 qs_l qt_0 qt_1 qt_l
  refine (awake_any _).mono ?_
  rintro e wz ⟨rfl, hb⟩
  go_wp2_with fail
  go_ret
  exact ⟨rfl, Below.onto BW.out hb⟩

end Go.Proofs.Ytimmjhegeagofab
