/- Rows of records merged by an agenda: the rows come in. -/
import Derived.Test.YtcfmbppnghlkaaaARound
import Derived.Test.YtcfmbppnghlkaaaKMem
import Derived.RangeFuncNested
import Derived.RangeFuncBound
import Derived.RangeFuncCalls
import Derived.RangeFuncLeaves
import Derived.RangeFuncWrites
import Derived.RangeFuncBox
import Derived.OwnWalkIn
import Derived.TacticsInMore
import Derived.Test.YtcfmbppnghlkaaaYMg
namespace Go.Proofs.Ytcfmbppnghlkaaa
open Go.RowKit Go.Shelf

section
variable {F : Fence} {n : Nat} {P : Program} {ops : Array Oper} {Q : Exit → Act → World → Prop} {o0 o1 o2 o3 o4 o5 o6 : Oper} {tl tr d0 d1 d2 d3 d4 d5 : Nat} {a : Act} {w w' W2 W3 : World} {vl v1 v2 v3 v4 v5 pl vr : Value}

/-- two frames are one where all their slots are -/
theorem act_eq {b A : Act} (hd : b.defers = A.defers) (h : ∀ d : Nat, b.tmps[d]? = A.tmps[d]?) : b = A := by
  obtain ⟨t, ds⟩ := b
  obtain ⟨t', ds'⟩ := A
  simp only at hd h
  rw [hd, Array.ext_getElem? h]
/-- one slot more is right -/
theorem put_right {b A : Act} {d : Nat} {v : Value} (hA : A.tmps[d]? = some v) (hz : d < b.tmps.size) {e : Nat} (h : e ≠ d → b.tmps[e]? = A.tmps[e]?) : (b.put (some d) v).tmps[e]? = A.tmps[e]? := by
  by_cases q : e = d
  · rw [q, rput_at hz, hA]
  · rw [rput_ne (Ne.symm q)]; exact h q

/-- o0: the row is loaded; o1, o2, o3: the element; o4: a row of it is built; o5: appended; o6: stored. A: the frame behind it -/
theorem round_app (hF : ∀ f, F.fn f)
    (e0 : ops[0]? = some o0) (e1 : ops[1]? = some o1) (e2 : ops[2]? = some o2) (e3 : ops[3]? = some o3) (e4 : ops[4]? = some o4) (e5 : ops[5]? = some o5) (e6 : ops[6]? = some o6)
    (g0 : o0.guard = none) (g1 : o1.guard = none) (g2 : o2.guard = none) (g3 : o3.guard = none) (g4 : o4.guard = none) (g5 : o5.guard = none) (g6 : o6.guard = none)
    (q0 : ∀ c, o0.op ≠ .defer c) (q1 : ∀ c, o1.op ≠ .defer c) (q2 : ∀ c, o2.op ≠ .defer c) (q3 : ∀ c, o3.op ≠ .defer c) (q4 : ∀ c, o4.op ≠ .defer c) (q5 : ∀ c, o5.op ≠ .defer c) (q6 : ∀ c, o6.op ≠ .defer c)
    (t0 : o0.dst = some d0) (t1 : o1.dst = some d1) (t2 : o2.dst = some d2) (t3 : o3.dst = some d3) (t4 : o4.dst = some d4) (t5 : o5.dst = some d5) (t6 : o6.dst = none)
    (r : Region.ready .any ops #[false, false, false, false, false, false, false] = [0, 1])
    (r0 : Region.ready .any ops #[true, false, false, false, false, false, false] = [1]) (r1 : Region.ready .any ops #[false, true, false, false, false, false, false] = [0, 2])
    (r01 : Region.ready .any ops #[true, true, false, false, false, false, false] = [2]) (r12 : Region.ready .any ops #[false, true, true, false, false, false, false] = [0, 3])
    (r012 : Region.ready .any ops #[true, true, true, false, false, false, false] = [3]) (r123 : Region.ready .any ops #[false, true, true, true, false, false, false] = [0, 4])
    (r0123 : Region.ready .any ops #[true, true, true, true, false, false, false] = [4]) (r1234 : Region.ready .any ops #[false, true, true, true, true, false, false] = [0])
    (r5 : Region.ready .any ops #[true, true, true, true, true, false, false] = [5]) (r6 : Region.ready .any ops #[true, true, true, true, true, true, false] = [6]) (r7 : Region.ready .any ops #[true, true, true, true, true, true, true] = [])
    (A : Act) (hz : A.tmps.size = a.tmps.size) (hd : A.defers = a.defers) (A0 : A.tmps[d0]? = some vl) (A1 : A.tmps[d1]? = some v1) (A2 : A.tmps[d2]? = some v2) (A3 : A.tmps[d3]? = some v3) (A4 : A.tmps[d4]? = some v4) (A5 : A.tmps[d5]? = some v5)
    (Ao : ∀ d, d ≠ d0 → d ≠ d1 → d ≠ d2 → d ≠ d3 → d ≠ d4 → d ≠ d5 → a.tmps[d]? = A.tmps[d]?)
    (ne : [tl, tr, d0, d1, d2, d3, d4, d5].Nodup)
    (hl : A.tmps[tl]? = some pl) (hr : A.tmps[tr]? = some vr)
    (x0 : ∀ (b : Act) W, b.tmps[tl]? = some pl → (W = w ∨ W = w') → (execOp b.eval o0).run P W = .ok (.value vl) W)
    (x1 : ∀ b : Act, b.tmps[tr]? = some vr → (execOp b.eval o1).run P w = .ok (.value v1) w)
    (x2 : ∀ b : Act, b.tmps[d1]? = some v1 → (execOp b.eval o2).run P w = .ok (.value v2) w)
    (x3 : ∀ b : Act, b.tmps[d2]? = some v2 → (execOp b.eval o3).run P w = .ok (.value v3) w)
    (x4 : ∀ b : Act, b.tmps[d3]? = some v3 → (execOp b.eval o4).run P w = .ok (.value v4) w')
    (x5 : ∀ b : Act, b.tmps[d0]? = some vl → b.tmps[d4]? = some v4 → (execOp b.eval o5).run P w' = .ok (.value v5) W2)
    (x6 : ∀ b : Act, b.tmps[tl]? = some pl → b.tmps[d5]? = some v5 → (execOp b.eval o6).run P W2 = .ok .skip W3)
    (hQ : Q .normal A W3) :
    wpAnyIn F n P .any ops Q 7 #[false, false, false, false, false, false, false] a w := by
  simp only [List.nodup_cons, List.mem_cons, List.not_mem_nil, or_false, not_or, List.nodup_nil, and_true, not_false_eq_true] at ne
  obtain ⟨⟨l1, l2, l3, l4, l5, l6, l7⟩, ⟨a2, a3, a4, a5, a6, a7⟩, ⟨m1, m2, m3, m4, m5⟩, ⟨p2, p3, p4, p5⟩, ⟨s3, s4, s5⟩, ⟨u4, u5⟩, y5⟩ := ne
  have sz : ∀ {d v}, A.tmps[d]? = some v → d < a.tmps.size := fun h => hz ▸ (Array.getElem?_eq_some_iff.1 h).1
  have z0 := sz A0
  have z1 := sz A1
  have z2 := sz A2
  have z3 := sz A3
  have z4 := sz A4
  have z5 := sz A5
  have G5 : ∀ b : Act, b.tmps.size = a.tmps.size → b.defers = a.defers → (∀ d, d ≠ d5 → b.tmps[d]? = A.tmps[d]?) →
      wpAnyIn F n P .any ops Q 2 #[true, true, true, true, true, false, false] b w' := by
    intro b hs hdb ho
    refine wpAnyIn_ready r5 (by simp) (AllReadyIn.cons e5 (fun K hK => ?_) AllReadyIn.nil)
    refine rstep_val hF g5 q5 v5 (x5 b ((ho d0 m5).trans A0) ((ho d4 y5).trans A4)) (hK _ _ ?_)
    rw [t5]
    have e : b.put (some d5) v5 = A := act_eq (hdb.trans hd.symm) fun d => put_right A5 (by omega) (ho d)
    rw [e]
    refine wpAnyIn_ready r6 (by simp) (AllReadyIn.cons e6 (fun K hK => ?_) AllReadyIn.nil)
    refine rstep_skip hF g6 q6 (x6 A hl A5) (hK _ _ (wpAnyIn_done r7 ?_ _))
    rw [t6]
    exact hQ
  have G4 : ∀ b : Act, b.tmps.size = a.tmps.size → b.defers = a.defers → (∀ d, d ≠ d4 → d ≠ d5 → b.tmps[d]? = A.tmps[d]?) →
      wpAnyIn F n P .any ops Q 3 #[true, true, true, true, false, false, false] b w := by
    intro b hs hdb ho
    refine wpAnyIn_ready r0123 (by simp) (AllReadyIn.cons e4 (fun K hK => ?_) AllReadyIn.nil)
    refine rstep_val hF g4 q4 v4 (x4 b ((ho d3 u4 u5).trans A3)) (hK _ _ ?_)
    rw [t4]
    exact G5 _ (rput_sz.trans hs) hdb (fun d n5 => put_right A4 (by omega) fun n4 => ho d n4 n5)
  have G4' : ∀ b : Act, b.tmps.size = a.tmps.size → b.defers = a.defers → (∀ d, d ≠ d0 → d ≠ d4 → d ≠ d5 → b.tmps[d]? = A.tmps[d]?) →
      wpAnyIn F n P .any ops Q 4 #[false, true, true, true, false, false, false] b w := by
    intro b hs hdb ho
    have hb := (ho tl l2 l6 l7).trans hl
    refine wpAnyIn_ready r123 (by simp) (AllReadyIn.cons e0 (fun K hK => ?_) (AllReadyIn.cons e4 (fun K hK => ?_) AllReadyIn.nil))
    · refine rstep_val hF g0 q0 vl (x0 b w hb (.inl rfl)) (hK _ _ ?_)
      rw [t0]
      exact G4 _ (rput_sz.trans hs) hdb (fun d n4 n5 => put_right A0 (by omega) fun n0 => ho d n0 n4 n5)
    · refine rstep_val hF g4 q4 v4 (x4 b ((ho d3 (Ne.symm m3) u4 u5).trans A3)) (hK _ _ ?_)
      rw [t4]
      have ho' : ∀ d, d ≠ d0 → d ≠ d5 → (b.put (some d4) v4).tmps[d]? = A.tmps[d]? := fun d n0 n5 => put_right A4 (by omega) fun n4 => ho d n0 n4 n5
      refine wpAnyIn_ready r1234 (by simp) (AllReadyIn.cons e0 (fun K hK => ?_) AllReadyIn.nil)
      refine rstep_val hF g0 q0 vl (x0 _ w' ((ho' tl l2 l7).trans hl) (.inr rfl)) (hK _ _ ?_)
      rw [t0]
      exact G5 _ (rput_sz.trans (rput_sz.trans hs)) hdb (fun d n5 => put_right A0 (by rw [rput_sz]; omega) fun n0 => ho' d n0 n5)
  have G3 : ∀ b : Act, b.tmps.size = a.tmps.size → b.defers = a.defers → (∀ d, d ≠ d3 → d ≠ d4 → d ≠ d5 → b.tmps[d]? = A.tmps[d]?) →
      wpAnyIn F n P .any ops Q 4 #[true, true, true, false, false, false, false] b w := by
    intro b hs hdb ho
    refine wpAnyIn_ready r012 (by simp) (AllReadyIn.cons e3 (fun K hK => ?_) AllReadyIn.nil)
    refine rstep_val hF g3 q3 v3 (x3 b ((ho d2 s3 s4 s5).trans A2)) (hK _ _ ?_)
    rw [t3]
    exact G4 _ (rput_sz.trans hs) hdb (fun d n4 n5 => put_right A3 (by omega) fun n3 => ho d n3 n4 n5)
  have G3' : ∀ b : Act, b.tmps.size = a.tmps.size → b.defers = a.defers → (∀ d, d ≠ d0 → d ≠ d3 → d ≠ d4 → d ≠ d5 → b.tmps[d]? = A.tmps[d]?) →
      wpAnyIn F n P .any ops Q 5 #[false, true, true, false, false, false, false] b w := by
    intro b hs hdb ho
    have hb := (ho tl l2 l5 l6 l7).trans hl
    refine wpAnyIn_ready r12 (by simp) (AllReadyIn.cons e0 (fun K hK => ?_) (AllReadyIn.cons e3 (fun K hK => ?_) AllReadyIn.nil))
    · refine rstep_val hF g0 q0 vl (x0 b w hb (.inl rfl)) (hK _ _ ?_)
      rw [t0]
      exact G3 _ (rput_sz.trans hs) hdb (fun d n3 n4 n5 => put_right A0 (by omega) fun n0 => ho d n0 n3 n4 n5)
    · refine rstep_val hF g3 q3 v3 (x3 b ((ho d2 (Ne.symm m2) s3 s4 s5).trans A2)) (hK _ _ ?_)
      rw [t3]
      exact G4' _ (rput_sz.trans hs) hdb (fun d n0 n4 n5 => put_right A3 (by omega) fun n3 => ho d n0 n3 n4 n5)
  have G2 : ∀ b : Act, b.tmps.size = a.tmps.size → b.defers = a.defers → (∀ d, d ≠ d2 → d ≠ d3 → d ≠ d4 → d ≠ d5 → b.tmps[d]? = A.tmps[d]?) →
      wpAnyIn F n P .any ops Q 5 #[true, true, false, false, false, false, false] b w := by
    intro b hs hdb ho
    refine wpAnyIn_ready r01 (by simp) (AllReadyIn.cons e2 (fun K hK => ?_) AllReadyIn.nil)
    refine rstep_val hF g2 q2 v2 (x2 b ((ho d1 p2 p3 p4 p5).trans A1)) (hK _ _ ?_)
    rw [t2]
    exact G3 _ (rput_sz.trans hs) hdb (fun d n3 n4 n5 => put_right A2 (by omega) fun n2 => ho d n2 n3 n4 n5)
  refine wpAnyIn_ready r (by simp) (AllReadyIn.cons e0 (fun K hK => ?_) (AllReadyIn.cons e1 (fun K hK => ?_) AllReadyIn.nil))
  · refine rstep_val hF g0 q0 vl (x0 a w ((Ao tl l2 l3 l4 l5 l6 l7).trans hl) (.inl rfl)) (hK _ _ ?_)
    rw [t0]
    have ho : ∀ d, d ≠ d1 → d ≠ d2 → d ≠ d3 → d ≠ d4 → d ≠ d5 → (a.put (some d0) vl).tmps[d]? = A.tmps[d]? := fun d n1 n2 n3 n4 n5 => put_right A0 z0 fun n0 => Ao d n0 n1 n2 n3 n4 n5
    refine wpAnyIn_ready r0 (by simp) (AllReadyIn.cons e1 (fun K hK => ?_) AllReadyIn.nil)
    refine rstep_val hF g1 q1 v1 (x1 _ ((ho tr a3 a4 a5 a6 a7).trans hr)) (hK _ _ ?_)
    rw [t1]
    exact G2 _ (rput_sz.trans rput_sz) rfl (fun d n2 n3 n4 n5 => put_right A1 (by rw [rput_sz]; omega) fun n1 => ho d n1 n2 n3 n4 n5)
  · refine rstep_val hF g1 q1 v1 (x1 a ((Ao tr a2 a3 a4 a5 a6 a7).trans hr)) (hK _ _ ?_)
    rw [t1]
    have ho : ∀ d, d ≠ d0 → d ≠ d2 → d ≠ d3 → d ≠ d4 → d ≠ d5 → (a.put (some d1) v1).tmps[d]? = A.tmps[d]? := fun d n0 n2 n3 n4 n5 => put_right A1 z1 fun n1 => Ao d n0 n1 n2 n3 n4 n5
    refine wpAnyIn_ready r1 (by simp) (AllReadyIn.cons e0 (fun K hK => ?_) (AllReadyIn.cons e2 (fun K hK => ?_) AllReadyIn.nil))
    · refine rstep_val hF g0 q0 vl (x0 _ w ((ho tl l2 l4 l5 l6 l7).trans hl) (.inl rfl)) (hK _ _ ?_)
      rw [t0]
      exact G2 _ (rput_sz.trans rput_sz) rfl (fun d n2 n3 n4 n5 => put_right A0 (by rw [rput_sz]; omega) fun n0 => ho d n0 n2 n3 n4 n5)
    · refine rstep_val hF g2 q2 v2 (x2 _ ((ho d1 (Ne.symm m1) p2 p3 p4 p5).trans A1)) (hK _ _ ?_)
      rw [t2]
      exact G3' _ (rput_sz.trans rput_sz) rfl (fun d n0 n3 n4 n5 => put_right A2 (by rw [rput_sz]; omega) fun n2 => ho d n0 n2 n3 n4 n5)

/-- o0: what it is pushed into; o1, o2: the rest; o3: the call -/
theorem round_push (hF : ∀ f, F.fn f) (hF2 : F.depth = none)
    (e0 : ops[0]? = some o0) (e1 : ops[1]? = some o1) (e2 : ops[2]? = some o2) (e3 : ops[3]? = some o3)
    (g0 : o0.guard = none) (g1 : o1.guard = none) (g2 : o2.guard = none) (g3 : o3.guard = none)
    (q0 : ∀ c, o0.op ≠ .defer c) (q1 : ∀ c, o1.op ≠ .defer c) (q2 : ∀ c, o2.op ≠ .defer c) (q3 : ∀ c, o3.op ≠ .defer c)
    (t0 : o0.dst = some d0) (t1 : o1.dst = some d1) (t2 : o2.dst = some d2) (t3 : o3.dst = some d3)
    (r : Region.ready .any ops #[false, false, false, false] = [0, 1]) (r0 : Region.ready .any ops #[true, false, false, false] = [1]) (r1 : Region.ready .any ops #[false, true, false, false] = [0, 2])
    (r01 : Region.ready .any ops #[true, true, false, false] = [2]) (r12 : Region.ready .any ops #[false, true, true, false] = [0]) (r012 : Region.ready .any ops #[true, true, true, false] = [3]) (r3 : Region.ready .any ops #[true, true, true, true] = [])
    (A : Act) (hz : A.tmps.size = a.tmps.size) (hd : A.defers = a.defers) (A0 : A.tmps[d0]? = some vl) (A1 : A.tmps[d1]? = some v1) (A2 : A.tmps[d2]? = some v2)
    (Ao : ∀ d, d ≠ d0 → d ≠ d1 → d ≠ d2 → a.tmps[d]? = A.tmps[d]?)
    (ne : [tl, tr, d0, d1, d2, d3].Nodup)
    (hl : A.tmps[tl]? = some pl) (hr : A.tmps[tr]? = some vr)
    (x0 : ∀ b : Act, b.tmps[tl]? = some pl → (execOp b.eval o0).run P w = .ok (.value vl) w)
    (x1 : ∀ b : Act, b.tmps[tr]? = some vr → (execOp b.eval o1).run P w = .ok (.value v1) w)
    (x2 : ∀ b : Act, b.tmps[d1]? = some v1 → (execOp b.eval o2).run P w = .ok (.value v2) w)
    (f : FuncId) (R : Value → World → Prop)
    (x3 : ∀ b : Act, b.tmps[d0]? = some vl → b.tmps[d2]? = some v2 → (execOp b.eval o3).run P w = .ok (.enter f #[vl, v2]) w)
    (c3 : CallsIn F (n - 1) P f #[vl, v2] w fun e w'' => ∃ v, e = .returned v ∧ R v w'')
    (hQ : ∀ v w'', R v w'' → Q .normal (A.put (some d3) v) w'') :
    wpAnyIn F n P .any ops Q 4 #[false, false, false, false] a w := by
  simp only [List.nodup_cons, List.mem_cons, List.not_mem_nil, or_false, not_or, List.nodup_nil, and_true, not_false_eq_true] at ne
  obtain ⟨⟨l1, l2, l3, l4, l5⟩, ⟨a2, a3, a4, a5⟩, ⟨m1, m2, m3⟩, ⟨p2, p3⟩, s3⟩ := ne
  have sz : ∀ {d v}, A.tmps[d]? = some v → d < a.tmps.size := fun h => hz ▸ (Array.getElem?_eq_some_iff.1 h).1
  have z0 := sz A0
  have z1 := sz A1
  have z2 := sz A2
  have G3 : ∀ b : Act, b.defers = a.defers → (∀ d : Nat, b.tmps[d]? = A.tmps[d]?) →
      wpAnyIn F n P .any ops Q 1 #[true, true, true, false] b w := by
    intro b hdb ho
    have e : b = A := act_eq (hdb.trans hd.symm) ho
    rw [e]
    refine wpAnyIn_ready r012 (by simp) (AllReadyIn.cons e3 (fun K hK => ?_) AllReadyIn.nil)
    refine rstep_call hF hF2 g3 q3 f #[vl, v2] R (x3 A A0 A2) c3 fun v W hv => hK _ _ (wpAnyIn_done r3 ?_ _)
    rw [t3]
    exact hQ v W hv
  have G2 : ∀ b : Act, b.tmps.size = a.tmps.size → b.defers = a.defers → (∀ d, d ≠ d2 → b.tmps[d]? = A.tmps[d]?) →
      wpAnyIn F n P .any ops Q 2 #[true, true, false, false] b w := by
    intro b hs hdb ho
    refine wpAnyIn_ready r01 (by simp) (AllReadyIn.cons e2 (fun K hK => ?_) AllReadyIn.nil)
    refine rstep_val hF g2 q2 v2 (x2 b ((ho d1 p2).trans A1)) (hK _ _ ?_)
    rw [t2]
    exact G3 _ hdb (fun d => put_right A2 (by omega) fun n2 => ho d n2)
  refine wpAnyIn_ready r (by simp) (AllReadyIn.cons e0 (fun K hK => ?_) (AllReadyIn.cons e1 (fun K hK => ?_) AllReadyIn.nil))
  · refine rstep_val hF g0 q0 vl (x0 a ((Ao tl l2 l3 l4).trans hl)) (hK _ _ ?_)
    rw [t0]
    have ho : ∀ d, d ≠ d1 → d ≠ d2 → (a.put (some d0) vl).tmps[d]? = A.tmps[d]? := fun d n1 n2 => put_right A0 z0 fun n0 => Ao d n0 n1 n2
    refine wpAnyIn_ready r0 (by simp) (AllReadyIn.cons e1 (fun K hK => ?_) AllReadyIn.nil)
    refine rstep_val hF g1 q1 v1 (x1 _ ((ho tr a3 a4).trans hr)) (hK _ _ ?_)
    rw [t1]
    exact G2 _ (rput_sz.trans rput_sz) rfl (fun d n2 => put_right A1 (by rw [rput_sz]; omega) fun n1 => ho d n1 n2)
  · refine rstep_val hF g1 q1 v1 (x1 a ((Ao tr a2 a3 a4).trans hr)) (hK _ _ ?_)
    rw [t1]
    have ho : ∀ d, d ≠ d0 → d ≠ d2 → (a.put (some d1) v1).tmps[d]? = A.tmps[d]? := fun d n0 n2 => put_right A1 z1 fun n1 => Ao d n0 n1 n2
    refine wpAnyIn_ready r1 (by simp) (AllReadyIn.cons e0 (fun K hK => ?_) (AllReadyIn.cons e2 (fun K hK => ?_) AllReadyIn.nil))
    · refine rstep_val hF g0 q0 vl (x0 _ ((ho tl l2 l4).trans hl)) (hK _ _ ?_)
      rw [t0]
      exact G2 _ (rput_sz.trans rput_sz) rfl (fun d n2 => put_right A0 (by rw [rput_sz]; omega) fun n0 => ho d n0 n2)
    · refine rstep_val hF g2 q2 v2 (x2 _ ((ho d1 (Ne.symm m1) p2).trans A1)) (hK _ _ ?_)
      rw [t2]
      have ho' : ∀ d, d ≠ d0 → ((a.put (some d1) v1).put (some d2) v2).tmps[d]? = A.tmps[d]? := fun d n0 => put_right A2 (by rw [rput_sz]; omega) fun n2 => ho d n0 n2
      refine wpAnyIn_ready r12 (by simp) (AllReadyIn.cons e0 (fun K hK => ?_) AllReadyIn.nil)
      refine rstep_val hF g0 q0 vl (x0 _ ((ho' tl l2).trans hl)) (hK _ _ ?_)
      rw [t0]
      exact G3 _ rfl (fun d => put_right A0 (by rw [rput_sz, rput_sz]; omega) fun n0 => ho' d n0)
theorem round_app2 (hF : ∀ f, F.fn f)
    (e0 : ops[0]? = some o0) (e1 : ops[1]? = some o1) (e2 : ops[2]? = some o2) (e3 : ops[3]? = some o3) (e4 : ops[4]? = some o4) (e5 : ops[5]? = some o5) (e6 : ops[6]? = some o6)
    (g0 : o0.guard = none) (g1 : o1.guard = none) (g2 : o2.guard = none) (g3 : o3.guard = none) (g4 : o4.guard = none) (g5 : o5.guard = none) (g6 : o6.guard = none)
    (q0 : ∀ c, o0.op ≠ .defer c) (q1 : ∀ c, o1.op ≠ .defer c) (q2 : ∀ c, o2.op ≠ .defer c) (q3 : ∀ c, o3.op ≠ .defer c) (q4 : ∀ c, o4.op ≠ .defer c) (q5 : ∀ c, o5.op ≠ .defer c) (q6 : ∀ c, o6.op ≠ .defer c)
    (t0 : o0.dst = some d0) (t1 : o1.dst = some d1) (t2 : o2.dst = some d2) (t3 : o3.dst = some d3) (t4 : o4.dst = some d4) (t5 : o5.dst = some d5) (t6 : o6.dst = none)
    (r : Region.ready .any ops #[false, false, false, false, false, false, false] = [0, 1])
    (r0 : Region.ready .any ops #[true, false, false, false, false, false, false] = [1]) (r1 : Region.ready .any ops #[false, true, false, false, false, false, false] = [0, 2])
    (r01 : Region.ready .any ops #[true, true, false, false, false, false, false] = [2]) (r12 : Region.ready .any ops #[false, true, true, false, false, false, false] = [0, 3])
    (r012 : Region.ready .any ops #[true, true, true, false, false, false, false] = [3]) (r123 : Region.ready .any ops #[false, true, true, true, false, false, false] = [0, 4])
    (r0123 : Region.ready .any ops #[true, true, true, true, false, false, false] = [4]) (r1234 : Region.ready .any ops #[false, true, true, true, true, false, false] = [0])
    (r5 : Region.ready .any ops #[true, true, true, true, true, false, false] = [5]) (r6 : Region.ready .any ops #[true, true, true, true, true, true, false] = [6]) (r7 : Region.ready .any ops #[true, true, true, true, true, true, true] = [])
    (sz : d0 < a.tmps.size ∧ d1 < a.tmps.size ∧ d2 < a.tmps.size ∧ d3 < a.tmps.size ∧ d4 < a.tmps.size ∧ d5 < a.tmps.size)
    (ne : [tl, tr, d0, d1, d2, d3, d4, d5].Nodup)
    (hl : a.tmps[tl]? = some pl) (hr : a.tmps[tr]? = some vr)
    (x0 : ∀ (b : Act) W, b.tmps[tl]? = some pl → (W = w ∨ W = w') → (execOp b.eval o0).run P W = .ok (.value vl) W)
    (x1 : ∀ b : Act, b.tmps[tr]? = some vr → (execOp b.eval o1).run P w = .ok (.value v1) w)
    (x2 : ∀ b : Act, b.tmps[d1]? = some v1 → (execOp b.eval o2).run P w = .ok (.value v2) w)
    (x3 : ∀ b : Act, b.tmps[d2]? = some v2 → (execOp b.eval o3).run P w = .ok (.value v3) w)
    (x4 : ∀ b : Act, b.tmps[d3]? = some v3 → (execOp b.eval o4).run P w = .ok (.value v4) w')
    (x5 : ∀ b : Act, b.tmps[d0]? = some vl → b.tmps[d4]? = some v4 → (execOp b.eval o5).run P w' = .ok (.value v5) W2)
    (x6 : ∀ b : Act, b.tmps[tl]? = some pl → b.tmps[d5]? = some v5 → (execOp b.eval o6).run P W2 = .ok .skip W3)
    (hQ : Q .normal ((((((a.put (some d0) vl).put (some d1) v1).put (some d2) v2).put (some d3) v3).put (some d4) v4).put (some d5) v5) W3) :
    wpAnyIn F n P .any ops Q 7 #[false, false, false, false, false, false, false] a w := by
  have ne' := ne
  simp only [List.nodup_cons, List.mem_cons, List.not_mem_nil, or_false, not_or, List.nodup_nil, and_true, not_false_eq_true] at ne'
  obtain ⟨⟨l1, l2, l3, l4, l5, l6, l7⟩, ⟨a2, a3, a4, a5, a6, a7⟩, ⟨m1, m2, m3, m4, m5⟩, ⟨p2, p3, p4, p5⟩, ⟨s3, s4, s5⟩, ⟨u4, u5⟩, y5⟩ := ne'
  obtain ⟨z0, z1, z2, z3, z4, z5⟩ := sz
  have df1 : ∀ {b : Act} {d v}, (b.put (some d) v).defers = b.defers := rfl
  have sz1 : ∀ {b : Act} {d v}, (b.put (some d) v).tmps.size = b.tmps.size := rput_sz
  refine round_app hF e0 e1 e2 e3 e4 e5 e6 g0 g1 g2 g3 g4 g5 g6 q0 q1 q2 q3 q4 q5 q6 t0 t1 t2 t3 t4 t5 t6 r r0 r1 r01 r12 r012 r123 r0123 r1234 r5 r6 r7
    ((((((a.put (some d0) vl).put (some d1) v1).put (some d2) v2).put (some d3) v3).put (some d4) v4).put (some d5) v5) (by simp only [sz1]) (by simp only [df1]) ?_ ?_ ?_ ?_ ?_ ?_ ?_ ne ?_ ?_ x0 x1 x2 x3 x4 x5 x6 hQ
  · rw [rput_ne (Ne.symm m5), rput_ne (Ne.symm m4), rput_ne (Ne.symm m3), rput_ne (Ne.symm m2), rput_ne (Ne.symm m1), rput_at z0]
  · rw [rput_ne (Ne.symm p5), rput_ne (Ne.symm p4), rput_ne (Ne.symm p3), rput_ne (Ne.symm p2), rput_at (by simp only [sz1]; exact z1)]
  · rw [rput_ne (Ne.symm s5), rput_ne (Ne.symm s4), rput_ne (Ne.symm s3), rput_at (by simp only [sz1]; exact z2)]
  · rw [rput_ne (Ne.symm u5), rput_ne (Ne.symm u4), rput_at (by simp only [sz1]; exact z3)]
  · rw [rput_ne (Ne.symm y5), rput_at (by simp only [sz1]; exact z4)]
  · rw [rput_at (by simp only [sz1]; exact z5)]
  · intro d n0 n1 n2 n3 n4 n5
    rw [rput_ne (Ne.symm n5), rput_ne (Ne.symm n4), rput_ne (Ne.symm n3), rput_ne (Ne.symm n2), rput_ne (Ne.symm n1), rput_ne (Ne.symm n0)]
  · rw [rput_ne (Ne.symm l7), rput_ne (Ne.symm l6), rput_ne (Ne.symm l5), rput_ne (Ne.symm l4), rput_ne (Ne.symm l3), rput_ne (Ne.symm l2)]; exact hl
  · rw [rput_ne (Ne.symm a7), rput_ne (Ne.symm a6), rput_ne (Ne.symm a5), rput_ne (Ne.symm a4), rput_ne (Ne.symm a3), rput_ne (Ne.symm a2)]; exact hr
theorem round_push2 (hF : ∀ f, F.fn f) (hF2 : F.depth = none)
    (e0 : ops[0]? = some o0) (e1 : ops[1]? = some o1) (e2 : ops[2]? = some o2) (e3 : ops[3]? = some o3)
    (g0 : o0.guard = none) (g1 : o1.guard = none) (g2 : o2.guard = none) (g3 : o3.guard = none)
    (q0 : ∀ c, o0.op ≠ .defer c) (q1 : ∀ c, o1.op ≠ .defer c) (q2 : ∀ c, o2.op ≠ .defer c) (q3 : ∀ c, o3.op ≠ .defer c)
    (t0 : o0.dst = some d0) (t1 : o1.dst = some d1) (t2 : o2.dst = some d2) (t3 : o3.dst = some d3)
    (r : Region.ready .any ops #[false, false, false, false] = [0, 1]) (r0 : Region.ready .any ops #[true, false, false, false] = [1]) (r1 : Region.ready .any ops #[false, true, false, false] = [0, 2])
    (r01 : Region.ready .any ops #[true, true, false, false] = [2]) (r12 : Region.ready .any ops #[false, true, true, false] = [0]) (r012 : Region.ready .any ops #[true, true, true, false] = [3]) (r3 : Region.ready .any ops #[true, true, true, true] = [])
    (sz : d0 < a.tmps.size ∧ d1 < a.tmps.size ∧ d2 < a.tmps.size)
    (ne : [tl, tr, d0, d1, d2, d3].Nodup)
    (hl : a.tmps[tl]? = some pl) (hr : a.tmps[tr]? = some vr)
    (x0 : ∀ b : Act, b.tmps[tl]? = some pl → (execOp b.eval o0).run P w = .ok (.value vl) w)
    (x1 : ∀ b : Act, b.tmps[tr]? = some vr → (execOp b.eval o1).run P w = .ok (.value v1) w)
    (x2 : ∀ b : Act, b.tmps[d1]? = some v1 → (execOp b.eval o2).run P w = .ok (.value v2) w)
    (f : FuncId) (R : Value → World → Prop)
    (x3 : ∀ b : Act, b.tmps[d0]? = some vl → b.tmps[d2]? = some v2 → (execOp b.eval o3).run P w = .ok (.enter f #[vl, v2]) w)
    (c3 : CallsIn F (n - 1) P f #[vl, v2] w fun e w'' => ∃ v, e = .returned v ∧ R v w'')
    (hQ : ∀ v w'', R v w'' → Q .normal ((((a.put (some d0) vl).put (some d1) v1).put (some d2) v2).put (some d3) v) w'') :
    wpAnyIn F n P .any ops Q 4 #[false, false, false, false] a w := by
  have ne' := ne
  simp only [List.nodup_cons, List.mem_cons, List.not_mem_nil, or_false, not_or, List.nodup_nil, and_true, not_false_eq_true] at ne'
  obtain ⟨⟨l1, l2, l3, l4, l5⟩, ⟨a2, a3, a4, a5⟩, ⟨m1, m2, m3⟩, ⟨p2, p3⟩, s3⟩ := ne'
  obtain ⟨z0, z1, z2⟩ := sz
  have df1 : ∀ {b : Act} {d v}, (b.put (some d) v).defers = b.defers := rfl
  have sz1 : ∀ {b : Act} {d v}, (b.put (some d) v).tmps.size = b.tmps.size := rput_sz
  refine round_push hF hF2 e0 e1 e2 e3 g0 g1 g2 g3 q0 q1 q2 q3 t0 t1 t2 t3 r r0 r1 r01 r12 r012 r3
    (((a.put (some d0) vl).put (some d1) v1).put (some d2) v2) (by simp only [sz1]) (by simp only [df1]) ?_ ?_ ?_ ?_ ne ?_ ?_ x0 x1 x2 f R x3 c3 hQ
  · rw [rput_ne (Ne.symm m2), rput_ne (Ne.symm m1), rput_at z0]
  · rw [rput_ne (Ne.symm p2), rput_at (by simp only [sz1]; exact z1)]
  · rw [rput_at (by simp only [sz1]; exact z2)]
  · intro d n0 n1 n2
    rw [rput_ne (Ne.symm n2), rput_ne (Ne.symm n1), rput_ne (Ne.symm n0)]
  · rw [rput_ne (Ne.symm l4), rput_ne (Ne.symm l3), rput_ne (Ne.symm l2)]; exact hl
  · rw [rput_ne (Ne.symm a4), rput_ne (Ne.symm a3), rput_ne (Ne.symm a2)]; exact hr
end
end Go.Proofs.Ytcfmbppnghlkaaa
namespace Go.Proofs.Ytcfmbppnghlkaaa
open Go.RowKit
attribute [local go_sem] Oper.semAt_some
set_option maxRecDepth 100000

theorem But.stripF {S : Nat → Prop} {L : Nat} {W W' : World} (h : But (fun b => b = L ∨ S b) W W') (hL : W'.heap[L]? = W.heap[L]?) : But S W W' :=
  ⟨h.os, h.tape, h.output, h.size, fun b hb hs => by
    by_cases e : b = L
    · rw [e]; exact hL
    · exact h.block b hb fun h => h.elim e hs⟩
theorem beginF {W : World} {L : Nat} {r : Loop} (h : W.heap[L]? = some (.loop r)) (hr : r.state = .ready) : ∃ Wb, (Instr.beginRound L).run Try.prog W = .ok () Wb ∧ Wb.heap[L]? = some (.loop { r with state := .busy }) ∧ But (fun b => b = L) W Wb :=
  ⟨_, run_beginRound h hr, World.putObj_heap_same (Array.getElem?_eq_some_iff.1 h).1, ⟨rfl, rfl, rfl, by simp [World.putObj], fun b _ hb => World.putObj_heap_other hb⟩⟩
theorem endF {W : World} {L : Nat} {r : Loop} (h : W.heap[L]? = some (.loop r)) : ∃ Wb, (Instr.endRound L none).run Try.prog W = .ok (.bool true) Wb ∧ Wb.heap[L]? = some (.loop { r with state := .ready, pending := none }) ∧ But (fun b => b = L) W Wb :=
  ⟨_, run_endRound none h, World.putObj_heap_same (Array.getElem?_eq_some_iff.1 h).1, ⟨rfl, rfl, rfl, by simp [World.putObj], fun b _ hb => World.putObj_heap_other hb⟩⟩
/-- a range's frame -/
theorem floop {g : Operand} {ps : Array Tmp} {assign body : Code} {Q : Exit → Act → World → Prop} {a : Act} {w1 : World} {gf : Nat} {x1 : Value} (hg : a.eval g = .func (.func gf) #[] #[x1]) (eg : ∀ args w, (callFunc gf args).run Try.prog w = .ok (.enter gf args) w)
    (h : ∀ fn X W1, X = .loop { state := .ready, pending := none, fn, tmps := a.tmps, params := ps, assign, body, defers := w1.heap.size } → (w1.alloc (.deferred (some []))).alloc X = W1 → CallsIn Fence.wide 5 Try.prog gf #[.func (.yield (w1.heap.size + 1)) #[] #[], x1] W1 (rangePost Fence.wide 6 Try.prog (w1.heap.size + 1) Q { a with defers := [{ target := .collected w1.heap.size, args := #[] }] ++ a.defers })) :
    (Code.rangeFunc g ps assign body).wpIn Fence.wide 6 Try.prog Q a w1 := by
  refine wpIn_rangeFunc ?_
  intro fn _
  obtain ⟨W1, hW1⟩ : ∃ W1, (w1.alloc (.deferred (some []))).alloc (.loop { state := .ready, pending := none, fn, tmps := a.tmps, params := ps, assign, body, defers := w1.heap.size }) = W1 := ⟨_, rfl⟩
  have h' := h fn _ W1 rfl hW1
  refine ⟨w1.heap.size + 1, [{ target := .collected w1.heap.size, args := #[] }], W1, { target := .fn (.func gf) #[x1], args := #[.func (.yield (w1.heap.size + 1)) #[] #[]] }, W1, gf, #[.func (.yield (w1.heap.size + 1)) #[] #[], x1], W1, ?_, ?_, ?_, ?_, fun _ => by omega, h'⟩
  · rw [← hW1]; exact run_enterLoop_outer _ _ _ _ _
  · simp only [resolve, hg]
    simp [go_sem]
  · intro _ _; trivial
  · simp [invoke, go_sem, eg]
end Go.Proofs.Ytcfmbppnghlkaaa
namespace Go.Proofs.Ytcfmbppnghlkaaa
open Go.RowKit Go.Shelf
attribute [local go_sem] Oper.semAt_some
set_option maxRecDepth 100000

/-- the rows, as merged is given them -/
def RowsAt (w : World) (f : Fam) (ra : Option Addr) : Prop := ∀ i, i < f.K → ∃ g, ra = some ⟨g, 0, none⟩ ∧ w.cell? ⟨g, i, none⟩ = some (f.row i 0)
/-- where the drain stands -/
structure Ys where
  D : List En
  last : Nat
  pos : Nat → Nat
  ix : Nat → Nat
  v : Value
  t : Nat
/-- what is known of it -/
structure Yk (f : Fam) (F : List Rc) (i : Ys) : Prop where
  mg : Mg f f.K i.D i.pos i.ix
  tl : Tld f F i.t i.pos
  la : i.last ≤ f.K + i.t
  nm : ∀ y, y ∈ i.D → y.n ≤ i.last
/-- while they come in -/
structure Mi (f : Fam) (w0 W : World) (p N1 : Nat) (K : Nat) (D : List En) (last : Nat) (ix : Nat → Nat) (Y : Nat → Prop) : Prop where
  ag : Ag (leY f w0) W p D last Y
  nb : Blk W N1 82 [ptr p]
  yn : Y N1
  mg : Mg f K D (fun _ => 0) ix
  la : last = K
set_option maxHeartbeats 4000000 in
theorem merged_k (f : Fam) (F : List Rc) (ra : Option Addr) (cap : Nat) (w : World) (ok : f.Ok F) (hin : f.In w) (hr : RowsAt w f ra) :
    Calls Try.prog 38 #[.slice ra f.K cap] w fun e w' => ∃ v, e = .returned v ∧ w'.ownsRow w.heap.size 38 4 v F.length (encRs F) ∧ Below w.heap.size w w' ∧ (F = [] → v = .slice none 0 0) := by
  have lok := leY_ok ok hin
  have cN := newA (leY f w) w lok (Below.refl _ w)
  have HOK : Hid (f.Ok F) := ok
  have HIN : Hid (f.In w) := hin
  have HR : Hid (RowsAt w f ra) := hr
  have hk := ok.kb
  clear lok ok hin hr
  refine (callsIn_wide (n := 6)).1 ?_
  refine callsIn_of_wp_marks Try.func38 rfl trivial ?_ rfl
  simp only [Try.ntmps38, List.size_toArray, List.length_cons, List.length_nil, Nat.reduceAdd, Nat.reduceSub, Array.replicate_succ, Array.replicate_zero, List.push_toArray, List.append_toArray, List.nil_append, List.cons_append]
  gi_wp2_with fail
  refine ⟨trivial, (callsIn_wide.2 cN).mono ?_⟩
  rintro e w1 ⟨p, rfl, a1, hp, b1⟩
  clear cN
  have q0 := (blk_new w1 [.pointer none] 82).cell (i := 0) rfl
  have qf := (blk_new w1 [.pointer none] 82).fz 0
  have HM3 : Hid (Mi f w (w1.alloc (.cells #[ptr p] 82)) p w1.heap.size 0 [] 0 (fun _ => 0) (fun b => b = w1.heap.size)) :=
    ⟨(a1.box (.cells #[ptr p] 82)).less fun b h => .inr h, blk_new w1 [ptr p] _, rfl, Mg.nil _ _ _, rfl⟩
  have hwN : w.heap.size ≤ w1.heap.size := b1.size
  clear a1 b1
  gi_wp2_with fail
  clear q0 qf
  generalize w1.alloc (.cells #[ptr p] 82) = w3 at *
  generalize w1.heap.size = N1 at *
  gi_loopw [11] (fun i wr => ∃ j : Nat, j ≤ f.K ∧ i = .int .i64 j ∧ Hid (∃ D last ix, Mi f w wr p N1 j D last ix (fun b => b = N1))) (fun i _ => f.K - (intOf i).toNat)
  case atStart => exact ⟨0, Nat.zero_le _, rfl, _, _, _, HM3.out⟩
  case round =>
    obtain ⟨j, hj, rfl, hM⟩ := hrel
    obtain ⟨D, last, ix, M⟩ := hM.out
    have hb := M.ag.j
    have c1 := M.nb.cell (i := 0) rfl
    by_cases hlt : j < f.K
    · obtain ⟨g, rfl, hc⟩ := HR.out j hlt
      have c2 := (hb.cell (p := ⟨g, j, none⟩) (cell_lt hc)).trans hc
      obtain ⟨r, hr0⟩ : ∃ r, (f.rc j)[0]? = some r := by
        have := HOK.out.ne j hlt
        cases hl : f.rc j with
        | nil => exact absurd hl this
        | cons r l => exact ⟨r, rfl⟩
      have cP := pushA M.ag (by have := M.la; omega) r.key (f.row j 0) ⟨j, 0, r, hlt, hr0, rfl, rfl⟩
      have HM : Hid (Mi f w wr p N1 j D last ix (fun b => b = N1) ∧ (f.rc j)[0]? = some r) := ⟨M, hr0⟩
      clear M hM hb hc hr0
      gi_wp2_with fail
      refine ⟨trivial, (callsIn_wide.2 cP).mono ?_⟩
      rintro e w5 ⟨rfl, a5, b5⟩
      have HM5 : Hid (∃ D last ix, Mi f w w5 p N1 (j + 1) D last ix (fun b => b = N1)) :=
        ⟨_, _, _, a5, HM.out.1.nb.but b5 (fun h => h rfl), rfl, HM.out.1.mg.push (fun e he => (HM.out.1.ag.num he).2.1) HM.out.2, by have := HM.out.1.la; omega⟩
      clear cP a5 b5 c1 c2
      gi_wp2_with fail
      go_roundw
      case rel => exact ⟨j + 1, by omega, by go_num, HM5⟩
      case measure => simp [intOf]; omega
    · obtain rfl : j = f.K := by omega
      have HM : Hid (Mi f w wr p N1 f.K D last ix (fun b => b = N1)) := M
      clear M hM hb hlt
      have cD := fun W => eDrain p W
      have hb4 : Below wr.heap.size wr (wr.alloc (.cells #[.slice none 0 0] 23)) := (Below.refl _ wr).alloc (Nat.le_refl _) _
      have c4 := (HM.out.nb.below hb4).cell (i := 0) rfl
      have n4 := blk_new wr [.slice none 0 0] 23
      have a4 := HM.out.ag.box (.cells #[.slice none 0 0] 23)
      have s4 : (wr.alloc (.cells #[.slice none 0 0] 23)).heap.size = wr.heap.size + 1 := by simp
      have hN1 : N1 < wr.heap.size := HM.out.nb.lt
      have hwr : w.heap.size ≤ wr.heap.size := HM.out.ag.j.size
      have M4 : Hid (Ag (leY f w) (wr.alloc (.cells #[.slice none 0 0] 23)) p D last (fun b => b = N1 ∨ b = wr.heap.size) ∧ Blk (wr.alloc (.cells #[.slice none 0 0] 23)) N1 82 [ptr p] ∧ Blk (wr.alloc (.cells #[.slice none 0 0] 23)) wr.heap.size 23 [.slice none 0 0] ∧ Mg f f.K D (fun _ => 0) ix ∧ last = f.K) := ⟨a4, HM.out.nb.below hb4, n4, HM.out.mg, HM.out.la⟩
      clear HM hb4 n4 a4 c1
      gi_wp2_with fail
      refine ⟨trivial, (callsIn_wide.2 (cD _)).mono ?_⟩
      rintro e w5 ⟨rfl, hw5⟩
      clear cD
      rw [s4]
      gi_wp2_with fail
      refine floop rfl feach fun fn X W1 hX hW1 => ?_
      rw [← hw5] at hX hW1 ⊢
      have s5 : w5.heap.size = wr.heap.size + 2 := by rw [hw5]; simp [bx1, s4]
      have b5 : Below (wr.heap.size + 1) (wr.alloc (.cells #[.slice none 0 0] 23)) w5 := by rw [hw5, ← s4]; exact (Below.refl _ _).alloc (Nat.le_refl _) _
      have n5 := blk_new (wr.alloc (.cells #[.slice none 0 0] 23)) [.func (.func 57) #[ptr p] #[]] 97
      have a5 := M4.out.1.box (.cells #[.func (.func 57) #[ptr p] #[]] 97)
      have hw5' : w5 = (wr.alloc (.cells #[.slice none 0 0] 23)).alloc (.cells #[.func (.func 57) #[ptr p] #[]] 97) := hw5
      rw [← hw5', s4] at a5
      rw [s4] at n5
      have n5' : Blk w5 (wr.heap.size + 1) 97 [.func (.func 57) #[ptr p] #[]] := by rw [hw5']; exact n5
      have a6 := a5.box (.deferred (some []))
      have a7 := a6.box X
      have s6 : (w5.alloc (.deferred (some []))).heap.size = w5.heap.size + 1 := by simp
      rw [hW1, s6] at a7
      have b7 : Below w5.heap.size w5 W1 := by rw [← hW1]; exact ((Below.refl _ w5).alloc (Nat.le_refl _) _).alloc (by simp) _
      have hK1 : W1.heap[w5.heap.size]? = some (.deferred (some [])) := by
        rw [← hW1]; exact (Below.heap_alloc _ _ _ (by simp)).trans (World.alloc_heap_new w5 _)
      have hXL : W1.heap[w5.heap.size + 1]? = some X := by
        have := World.alloc_heap_new (w5.alloc (.deferred (some []))) X; rw [World.size_alloc, hW1] at this; exact this
      have hs4 : Below (wr.alloc (.cells #[.slice none 0 0] 23)).heap.size (wr.alloc (.cells #[.slice none 0 0] 23)) w5 := by rw [s4]; exact b5
      have H0 : Md f w W1 p N1 wr.heap.size (wr.heap.size + 1) w5.heap.size X D last (.slice none 0 0) (F.take 0) :=
        ⟨a7.less (fun b hb => (by
            rcases hb with h | h | h | h | h | h
            · exact .inl (.inl (.inl (.inl h)))
            · exact .inl (.inl (.inl (.inr h)))
            · exact .inl (.inl (.inr h))
            · exact .inl (.inr h)
            · exact .inr h
            · cases h)),
          (M4.out.2.1.below hs4).below b7, (M4.out.2.2.1.below hs4).below b7, n5'.below b7, hK1, hXL, World.ownsRow_nil _ _ _ _, by rw [hX]; rfl, fun _ => rfl⟩
      have HI0 : Hid (Md f w W1 p N1 wr.heap.size (wr.heap.size + 1) w5.heap.size X D last (.slice none 0 0) (F.take 0) ∧ Yk f F ⟨D, last, fun _ => 0, ix, .slice none 0 0, 0⟩) :=
        ⟨H0, M4.out.2.2.2.1, Tld.zero HOK.out, by have := M4.out.2.2.2.2; simp only; omega, fun y hy => (H0.ag.num hy).2.1⟩
      clear M4 a5 a6 a7 b5 b7 n5 n5' hK1 hXL hs4 H0 hw5 hw5' c4 s4 hW1
      refine (each_in (ι := Ys) 5 (by omega) (w5.heap.size + 1) (wr.heap.size + 1) p (fun i W => Md f w W p N1 wr.heap.size (wr.heap.size + 1) w5.heap.size X i.D i.last i.v (F.take i.t) ∧ Yk f F i) (fun i => F.length - i.t)
        (fun i x W => ∃ e, (e ∈ i.D ∧ ∀ y, y ∈ i.D → ¬ bef y e) ∧ VV x = e.m ∧ Md f w W p N1 wr.heap.size (wr.heap.size + 1) w5.heap.size X (dropD i.D e.n) i.last i.v (F.take i.t) ∧ Yk f F i)
        (fun W => ∃ la v, Md f w W p N1 wr.heap.size (wr.heap.size + 1) w5.heap.size X [] la v F)
        ?hB ?hP ?hY ⟨D, last, fun _ => 0, ix, .slice none 0 0, 0⟩ W1 HI0.out).mono ?_
      case hB =>
        rintro i W ⟨m, _⟩
        exact m.b3.cell (i := 0) rfl
      case hP =>
        rintro i W ⟨m, k⟩
        by_cases hD : i.D = []
        · have a := m.ag
          rw [hD] at a
          refine (pop0 a).mono ?_
          rintro e W' ⟨rfl, rfl⟩
          refine .inr ⟨rfl, i.last, i.v, ?_⟩
          have mg := k.mg
          rw [hD] at mg m
          rw [k.tl.done mg] at m
          exact m
        · refine (popA m.ag hD).mono ?_
          rintro e W' ⟨en, ⟨he, hb⟩, rfl, a', b'⟩
          obtain ⟨x, hx⟩ := m.ag.1.sh _ _ (m.ag.num he).2.2
          exact .inl ⟨x, en.n, by rw [← hx], en, ⟨he, (hb trivial).2⟩, hx.symm, m.els b' a', k⟩
      case hY =>
        clear HI0 HM3 s5 s6
        rintro i x W ⟨e, he, hx, m, k⟩
        obtain ⟨hi, r, hr, hek, hem⟩ := k.mg.ent e he.1
        obtain ⟨hFt, htl⟩ := k.tl.head HOK.out k.mg he.1 he.2 hr
        have htake : F.take i.t ++ [r] = F.take (i.t + 1) := by
          rw [List.take_add_one, hFt]; rfl
        have HKK : Hid (Yk f F i ∧ e ∈ i.D ∧ (f.rc (ix i.t))[i.pos (ix i.t)]? = (f.rc (ix i.t))[i.pos (ix i.t)]? ∧ Tld f F (i.t + 1) (upd i.pos (i.ix e.n) (i.pos (i.ix e.n) + 1)) ∧ F.take i.t ++ [r] = F.take (i.t + 1) ∧ i.t < F.length) := ⟨k, he.1, rfl, htl, htake, (List.getElem?_eq_some_iff.1 hFt).1⟩
        rw [hx, hem]
        have hjl := (List.getElem?_eq_some_iff.1 hr).1
        have HR5 : Hid ((f.rc (i.ix e.n))[i.pos (i.ix e.n)]? = some r ∧ i.ix e.n < f.K) := ⟨hr, hi⟩
        clear hr hFt htl htake hek hem hx he k
        generalize hio : i.ix e.n = io at *
        generalize hjo : i.pos io = jo at *
        subst hX
        refine ⟨fn, _, _, _, run_yield m.lp rfl, roundIn_of_wpIn trivial ?_⟩
        obtain ⟨Wb, hrun, hLb, hbb⟩ := beginF m.lp rfl
        have mb := m.loop hbb hLb rfl
        have HM6 : Hid (Md f w Wb p N1 wr.heap.size (wr.heap.size + 1) w5.heap.size _ (dropD i.D e.n) i.last i.v (F.take i.t)) := mb
        clear m hLb hbb mb
        unfold Fam.row
        gi_wp2
        refine ⟨Wb, hrun, ?_⟩
        clear hrun
        gi_wp2_with fail
        have hmix : Try.prog.follows .mixedOrders = true := by kernel_rfl
        have hIn := HIN.out.below HM6.out.j
        have k0 : Wb.cell? ⟨f.B io, 4 * jo, none⟩ = some (.int .i64 r.t) := hIn io HR5.out.2 jo r HR5.out.1 0 _ rfl
        have k1 := hIn io HR5.out.2 jo r HR5.out.1 1 _ rfl
        have k2 := hIn io HR5.out.2 jo r HR5.out.1 2 _ rfl
        have k3 := hIn io HR5.out.2 jo r HR5.out.1 3 _ rfl
        have mD := HM6.out.below (Below.refl _ Wb).drew
        have hlF := HOK.out.lb
        have hlT : (F.take i.t).length ≤ F.length := by rw [List.length_take]; omega
        have hlj : 0 < (f.rc io).length - jo := by omega
        obtain ⟨v', W2, hrun, hown, hgrow, hloc⟩ := ysnoc w.heap.size i.v (F.take i.t).length (encRs (F.take i.t)) r Wb.drew mD.ow (by omega) mD.j.size
        have m3 := mD.snoc r hown hgrow hloc
        have HM7 : Hid (Md f w (W2.setCell ⟨wr.heap.size, 0, none⟩ v') p N1 wr.heap.size (wr.heap.size + 1) w5.heap.size _ (dropD i.D e.n) i.last v' (F.take (i.t + 1))) := HKK.out.2.2.2.2.1 ▸ m3
        obtain ⟨g', cap', hv'⟩ := ownsRow_succ hown
        have hc2 : ∃ u, W2.cell? ⟨wr.heap.size, 0, none⟩ = some u ∧ W2.frozen? ⟨wr.heap.size, 0, none⟩ = false := by
          have hb2 : Blk W2 wr.heap.size 23 [i.v] := mD.b2.same ((hgrow.block _ (Nat.lt_of_lt_of_le mD.b2.lt (by rw [World.size_alloc]; exact Nat.le_succ _)) (Ne.symm mD.ne.2.2.2.2.2.2.2.1)).trans (Below.heap_alloc _ _ _ mD.b2.lt))
          exact ⟨_, hb2.cell (i := 0) rfl, hb2.fz 0⟩
        obtain ⟨u2, hc2, hf2⟩ := hc2
        have hl0 : ∀ W', W' = Wb.drew ∨ W' = Wb.drew.alloc (.cells (encR r).toArray 38) → W'.cell? ⟨wr.heap.size, 0, none⟩ = some i.v := by
          rintro W' (rfl | rfl)
          · exact mD.b2.cell (i := 0) rfl
          · exact (mD.b2.below ((Below.refl _ _).alloc (Nat.le_refl _) _)).cell (i := 0) rfl
        obtain ⟨va, vl, vc, hiv⟩ : ∃ va vl vc, i.v = .slice va vl vc := by
          rcases mD.ow.2 with ⟨h, _⟩ | ⟨_, _, _, h, _⟩
          · exact ⟨_, _, _, h⟩
          · exact ⟨_, _, _, h⟩
        rw [hiv] at hl0 hrun
        clear hown hgrow hloc m3 mD hIn hiv
        subst hv'
        refine wpIn_region_any hmix ?_
        refine round_app2 (F := Fence.wide.inRound (w5.heap.size + 1)) (n := 5 - 1) (P := Try.prog) (tl := 6) (tr := 7) (d0 := 22) (d1 := 23) (d2 := 24) (d3 := 25) (d4 := 26) (d5 := 27) (vl := .slice va vl vc) (vr := .slice (some ⟨f.B io, 4 * jo, none⟩) ((f.rc io).length - jo) (f.C io - jo)) (v1 := .slice (some ⟨f.B io, 4 * jo, none⟩) ((f.rc io).length - jo) (f.C io - jo)) (v2 := .pointer (some ⟨f.B io, 4 * jo, none⟩)) (v3 := recV r) (v4 := .slice (some ⟨Wb.drew.heap.size, 0, none⟩) 1 1) (v5 := .slice (some ⟨g', 0, none⟩) ((F.take i.t).length + 1) cap') (pl := .pointer (some ⟨wr.heap.size, 0, none⟩))
          (w' := Wb.drew.alloc (.cells (encR r).toArray 38)) (W2 := W2) (W3 := W2.setCell ⟨wr.heap.size, 0, none⟩ (.slice (some ⟨g', 0, none⟩) ((F.take i.t).length + 1) cap')) (fun _ => trivial)
          rfl rfl rfl rfl rfl rfl rfl rfl rfl rfl rfl rfl rfl rfl (fun _ h => by cases h) (fun _ h => by cases h) (fun _ h => by cases h) (fun _ h => by cases h) (fun _ h => by cases h) (fun _ h => by cases h) (fun _ h => by cases h)
          rfl rfl rfl rfl rfl rfl rfl (by kernel_rfl) (by kernel_rfl) (by kernel_rfl) (by kernel_rfl) (by kernel_rfl) (by kernel_rfl) (by kernel_rfl) (by kernel_rfl) (by kernel_rfl) (by kernel_rfl) (by kernel_rfl) (by kernel_rfl)
          (by simp) (by decide) rfl rfl ?x0 ?x1 ?x2 ?x3 ?x4 ?x5 ?x6 ?hQ
        case x0 =>
          intro b W' hb hW'
          have hcell := hl0 W' hW'
          clear hW'
          go_simp
        case x1 => intro b hb; go_simp
        case x2 =>
          intro b hb
          have hl1 : ¬ (f.rc io).length - jo = 0 := by omega
          go_simp
        case x3 => intro b hb; go_simp
        case x4 => intro b hb; go_simp; rfl
        case x5 =>
          intro b h0 h4
          have hrun := hrun
          rw [show Wb.drew.heap.size = Wb.heap.size from rfl] at hrun h4
          simp only [List.length_take] at hrun
          simp [execOp, resolve, invoke, builtin, reval h0, reval h4, hrun, Result.andThen]
        case x6 =>
          intro b h1 h5
          go_simp
        case hQ =>
          clear hrun hl0 hc2 hf2 k0 k1 k2 k3 hlF
          generalize W2.setCell ⟨wr.heap.size, 0, none⟩ (.slice (some ⟨g', 0, none⟩) ((F.take i.t).length + 1) cap') = W3 at *
          generalize (Value.slice (some ⟨g', 0, none⟩) ((F.take i.t).length + 1) cap') = v' at *
          have c1 : W3.cell? ⟨N1, 0, none⟩ = some (ptr p) := HM7.out.b1.cell (i := 0) rfl
          have hlE : w5.heap.size + 1 < W3.heap.size := (Array.getElem?_eq_some_iff.1 HM7.out.lp).1
          by_cases hmore : jo + 1 < (f.rc io).length
          · have hgt : (1 : Int) < (((f.rc io).length - jo : Nat) : Int) := by omega
            obtain ⟨r2, hr2⟩ : ∃ r2, (f.rc io)[jo + 1]? = some r2 := ⟨_, List.getElem?_eq_getElem hmore⟩
            have mD := HM7.out.below (Below.refl _ W3).drew
            have hla := HKK.out.1.la
            have hkt := HKK.out.2.2.2.2.2
            have hlb := HOK.out.lb
            have cP := pushA mD.ag (by omega) r2.key (f.row io (jo + 1)) ⟨io, jo + 1, r2, HR5.out.2, hr2, rfl, rfl⟩
            gi_wp2_with fail
            refine wpIn_region_any hmix ?_
            refine round_push2 (F := Fence.wide.inRound (w5.heap.size + 1)) (n := 5 - 1) (P := Try.prog) (tl := 3) (tr := 7) (d0 := 31) (d1 := 32) (d2 := 33) (d3 := 34) (vl := ptr p) (vr := .slice (some ⟨f.B io, 4 * jo, none⟩) ((f.rc io).length - jo) (f.C io - jo)) (v1 := .slice (some ⟨f.B io, 4 * jo, none⟩) ((f.rc io).length - jo) (f.C io - jo)) (v2 := f.row io (jo + 1)) (pl := .pointer (some ⟨N1, 0, none⟩)) (fun _ => trivial) rfl
              rfl rfl rfl rfl rfl rfl rfl rfl (fun _ h => by cases h) (fun _ h => by cases h) (fun _ h => by cases h) (fun _ h => by cases h)
              rfl rfl rfl rfl (by kernel_rfl) (by kernel_rfl) (by kernel_rfl) (by kernel_rfl) (by kernel_rfl) (by kernel_rfl) (by kernel_rfl)
              (by simp) (by decide) rfl rfl ?x0 ?x1 ?x2 47 (fun v w'' => (∃ n : Nat, v = .tuple #[.int .i64 (n : Int), .int .i64 0]) ∧ Ag (leY f w) w'' p (dropD i.D e.n ++ [⟨r2.key, f.row io (jo + 1), i.last + 1⟩]) (i.last + 1) (mY N1 wr.heap.size (wr.heap.size + 1) w5.heap.size v') ∧ But (Els (mY N1 wr.heap.size (wr.heap.size + 1) w5.heap.size v')) W3.drew w'') ?x3 ?c3 ?hQ2
            case x0 => intro b hb; clear cP mD; go_simp
            case x1 => intro b hb; clear cP mD; go_simp
            case x2 =>
              intro b hb
              clear cP mD
              have hs1 : (1 : Int).toNat = 1 := rfl
              unfold Fam.row
              go_simp
              have hcb := HOK.out.cb io HR5.out.2
              rw [if_pos (by omega), if_neg (by omega), show 4 * jo + 4 = 4 * (jo + 1) by omega, Nat.sub_sub, Nat.sub_sub]
            case x3 => intro b h0 h2; clear cP mD; go_simp
            case c3 =>
              refine (CallsIn.inRound _ (callsIn_wide.2 cP)).mono ?_
              rintro e' w'' ⟨rfl, ha, hb⟩
              exact ⟨_, rfl, ⟨_, rfl⟩, ha, hb⟩
            case hQ2 =>
              rintro v9 W9 ⟨⟨n9, rfl⟩, ha, hb⟩
              have HM9 : Hid (Md f w W9 p N1 wr.heap.size (wr.heap.size + 1) w5.heap.size _ (dropD i.D e.n ++ [⟨r2.key, f.row io (jo + 1), i.last + 1⟩]) (i.last + 1) v' (F.take (i.t + 1))) := mD.els hb ha
              clear cP mD ha hb c1
              gi_wp2_with fail
              obtain ⟨We, hre, hLe, hbe⟩ := endF HM9.out.lp
              have k := HKK.out.1
              refine ⟨_, We, hre, rfl, ⟨dropD i.D e.n ++ [⟨r2.key, f.row io (jo + 1), i.last + 1⟩], i.last + 1, upd i.pos io (jo + 1), upd i.ix (i.last + 1) io, v', i.t + 1⟩, ⟨HM9.out.loop hbe hLe rfl, ⟨?_, HKK.out.2.2.2.1, by simp only; omega, fun y hy => ?_⟩⟩, by simp only; omega⟩
              · have h := k.mg.next HKK.out.2.1 k.nm (r := r2) (by rw [hio, hjo]; exact hr2)
                rw [hio, hjo] at h
                exact h
              · rcases List.mem_append.1 hy with hy | hy
                · exact Nat.le_succ_of_le (k.nm y (mem_drop.1 hy).1)
                · simp at hy; rw [hy]; exact Nat.le_refl _
          · have hgt : ¬ (1 : Int) < (((f.rc io).length - jo : Nat) : Int) := by omega
            clear c1
            gi_wp2_with fail
            obtain ⟨We, hre, hLe, hbe⟩ := endF HM7.out.lp
            have k := HKK.out.1
            have hla := k.la
            have hkt := HKK.out.2.2.2.2.2
            refine ⟨_, We, hre, rfl, ⟨dropD i.D e.n, i.last, upd i.pos io (jo + 1), i.ix, v', i.t + 1⟩, ⟨HM7.out.loop hbe hLe rfl, ⟨?_, HKK.out.2.2.2.1, by simp only; omega, fun y hy => k.nm y (mem_drop.1 hy).1⟩⟩, by simp only; omega⟩
            have h := k.mg.last HKK.out.2.1 (by rw [hio, hjo]; omega)
            rw [hio, hjo] at h
            exact h
      rintro e w' ⟨⟨v0, rfl⟩, la, v, m⟩
      subst hX
      have hN := m.ne
      obtain ⟨W5, hrun, hb5⟩ : ∃ W5, (Instr.endLoop (w5.heap.size + 1)).run Try.prog w' = .ok none W5 ∧ But (fun b => b = w5.heap.size + 1) w' W5 :=
        ⟨_, run_endLoop m.lp (by simp), ⟨rfl, rfl, rfl, by simp [World.putObj], fun b _ hb => World.putObj_heap_other hb⟩⟩
      refine ⟨none, W5, hrun, ?_⟩
      have k5 : W5.heap[w5.heap.size]? = some (.deferred (some [])) := (hb5.block _ (Array.getElem?_eq_some_iff.1 m.df).1 (by omega)).trans m.df
      have c5 := (m.b2.but hb5 hN.2.2.2.1).cell (i := 0) rfl
      have ow5 := eown_block m.ow fun b hb => hb5.block b (m.ow.lt b hb).2 (fun h => hN.2.2.2.2.2.2.2.2.2.2 (h ▸ hb))
      have hz := m.z
      have hv : v.ownBlock ≠ some w5.heap.size := hN.2.2.2.2.2.2.2.2.2.1
      have bb : Below w.heap.size w W5 := m.ag.1.st _ _ m.ag.j (hb5.mono fun b h hx => by subst h; simp only at hx; omega)
      have HE : Hid (W5.heap[w5.heap.size]? = some (.deferred (some [])) ∧ World.ownsRow W5 w.heap.size 38 4 v F.length (encRs F) ∧ v.ownBlock ≠ some w5.heap.size ∧ Below w.heap.size w W5 ∧ w.heap.size ≤ w5.heap.size ∧ (F = [] → v = .slice none 0 0)) := ⟨k5, ow5, hv, bb, by omega, hz⟩
      obtain ⟨va, vl, vc, hiv⟩ : ∃ va vl vc, v = .slice va vl vc := by
        rcases ow5.2 with ⟨h, _⟩ | ⟨_, _, _, h, _⟩
        · exact ⟨_, _, _, h⟩
        · exact ⟨_, _, _, h⟩
      rw [hiv] at c5
      clear hrun m hN hb5 k5 ow5 hv hz bb s5 s6 HI0 HM3
      gi_wp2
      obtain ⟨k5, ow5, hv, bb, hsz, hz⟩ := HE.out
      refine ⟨by simp, .inl ⟨_, _, rfl, run_takeDeferred k5, ?_⟩⟩
      refine ⟨_, results_tmp rfl _ _ _, v, by rw [hiv]; rfl, ?_, ?_, hz⟩
      · exact eown_block ow5 fun b hb => World.putObj_heap_other (by rintro rfl; exact hv hb)
      · exact ⟨bb.os, bb.tape, bb.output, by simp [World.putObj]; exact bb.size, fun b hb => (World.putObj_heap_other (by omega)).trans (bb.block b hb)⟩
end Go.Proofs.Ytcfmbppnghlkaaa
