/- In a round, in whatever order the operations come: 'all = append(all, r[0])', 'next.Push(r[1:])'. -/
import Derived.Test.YtcfmbppnghlkaaaARound
namespace Go.Proofs.Ytcfmbppnghlkaaa
open Go.RowKit Go.Shelf

section
variable {F : Fence} {n : Nat} {P : Program} {ops : Array Oper} {Q : Exit → Act → World → Prop} {o0 o1 o2 o3 o4 o5 o6 : Oper} {tl tr d0 d1 d2 d3 d4 d5 : Nat} {a : Act} {w w' W2 W3 : World} {vl v1 v2 v3 v4 v5 pl vr : Value}

/-- two frames are one where all their slots are -/
theorem act_eq {b A : Act} (hd : b.defers = A.defers) (h : ∀ d : Nat, b.tmps[d]? = A.tmps[d]?) : b = A := by
  obtain ⟨t, ds⟩ := b
  obtain ⟨t', ds'⟩ := A
  simp only at hd h
  rw [hd, Array.ext_getElem? h]
/-- one slot more is right -/
theorem put_right {b A : Act} {d : Nat} {v : Value} (hA : A.tmps[d]? = some v) (hz : d < b.tmps.size) {e : Nat} (h : e ≠ d → b.tmps[e]? = A.tmps[e]?) : (b.put (some d) v).tmps[e]? = A.tmps[e]? := by
  by_cases q : e = d
  · rw [q, rput_at hz, hA]
  · rw [rput_ne (Ne.symm q)]; exact h q

/-- o0: the row is loaded; o1, o2, o3: the element; o4: a row of it is built; o5: appended; o6: stored. A: the frame behind it -/
theorem round_app (hF : ∀ f, F.fn f)
    (e0 : ops[0]? = some o0) (e1 : ops[1]? = some o1) (e2 : ops[2]? = some o2) (e3 : ops[3]? = some o3) (e4 : ops[4]? = some o4) (e5 : ops[5]? = some o5) (e6 : ops[6]? = some o6)
    (g0 : o0.guard = none) (g1 : o1.guard = none) (g2 : o2.guard = none) (g3 : o3.guard = none) (g4 : o4.guard = none) (g5 : o5.guard = none) (g6 : o6.guard = none)
    (q0 : ∀ c, o0.op ≠ .defer c) (q1 : ∀ c, o1.op ≠ .defer c) (q2 : ∀ c, o2.op ≠ .defer c) (q3 : ∀ c, o3.op ≠ .defer c) (q4 : ∀ c, o4.op ≠ .defer c) (q5 : ∀ c, o5.op ≠ .defer c) (q6 : ∀ c, o6.op ≠ .defer c)
    (t0 : o0.dst = some d0) (t1 : o1.dst = some d1) (t2 : o2.dst = some d2) (t3 : o3.dst = some d3) (t4 : o4.dst = some d4) (t5 : o5.dst = some d5) (t6 : o6.dst = none)
    (r : Region.ready .any ops #[false, false, false, false, false, false, false] = [0, 1])
    (r0 : Region.ready .any ops #[true, false, false, false, false, false, false] = [1]) (r1 : Region.ready .any ops #[false, true, false, false, false, false, false] = [0, 2])
    (r01 : Region.ready .any ops #[true, true, false, false, false, false, false] = [2]) (r12 : Region.ready .any ops #[false, true, true, false, false, false, false] = [0, 3])
    (r012 : Region.ready .any ops #[true, true, true, false, false, false, false] = [3]) (r123 : Region.ready .any ops #[false, true, true, true, false, false, false] = [0, 4])
    (r0123 : Region.ready .any ops #[true, true, true, true, false, false, false] = [4]) (r1234 : Region.ready .any ops #[false, true, true, true, true, false, false] = [0])
    (r5 : Region.ready .any ops #[true, true, true, true, true, false, false] = [5]) (r6 : Region.ready .any ops #[true, true, true, true, true, true, false] = [6]) (r7 : Region.ready .any ops #[true, true, true, true, true, true, true] = [])
    (A : Act) (hz : A.tmps.size = a.tmps.size) (hd : A.defers = a.defers) (A0 : A.tmps[d0]? = some vl) (A1 : A.tmps[d1]? = some v1) (A2 : A.tmps[d2]? = some v2) (A3 : A.tmps[d3]? = some v3) (A4 : A.tmps[d4]? = some v4) (A5 : A.tmps[d5]? = some v5)
    (Ao : ∀ d, d ≠ d0 → d ≠ d1 → d ≠ d2 → d ≠ d3 → d ≠ d4 → d ≠ d5 → a.tmps[d]? = A.tmps[d]?)
    (ne : [tl, tr, d0, d1, d2, d3, d4, d5].Nodup)
    (hl : A.tmps[tl]? = some pl) (hr : A.tmps[tr]? = some vr)
    (x0 : ∀ (b : Act) W, b.tmps[tl]? = some pl → (W = w ∨ W = w') → (execOp b.eval o0).run P W = .ok (.value vl) W)
    (x1 : ∀ b : Act, b.tmps[tr]? = some vr → (execOp b.eval o1).run P w = .ok (.value v1) w)
    (x2 : ∀ b : Act, b.tmps[d1]? = some v1 → (execOp b.eval o2).run P w = .ok (.value v2) w)
    (x3 : ∀ b : Act, b.tmps[d2]? = some v2 → (execOp b.eval o3).run P w = .ok (.value v3) w)
    (x4 : ∀ b : Act, b.tmps[d3]? = some v3 → (execOp b.eval o4).run P w = .ok (.value v4) w')
    (x5 : ∀ b : Act, b.tmps[d0]? = some vl → b.tmps[d4]? = some v4 → (execOp b.eval o5).run P w' = .ok (.value v5) W2)
    (x6 : ∀ b : Act, b.tmps[tl]? = some pl → b.tmps[d5]? = some v5 → (execOp b.eval o6).run P W2 = .ok .skip W3)
    (hQ : Q .normal A W3) :
    wpAnyIn F n P .any ops Q 7 #[false, false, false, false, false, false, false] a w := by
  simp only [List.nodup_cons, List.mem_cons, List.not_mem_nil, or_false, not_or, List.nodup_nil, and_true, not_false_eq_true] at ne
  obtain ⟨⟨l1, l2, l3, l4, l5, l6, l7⟩, ⟨a2, a3, a4, a5, a6, a7⟩, ⟨m1, m2, m3, m4, m5⟩, ⟨p2, p3, p4, p5⟩, ⟨s3, s4, s5⟩, ⟨u4, u5⟩, y5⟩ := ne
  have sz : ∀ {d v}, A.tmps[d]? = some v → d < a.tmps.size := fun h => hz ▸ (Array.getElem?_eq_some_iff.1 h).1
  have z0 := sz A0
  have z1 := sz A1
  have z2 := sz A2
  have z3 := sz A3
  have z4 := sz A4
  have z5 := sz A5
  have G5 : ∀ b : Act, b.tmps.size = a.tmps.size → b.defers = a.defers → (∀ d, d ≠ d5 → b.tmps[d]? = A.tmps[d]?) →
      wpAnyIn F n P .any ops Q 2 #[true, true, true, true, true, false, false] b w' := by
    intro b hs hdb ho
    refine wpAnyIn_ready r5 (by simp) (AllReadyIn.cons e5 (fun K hK => ?_) AllReadyIn.nil)
    refine rstep_val hF g5 q5 v5 (x5 b ((ho d0 m5).trans A0) ((ho d4 y5).trans A4)) (hK _ _ ?_)
    rw [t5]
    have e : b.put (some d5) v5 = A := act_eq (hdb.trans hd.symm) fun d => put_right A5 (by omega) (ho d)
    rw [e]
    refine wpAnyIn_ready r6 (by simp) (AllReadyIn.cons e6 (fun K hK => ?_) AllReadyIn.nil)
    refine rstep_skip hF g6 q6 (x6 A hl A5) (hK _ _ (wpAnyIn_done r7 ?_ _))
    rw [t6]
    exact hQ
  have G4 : ∀ b : Act, b.tmps.size = a.tmps.size → b.defers = a.defers → (∀ d, d ≠ d4 → d ≠ d5 → b.tmps[d]? = A.tmps[d]?) →
      wpAnyIn F n P .any ops Q 3 #[true, true, true, true, false, false, false] b w := by
    intro b hs hdb ho
    refine wpAnyIn_ready r0123 (by simp) (AllReadyIn.cons e4 (fun K hK => ?_) AllReadyIn.nil)
    refine rstep_val hF g4 q4 v4 (x4 b ((ho d3 u4 u5).trans A3)) (hK _ _ ?_)
    rw [t4]
    exact G5 _ (rput_sz.trans hs) hdb (fun d n5 => put_right A4 (by omega) fun n4 => ho d n4 n5)
  have G4' : ∀ b : Act, b.tmps.size = a.tmps.size → b.defers = a.defers → (∀ d, d ≠ d0 → d ≠ d4 → d ≠ d5 → b.tmps[d]? = A.tmps[d]?) →
      wpAnyIn F n P .any ops Q 4 #[false, true, true, true, false, false, false] b w := by
    intro b hs hdb ho
    have hb := (ho tl l2 l6 l7).trans hl
    refine wpAnyIn_ready r123 (by simp) (AllReadyIn.cons e0 (fun K hK => ?_) (AllReadyIn.cons e4 (fun K hK => ?_) AllReadyIn.nil))
    · refine rstep_val hF g0 q0 vl (x0 b w hb (.inl rfl)) (hK _ _ ?_)
      rw [t0]
      exact G4 _ (rput_sz.trans hs) hdb (fun d n4 n5 => put_right A0 (by omega) fun n0 => ho d n0 n4 n5)
    · refine rstep_val hF g4 q4 v4 (x4 b ((ho d3 (Ne.symm m3) u4 u5).trans A3)) (hK _ _ ?_)
      rw [t4]
      have ho' : ∀ d, d ≠ d0 → d ≠ d5 → (b.put (some d4) v4).tmps[d]? = A.tmps[d]? := fun d n0 n5 => put_right A4 (by omega) fun n4 => ho d n0 n4 n5
      refine wpAnyIn_ready r1234 (by simp) (AllReadyIn.cons e0 (fun K hK => ?_) AllReadyIn.nil)
      refine rstep_val hF g0 q0 vl (x0 _ w' ((ho' tl l2 l7).trans hl) (.inr rfl)) (hK _ _ ?_)
      rw [t0]
      exact G5 _ (rput_sz.trans (rput_sz.trans hs)) hdb (fun d n5 => put_right A0 (by rw [rput_sz]; omega) fun n0 => ho' d n0 n5)
  have G3 : ∀ b : Act, b.tmps.size = a.tmps.size → b.defers = a.defers → (∀ d, d ≠ d3 → d ≠ d4 → d ≠ d5 → b.tmps[d]? = A.tmps[d]?) →
      wpAnyIn F n P .any ops Q 4 #[true, true, true, false, false, false, false] b w := by
    intro b hs hdb ho
    refine wpAnyIn_ready r012 (by simp) (AllReadyIn.cons e3 (fun K hK => ?_) AllReadyIn.nil)
    refine rstep_val hF g3 q3 v3 (x3 b ((ho d2 s3 s4 s5).trans A2)) (hK _ _ ?_)
    rw [t3]
    exact G4 _ (rput_sz.trans hs) hdb (fun d n4 n5 => put_right A3 (by omega) fun n3 => ho d n3 n4 n5)
  have G3' : ∀ b : Act, b.tmps.size = a.tmps.size → b.defers = a.defers → (∀ d, d ≠ d0 → d ≠ d3 → d ≠ d4 → d ≠ d5 → b.tmps[d]? = A.tmps[d]?) →
      wpAnyIn F n P .any ops Q 5 #[false, true, true, false, false, false, false] b w := by
    intro b hs hdb ho
    have hb := (ho tl l2 l5 l6 l7).trans hl
    refine wpAnyIn_ready r12 (by simp) (AllReadyIn.cons e0 (fun K hK => ?_) (AllReadyIn.cons e3 (fun K hK => ?_) AllReadyIn.nil))
    · refine rstep_val hF g0 q0 vl (x0 b w hb (.inl rfl)) (hK _ _ ?_)
      rw [t0]
      exact G3 _ (rput_sz.trans hs) hdb (fun d n3 n4 n5 => put_right A0 (by omega) fun n0 => ho d n0 n3 n4 n5)
    · refine rstep_val hF g3 q3 v3 (x3 b ((ho d2 (Ne.symm m2) s3 s4 s5).trans A2)) (hK _ _ ?_)
      rw [t3]
      exact G4' _ (rput_sz.trans hs) hdb (fun d n0 n4 n5 => put_right A3 (by omega) fun n3 => ho d n0 n3 n4 n5)
  have G2 : ∀ b : Act, b.tmps.size = a.tmps.size → b.defers = a.defers → (∀ d, d ≠ d2 → d ≠ d3 → d ≠ d4 → d ≠ d5 → b.tmps[d]? = A.tmps[d]?) →
      wpAnyIn F n P .any ops Q 5 #[true, true, false, false, false, false, false] b w := by
    intro b hs hdb ho
    refine wpAnyIn_ready r01 (by simp) (AllReadyIn.cons e2 (fun K hK => ?_) AllReadyIn.nil)
    refine rstep_val hF g2 q2 v2 (x2 b ((ho d1 p2 p3 p4 p5).trans A1)) (hK _ _ ?_)
    rw [t2]
    exact G3 _ (rput_sz.trans hs) hdb (fun d n3 n4 n5 => put_right A2 (by omega) fun n2 => ho d n2 n3 n4 n5)
  refine wpAnyIn_ready r (by simp) (AllReadyIn.cons e0 (fun K hK => ?_) (AllReadyIn.cons e1 (fun K hK => ?_) AllReadyIn.nil))
  · refine rstep_val hF g0 q0 vl (x0 a w ((Ao tl l2 l3 l4 l5 l6 l7).trans hl) (.inl rfl)) (hK _ _ ?_)
    rw [t0]
    have ho : ∀ d, d ≠ d1 → d ≠ d2 → d ≠ d3 → d ≠ d4 → d ≠ d5 → (a.put (some d0) vl).tmps[d]? = A.tmps[d]? := fun d n1 n2 n3 n4 n5 => put_right A0 z0 fun n0 => Ao d n0 n1 n2 n3 n4 n5
    refine wpAnyIn_ready r0 (by simp) (AllReadyIn.cons e1 (fun K hK => ?_) AllReadyIn.nil)
    refine rstep_val hF g1 q1 v1 (x1 _ ((ho tr a3 a4 a5 a6 a7).trans hr)) (hK _ _ ?_)
    rw [t1]
    exact G2 _ (rput_sz.trans rput_sz) rfl (fun d n2 n3 n4 n5 => put_right A1 (by rw [rput_sz]; omega) fun n1 => ho d n1 n2 n3 n4 n5)
  · refine rstep_val hF g1 q1 v1 (x1 a ((Ao tr a2 a3 a4 a5 a6 a7).trans hr)) (hK _ _ ?_)
    rw [t1]
    have ho : ∀ d, d ≠ d0 → d ≠ d2 → d ≠ d3 → d ≠ d4 → d ≠ d5 → (a.put (some d1) v1).tmps[d]? = A.tmps[d]? := fun d n0 n2 n3 n4 n5 => put_right A1 z1 fun n1 => Ao d n0 n1 n2 n3 n4 n5
    refine wpAnyIn_ready r1 (by simp) (AllReadyIn.cons e0 (fun K hK => ?_) (AllReadyIn.cons e2 (fun K hK => ?_) AllReadyIn.nil))
    · refine rstep_val hF g0 q0 vl (x0 _ w ((ho tl l2 l4 l5 l6 l7).trans hl) (.inl rfl)) (hK _ _ ?_)
      rw [t0]
      exact G2 _ (rput_sz.trans rput_sz) rfl (fun d n2 n3 n4 n5 => put_right A0 (by rw [rput_sz]; omega) fun n0 => ho d n0 n2 n3 n4 n5)
    · refine rstep_val hF g2 q2 v2 (x2 _ ((ho d1 (Ne.symm m1) p2 p3 p4 p5).trans A1)) (hK _ _ ?_)
      rw [t2]
      exact G3' _ (rput_sz.trans rput_sz) rfl (fun d n0 n3 n4 n5 => put_right A2 (by rw [rput_sz]; omega) fun n2 => ho d n0 n2 n3 n4 n5)

/-- o0: what it is pushed into; o1, o2: the rest; o3: the call -/
theorem round_push (hF : ∀ f, F.fn f) (hF2 : F.depth = none)
    (e0 : ops[0]? = some o0) (e1 : ops[1]? = some o1) (e2 : ops[2]? = some o2) (e3 : ops[3]? = some o3)
    (g0 : o0.guard = none) (g1 : o1.guard = none) (g2 : o2.guard = none) (g3 : o3.guard = none)
    (q0 : ∀ c, o0.op ≠ .defer c) (q1 : ∀ c, o1.op ≠ .defer c) (q2 : ∀ c, o2.op ≠ .defer c) (q3 : ∀ c, o3.op ≠ .defer c)
    (t0 : o0.dst = some d0) (t1 : o1.dst = some d1) (t2 : o2.dst = some d2) (t3 : o3.dst = some d3)
    (r : Region.ready .any ops #[false, false, false, false] = [0, 1]) (r0 : Region.ready .any ops #[true, false, false, false] = [1]) (r1 : Region.ready .any ops #[false, true, false, false] = [0, 2])
    (r01 : Region.ready .any ops #[true, true, false, false] = [2]) (r12 : Region.ready .any ops #[false, true, true, false] = [0]) (r012 : Region.ready .any ops #[true, true, true, false] = [3]) (r3 : Region.ready .any ops #[true, true, true, true] = [])
    (A : Act) (hz : A.tmps.size = a.tmps.size) (hd : A.defers = a.defers) (A0 : A.tmps[d0]? = some vl) (A1 : A.tmps[d1]? = some v1) (A2 : A.tmps[d2]? = some v2)
    (Ao : ∀ d, d ≠ d0 → d ≠ d1 → d ≠ d2 → a.tmps[d]? = A.tmps[d]?)
    (ne : [tl, tr, d0, d1, d2, d3].Nodup)
    (hl : A.tmps[tl]? = some pl) (hr : A.tmps[tr]? = some vr)
    (x0 : ∀ b : Act, b.tmps[tl]? = some pl → (execOp b.eval o0).run P w = .ok (.value vl) w)
    (x1 : ∀ b : Act, b.tmps[tr]? = some vr → (execOp b.eval o1).run P w = .ok (.value v1) w)
    (x2 : ∀ b : Act, b.tmps[d1]? = some v1 → (execOp b.eval o2).run P w = .ok (.value v2) w)
    (f : FuncId) (R : Value → World → Prop)
    (x3 : ∀ b : Act, b.tmps[d0]? = some vl → b.tmps[d2]? = some v2 → (execOp b.eval o3).run P w = .ok (.enter f #[vl, v2]) w)
    (c3 : CallsIn F (n - 1) P f #[vl, v2] w fun e w'' => ∃ v, e = .returned v ∧ R v w'')
    (hQ : ∀ v w'', R v w'' → Q .normal (A.put (some d3) v) w'') :
    wpAnyIn F n P .any ops Q 4 #[false, false, false, false] a w := by
  simp only [List.nodup_cons, List.mem_cons, List.not_mem_nil, or_false, not_or, List.nodup_nil, and_true, not_false_eq_true] at ne
  obtain ⟨⟨l1, l2, l3, l4, l5⟩, ⟨a2, a3, a4, a5⟩, ⟨m1, m2, m3⟩, ⟨p2, p3⟩, s3⟩ := ne
  have sz : ∀ {d v}, A.tmps[d]? = some v → d < a.tmps.size := fun h => hz ▸ (Array.getElem?_eq_some_iff.1 h).1
  have z0 := sz A0
  have z1 := sz A1
  have z2 := sz A2
  have G3 : ∀ b : Act, b.defers = a.defers → (∀ d : Nat, b.tmps[d]? = A.tmps[d]?) →
      wpAnyIn F n P .any ops Q 1 #[true, true, true, false] b w := by
    intro b hdb ho
    have e : b = A := act_eq (hdb.trans hd.symm) ho
    rw [e]
    refine wpAnyIn_ready r012 (by simp) (AllReadyIn.cons e3 (fun K hK => ?_) AllReadyIn.nil)
    refine rstep_call hF hF2 g3 q3 f #[vl, v2] R (x3 A A0 A2) c3 fun v W hv => hK _ _ (wpAnyIn_done r3 ?_ _)
    rw [t3]
    exact hQ v W hv
  have G2 : ∀ b : Act, b.tmps.size = a.tmps.size → b.defers = a.defers → (∀ d, d ≠ d2 → b.tmps[d]? = A.tmps[d]?) →
      wpAnyIn F n P .any ops Q 2 #[true, true, false, false] b w := by
    intro b hs hdb ho
    refine wpAnyIn_ready r01 (by simp) (AllReadyIn.cons e2 (fun K hK => ?_) AllReadyIn.nil)
    refine rstep_val hF g2 q2 v2 (x2 b ((ho d1 p2).trans A1)) (hK _ _ ?_)
    rw [t2]
    exact G3 _ hdb (fun d => put_right A2 (by omega) fun n2 => ho d n2)
  refine wpAnyIn_ready r (by simp) (AllReadyIn.cons e0 (fun K hK => ?_) (AllReadyIn.cons e1 (fun K hK => ?_) AllReadyIn.nil))
  · refine rstep_val hF g0 q0 vl (x0 a ((Ao tl l2 l3 l4).trans hl)) (hK _ _ ?_)
    rw [t0]
    have ho : ∀ d, d ≠ d1 → d ≠ d2 → (a.put (some d0) vl).tmps[d]? = A.tmps[d]? := fun d n1 n2 => put_right A0 z0 fun n0 => Ao d n0 n1 n2
    refine wpAnyIn_ready r0 (by simp) (AllReadyIn.cons e1 (fun K hK => ?_) AllReadyIn.nil)
    refine rstep_val hF g1 q1 v1 (x1 _ ((ho tr a3 a4).trans hr)) (hK _ _ ?_)
    rw [t1]
    exact G2 _ (rput_sz.trans rput_sz) rfl (fun d n2 => put_right A1 (by rw [rput_sz]; omega) fun n1 => ho d n1 n2)
  · refine rstep_val hF g1 q1 v1 (x1 a ((Ao tr a2 a3 a4).trans hr)) (hK _ _ ?_)
    rw [t1]
    have ho : ∀ d, d ≠ d0 → d ≠ d2 → (a.put (some d1) v1).tmps[d]? = A.tmps[d]? := fun d n0 n2 => put_right A1 z1 fun n1 => Ao d n0 n1 n2
    refine wpAnyIn_ready r1 (by simp) (AllReadyIn.cons e0 (fun K hK => ?_) (AllReadyIn.cons e2 (fun K hK => ?_) AllReadyIn.nil))
    · refine rstep_val hF g0 q0 vl (x0 _ ((ho tl l2 l4).trans hl)) (hK _ _ ?_)
      rw [t0]
      exact G2 _ (rput_sz.trans rput_sz) rfl (fun d n2 => put_right A0 (by rw [rput_sz]; omega) fun n0 => ho d n0 n2)
    · refine rstep_val hF g2 q2 v2 (x2 _ ((ho d1 (Ne.symm m1) p2).trans A1)) (hK _ _ ?_)
      rw [t2]
      have ho' : ∀ d, d ≠ d0 → ((a.put (some d1) v1).put (some d2) v2).tmps[d]? = A.tmps[d]? := fun d n0 => put_right A2 (by rw [rput_sz]; omega) fun n2 => ho d n0 n2
      refine wpAnyIn_ready r12 (by simp) (AllReadyIn.cons e0 (fun K hK => ?_) AllReadyIn.nil)
      refine rstep_val hF g0 q0 vl (x0 _ ((ho' tl l2).trans hl)) (hK _ _ ?_)
      rw [t0]
      exact G3 _ rfl (fun d => put_right A0 (by rw [rput_sz, rput_sz]; omega) fun n0 => ho' d n0)
theorem round_app2 (hF : ∀ f, F.fn f)
    (e0 : ops[0]? = some o0) (e1 : ops[1]? = some o1) (e2 : ops[2]? = some o2) (e3 : ops[3]? = some o3) (e4 : ops[4]? = some o4) (e5 : ops[5]? = some o5) (e6 : ops[6]? = some o6)
    (g0 : o0.guard = none) (g1 : o1.guard = none) (g2 : o2.guard = none) (g3 : o3.guard = none) (g4 : o4.guard = none) (g5 : o5.guard = none) (g6 : o6.guard = none)
    (q0 : ∀ c, o0.op ≠ .defer c) (q1 : ∀ c, o1.op ≠ .defer c) (q2 : ∀ c, o2.op ≠ .defer c) (q3 : ∀ c, o3.op ≠ .defer c) (q4 : ∀ c, o4.op ≠ .defer c) (q5 : ∀ c, o5.op ≠ .defer c) (q6 : ∀ c, o6.op ≠ .defer c)
    (t0 : o0.dst = some d0) (t1 : o1.dst = some d1) (t2 : o2.dst = some d2) (t3 : o3.dst = some d3) (t4 : o4.dst = some d4) (t5 : o5.dst = some d5) (t6 : o6.dst = none)
    (r : Region.ready .any ops #[false, false, false, false, false, false, false] = [0, 1])
    (r0 : Region.ready .any ops #[true, false, false, false, false, false, false] = [1]) (r1 : Region.ready .any ops #[false, true, false, false, false, false, false] = [0, 2])
    (r01 : Region.ready .any ops #[true, true, false, false, false, false, false] = [2]) (r12 : Region.ready .any ops #[false, true, true, false, false, false, false] = [0, 3])
    (r012 : Region.ready .any ops #[true, true, true, false, false, false, false] = [3]) (r123 : Region.ready .any ops #[false, true, true, true, false, false, false] = [0, 4])
    (r0123 : Region.ready .any ops #[true, true, true, true, false, false, false] = [4]) (r1234 : Region.ready .any ops #[false, true, true, true, true, false, false] = [0])
    (r5 : Region.ready .any ops #[true, true, true, true, true, false, false] = [5]) (r6 : Region.ready .any ops #[true, true, true, true, true, true, false] = [6]) (r7 : Region.ready .any ops #[true, true, true, true, true, true, true] = [])
    (sz : d0 < a.tmps.size ∧ d1 < a.tmps.size ∧ d2 < a.tmps.size ∧ d3 < a.tmps.size ∧ d4 < a.tmps.size ∧ d5 < a.tmps.size)
    (ne : [tl, tr, d0, d1, d2, d3, d4, d5].Nodup)
    (hl : a.tmps[tl]? = some pl) (hr : a.tmps[tr]? = some vr)
    (x0 : ∀ (b : Act) W, b.tmps[tl]? = some pl → (W = w ∨ W = w') → (execOp b.eval o0).run P W = .ok (.value vl) W)
    (x1 : ∀ b : Act, b.tmps[tr]? = some vr → (execOp b.eval o1).run P w = .ok (.value v1) w)
    (x2 : ∀ b : Act, b.tmps[d1]? = some v1 → (execOp b.eval o2).run P w = .ok (.value v2) w)
    (x3 : ∀ b : Act, b.tmps[d2]? = some v2 → (execOp b.eval o3).run P w = .ok (.value v3) w)
    (x4 : ∀ b : Act, b.tmps[d3]? = some v3 → (execOp b.eval o4).run P w = .ok (.value v4) w')
    (x5 : ∀ b : Act, b.tmps[d0]? = some vl → b.tmps[d4]? = some v4 → (execOp b.eval o5).run P w' = .ok (.value v5) W2)
    (x6 : ∀ b : Act, b.tmps[tl]? = some pl → b.tmps[d5]? = some v5 → (execOp b.eval o6).run P W2 = .ok .skip W3)
    (hQ : Q .normal ((((((a.put (some d0) vl).put (some d1) v1).put (some d2) v2).put (some d3) v3).put (some d4) v4).put (some d5) v5) W3) :
    wpAnyIn F n P .any ops Q 7 #[false, false, false, false, false, false, false] a w := by
  have ne' := ne
  simp only [List.nodup_cons, List.mem_cons, List.not_mem_nil, or_false, not_or, List.nodup_nil, and_true, not_false_eq_true] at ne'
  obtain ⟨⟨l1, l2, l3, l4, l5, l6, l7⟩, ⟨a2, a3, a4, a5, a6, a7⟩, ⟨m1, m2, m3, m4, m5⟩, ⟨p2, p3, p4, p5⟩, ⟨s3, s4, s5⟩, ⟨u4, u5⟩, y5⟩ := ne'
  obtain ⟨z0, z1, z2, z3, z4, z5⟩ := sz
  have df1 : ∀ {b : Act} {d v}, (b.put (some d) v).defers = b.defers := rfl
  have sz1 : ∀ {b : Act} {d v}, (b.put (some d) v).tmps.size = b.tmps.size := rput_sz
  refine round_app hF e0 e1 e2 e3 e4 e5 e6 g0 g1 g2 g3 g4 g5 g6 q0 q1 q2 q3 q4 q5 q6 t0 t1 t2 t3 t4 t5 t6 r r0 r1 r01 r12 r012 r123 r0123 r1234 r5 r6 r7
    ((((((a.put (some d0) vl).put (some d1) v1).put (some d2) v2).put (some d3) v3).put (some d4) v4).put (some d5) v5) (by simp only [sz1]) (by simp only [df1]) ?_ ?_ ?_ ?_ ?_ ?_ ?_ ne ?_ ?_ x0 x1 x2 x3 x4 x5 x6 hQ
  · rw [rput_ne (Ne.symm m5), rput_ne (Ne.symm m4), rput_ne (Ne.symm m3), rput_ne (Ne.symm m2), rput_ne (Ne.symm m1), rput_at z0]
  · rw [rput_ne (Ne.symm p5), rput_ne (Ne.symm p4), rput_ne (Ne.symm p3), rput_ne (Ne.symm p2), rput_at (by simp only [sz1]; exact z1)]
  · rw [rput_ne (Ne.symm s5), rput_ne (Ne.symm s4), rput_ne (Ne.symm s3), rput_at (by simp only [sz1]; exact z2)]
  · rw [rput_ne (Ne.symm u5), rput_ne (Ne.symm u4), rput_at (by simp only [sz1]; exact z3)]
  · rw [rput_ne (Ne.symm y5), rput_at (by simp only [sz1]; exact z4)]
  · rw [rput_at (by simp only [sz1]; exact z5)]
  · intro d n0 n1 n2 n3 n4 n5
    rw [rput_ne (Ne.symm n5), rput_ne (Ne.symm n4), rput_ne (Ne.symm n3), rput_ne (Ne.symm n2), rput_ne (Ne.symm n1), rput_ne (Ne.symm n0)]
  · rw [rput_ne (Ne.symm l7), rput_ne (Ne.symm l6), rput_ne (Ne.symm l5), rput_ne (Ne.symm l4), rput_ne (Ne.symm l3), rput_ne (Ne.symm l2)]; exact hl
  · rw [rput_ne (Ne.symm a7), rput_ne (Ne.symm a6), rput_ne (Ne.symm a5), rput_ne (Ne.symm a4), rput_ne (Ne.symm a3), rput_ne (Ne.symm a2)]; exact hr
theorem round_push2 (hF : ∀ f, F.fn f) (hF2 : F.depth = none)
    (e0 : ops[0]? = some o0) (e1 : ops[1]? = some o1) (e2 : ops[2]? = some o2) (e3 : ops[3]? = some o3)
    (g0 : o0.guard = none) (g1 : o1.guard = none) (g2 : o2.guard = none) (g3 : o3.guard = none)
    (q0 : ∀ c, o0.op ≠ .defer c) (q1 : ∀ c, o1.op ≠ .defer c) (q2 : ∀ c, o2.op ≠ .defer c) (q3 : ∀ c, o3.op ≠ .defer c)
    (t0 : o0.dst = some d0) (t1 : o1.dst = some d1) (t2 : o2.dst = some d2) (t3 : o3.dst = some d3)
    (r : Region.ready .any ops #[false, false, false, false] = [0, 1]) (r0 : Region.ready .any ops #[true, false, false, false] = [1]) (r1 : Region.ready .any ops #[false, true, false, false] = [0, 2])
    (r01 : Region.ready .any ops #[true, true, false, false] = [2]) (r12 : Region.ready .any ops #[false, true, true, false] = [0]) (r012 : Region.ready .any ops #[true, true, true, false] = [3]) (r3 : Region.ready .any ops #[true, true, true, true] = [])
    (sz : d0 < a.tmps.size ∧ d1 < a.tmps.size ∧ d2 < a.tmps.size)
    (ne : [tl, tr, d0, d1, d2, d3].Nodup)
    (hl : a.tmps[tl]? = some pl) (hr : a.tmps[tr]? = some vr)
    (x0 : ∀ b : Act, b.tmps[tl]? = some pl → (execOp b.eval o0).run P w = .ok (.value vl) w)
    (x1 : ∀ b : Act, b.tmps[tr]? = some vr → (execOp b.eval o1).run P w = .ok (.value v1) w)
    (x2 : ∀ b : Act, b.tmps[d1]? = some v1 → (execOp b.eval o2).run P w = .ok (.value v2) w)
    (f : FuncId) (R : Value → World → Prop)
    (x3 : ∀ b : Act, b.tmps[d0]? = some vl → b.tmps[d2]? = some v2 → (execOp b.eval o3).run P w = .ok (.enter f #[vl, v2]) w)
    (c3 : CallsIn F (n - 1) P f #[vl, v2] w fun e w'' => ∃ v, e = .returned v ∧ R v w'')
    (hQ : ∀ v w'', R v w'' → Q .normal ((((a.put (some d0) vl).put (some d1) v1).put (some d2) v2).put (some d3) v) w'') :
    wpAnyIn F n P .any ops Q 4 #[false, false, false, false] a w := by
  have ne' := ne
  simp only [List.nodup_cons, List.mem_cons, List.not_mem_nil, or_false, not_or, List.nodup_nil, and_true, not_false_eq_true] at ne'
  obtain ⟨⟨l1, l2, l3, l4, l5⟩, ⟨a2, a3, a4, a5⟩, ⟨m1, m2, m3⟩, ⟨p2, p3⟩, s3⟩ := ne'
  obtain ⟨z0, z1, z2⟩ := sz
  have df1 : ∀ {b : Act} {d v}, (b.put (some d) v).defers = b.defers := rfl
  have sz1 : ∀ {b : Act} {d v}, (b.put (some d) v).tmps.size = b.tmps.size := rput_sz
  refine round_push hF hF2 e0 e1 e2 e3 g0 g1 g2 g3 q0 q1 q2 q3 t0 t1 t2 t3 r r0 r1 r01 r12 r012 r3
    (((a.put (some d0) vl).put (some d1) v1).put (some d2) v2) (by simp only [sz1]) (by simp only [df1]) ?_ ?_ ?_ ?_ ne ?_ ?_ x0 x1 x2 f R x3 c3 hQ
  · rw [rput_ne (Ne.symm m2), rput_ne (Ne.symm m1), rput_at z0]
  · rw [rput_ne (Ne.symm p2), rput_at (by simp only [sz1]; exact z1)]
  · rw [rput_at (by simp only [sz1]; exact z2)]
  · intro d n0 n1 n2
    rw [rput_ne (Ne.symm n2), rput_ne (Ne.symm n1), rput_ne (Ne.symm n0)]
  · rw [rput_ne (Ne.symm l4), rput_ne (Ne.symm l3), rput_ne (Ne.symm l2)]; exact hl
  · rw [rput_ne (Ne.symm a4), rput_ne (Ne.symm a3), rput_ne (Ne.symm a2)]; exact hr
end
end Go.Proofs.Ytcfmbppnghlkaaa
