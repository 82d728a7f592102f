/- In a round: a row grows by what a call tells ('l = append(l, a.f(n))'), in whatever order its operations come. -/
import Derived.Test.YtcfmbppnghlkaaaIter
namespace Go.Proofs.Ytcfmbppnghlkaaa
open Go.RowKit Go.Shelf

theorem rput_at {a : Act} {d : Nat} {v : Value} (h : d < a.tmps.size) : (a.put (some d) v).tmps[d]? = some v := by
  show (a.tmps.setIfInBounds d v)[d]? = _
  rw [Array.getElem?_setIfInBounds, if_pos rfl, if_pos h]
theorem rput_ne {a : Act} {d e : Nat} {v : Value} (h : d ≠ e) : (a.put (some d) v).tmps[e]? = a.tmps[e]? := by
  show (a.tmps.setIfInBounds d v)[e]? = _
  rw [Array.getElem?_setIfInBounds, if_neg h]
theorem rput_sz {a : Act} {d : Nat} {v : Value} : (a.put (some d) v).tmps.size = a.tmps.size := by
  show (a.tmps.setIfInBounds d v).size = _
  simp
theorem reval {a : Act} {d : Nat} {v : Value} (h : a.tmps[d]? = some v) : a.eval (.tmp d) = v := by
  show a.tmps.getD d undef = v
  simp only [Array.getD_eq_getD_getElem?, h]; rfl

section
variable {F : Fence} {n : Nat} {P : Program} {ops : Array Oper} {o : Oper} {a : Act} {w w' : World} {K : Act → World → Prop} {Q : Exit → Act → World → Prop} {E : Prop}
/-- an operation that yields a value -/
theorem rstep_val (hF : ∀ f, F.fn f) (hg : o.guard = none) (hd : ∀ c, o.op ≠ .defer c) (v : Value) (hrun : (execOp a.eval o).run P w = .ok (.value v) w') (h : K (a.put o.dst v) w') :
    if Region.wanted o (yielded ops a.tmps) = true then Oper.wpIn F n P o a w K Q else E := by
  rw [if_pos (by simp [Region.wanted, hg])]
  refine ⟨fun f _ => hF f, ?_⟩
  rw [Oper.semAt_plain F _ _ hd, hrun]
  exact h
theorem rstep_skip (hF : ∀ f, F.fn f) (hg : o.guard = none) (hd : ∀ c, o.op ≠ .defer c) (hrun : (execOp a.eval o).run P w = .ok .skip w') (h : K (a.put o.dst undef) w') :
    if Region.wanted o (yielded ops a.tmps) = true then Oper.wpIn F n P o a w K Q else E := by
  rw [if_pos (by simp [Region.wanted, hg])]
  refine ⟨fun f _ => hF f, ?_⟩
  rw [Oper.semAt_plain F _ _ hd, hrun]
  exact h
theorem rstep_call (hF : ∀ f, F.fn f) (hF2 : F.depth = none) (hg : o.guard = none) (hd : ∀ c, o.op ≠ .defer c) (f : FuncId) (args : Array Value) (R : Value → World → Prop) (hrun : (execOp a.eval o).run P w = .ok (.enter f args) w)
    (hc : CallsIn F (n - 1) P f args w fun e w'' => ∃ v, e = .returned v ∧ R v w'') (h : ∀ v w'', R v w'' → K (a.put o.dst v) w'') :
    if Region.wanted o (yielded ops a.tmps) = true then Oper.wpIn F n P o a w K Q else E := by
  rw [if_pos (by simp [Region.wanted, hg])]
  refine ⟨fun f _ => hF f, ?_⟩
  rw [Oper.semAt_plain F _ _ hd, hrun, Oper.uponIn_enter]
  refine ⟨fun hh => (by rw [hF2] at hh; cases hh), hc.mono ?_⟩
  rintro e w'' ⟨v, rfl, hR⟩
  exact h v w'' hR
end

section
variable {F : Fence} {n : Nat} {P : Program} {ops : Array Oper} {Q : Exit → Act → World → Prop} {o0 o1 o2 o3 o4 o5 o6 : Oper} {tl ta tn d0 d1 d2 d3 d4 d5 : Nat} {a : Act} {w : World} {f : FuncId} {vl va vn vr pl pa : Value}

/-- the law: R: what is known of the world behind the call; T: behind the row that is built; U: behind the append, with the new row -/
theorem round_snoc (hF : ∀ f, F.fn f) (hF2 : F.depth = none)
    (e0 : ops[0]? = some o0) (e1 : ops[1]? = some o1) (e2 : ops[2]? = some o2) (e3 : ops[3]? = some o3) (e4 : ops[4]? = some o4) (e5 : ops[5]? = some o5) (e6 : ops[6]? = some o6)
    (g0 : o0.guard = none) (g1 : o1.guard = none) (g2 : o2.guard = none) (g3 : o3.guard = none) (g4 : o4.guard = none) (g5 : o5.guard = none) (g6 : o6.guard = none)
    (q0 : ∀ c, o0.op ≠ .defer c) (q1 : ∀ c, o1.op ≠ .defer c) (q2 : ∀ c, o2.op ≠ .defer c) (q3 : ∀ c, o3.op ≠ .defer c) (q4 : ∀ c, o4.op ≠ .defer c) (q5 : ∀ c, o5.op ≠ .defer c) (q6 : ∀ c, o6.op ≠ .defer c)
    (t0 : o0.dst = some d0) (t1 : o1.dst = some d1) (t2 : o2.dst = some d2) (t3 : o3.dst = some d3) (t4 : o4.dst = some d4) (t5 : o5.dst = some d5)
    (r : Region.ready .any ops #[false, false, false, false, false, false, false] = [0, 1, 2])
    (r0 : Region.ready .any ops #[true, false, false, false, false, false, false] = [1, 2]) (r1 : Region.ready .any ops #[false, true, false, false, false, false, false] = [0, 2]) (r2 : Region.ready .any ops #[false, false, true, false, false, false, false] = [0, 1])
    (r01 : Region.ready .any ops #[true, true, false, false, false, false, false] = [2]) (r02 : Region.ready .any ops #[true, false, true, false, false, false, false] = [1]) (r12 : Region.ready .any ops #[false, true, true, false, false, false, false] = [0, 3])
    (r012 : Region.ready .any ops #[true, true, true, false, false, false, false] = [3]) (r123 : Region.ready .any ops #[false, true, true, true, false, false, false] = [0, 4])
    (r0123 : Region.ready .any ops #[true, true, true, true, false, false, false] = [4]) (r1234 : Region.ready .any ops #[false, true, true, true, true, false, false] = [0])
    (r5 : Region.ready .any ops #[true, true, true, true, true, false, false] = [5]) (r6 : Region.ready .any ops #[true, true, true, true, true, true, false] = [6]) (r7 : Region.ready .any ops #[true, true, true, true, true, true, true] = [])
    (sz : d0 < a.tmps.size ∧ d1 < a.tmps.size ∧ d2 < a.tmps.size ∧ d3 < a.tmps.size ∧ d4 < a.tmps.size ∧ d5 < a.tmps.size)
    (ne : [tl, ta, tn, d0, d1, d2, d3, d4, d5].Nodup)
    (hl : a.tmps[tl]? = some pl) (ha : a.tmps[ta]? = some pa) (hn : a.tmps[tn]? = some vn)
    (R : World → Prop) (T : World → World → Prop) (U : Value → World → World → Prop)
    (x0 : ∀ (b : Act) W, b.tmps[tl]? = some pl → (W = w ∨ R W ∨ ∃ W3, R W3 ∧ T W3 W) → (execOp b.eval o0).run P W = .ok (.value vl) W)
    (x1 : ∀ b : Act, b.tmps[ta]? = some pa → (execOp b.eval o1).run P w = .ok (.value va) w)
    (x2 : ∀ b : Act, b.tmps[tn]? = some vn → (execOp b.eval o2).run P w = .ok (.value vn) w)
    (x3 : ∀ b : Act, b.tmps[d1]? = some va → b.tmps[d2]? = some vn → (execOp b.eval o3).run P w = .ok (.enter f #[va, vn]) w)
    (c3 : CallsIn F (n - 1) P f #[va, vn] w fun e w' => e = .returned vr ∧ R w')
    (x4 : ∀ (b : Act) W, b.tmps[d3]? = some vr → R W → ∃ u W', (execOp b.eval o4).run P W = .ok (.value u) W' ∧ T W W' ∧
      ∀ b : Act, b.tmps[d0]? = some vl → b.tmps[d4]? = some u → ∃ v W2, (execOp b.eval o5).run P W' = .ok (.value v) W2 ∧ U v W W2)
    (x6 : ∀ (b : Act) v W W2, b.tmps[tl]? = some pl → b.tmps[d5]? = some v → R W → U v W W2 → ∃ W', (execOp b.eval o6).run P W2 = .ok .skip W' ∧ ∀ b', Q .normal b' W') :
    wpAnyIn F n P .any ops Q 7 #[false, false, false, false, false, false, false] a w := by
  simp only [List.nodup_cons, List.mem_cons, List.not_mem_nil, or_false, not_or, List.nodup_nil, and_true, not_false_eq_true] at ne
  obtain ⟨⟨l1, l2, l3, l4, l5, l6, l7, l8⟩, ⟨a2, a3, a4, a5, a6, a7, a8⟩, ⟨n3, n4, n5, n6, n7, n8⟩, ⟨m4, m5, m6, m7, m8⟩, ⟨p5, p6, p7, p8⟩, ⟨s6, s7, s8⟩, ⟨u7, u8⟩, y8⟩ := ne
  obtain ⟨z0, z1, z2, z3, z4, z5⟩ := sz
  /- the append, the store -/
  have G5 : ∀ (b : Act) (W W' : World) (u : Value), b.tmps.size = a.tmps.size → b.tmps[tl]? = some pl → b.tmps[d0]? = some vl → b.tmps[d4]? = some u → R W →
      (∀ b : Act, b.tmps[d0]? = some vl → b.tmps[d4]? = some u → ∃ v W2, (execOp b.eval o5).run P W' = .ok (.value v) W2 ∧ U v W W2) →
      wpAnyIn F n P .any ops Q 2 #[true, true, true, true, true, false, false] b W' := by
    intro b W W' u hs h1 h2 h3 hR h5
    obtain ⟨v, W2, hrun, hU⟩ := h5 b h2 h3
    refine wpAnyIn_ready r5 (by simp) (AllReadyIn.cons e5 (fun K hK => ?_) AllReadyIn.nil)
    refine rstep_val hF g5 q5 v hrun (hK _ _ ?_)
    rw [t5]
    obtain ⟨W4, hrun6, hfin⟩ := x6 (b.put (some d5) v) v W W2 ((rput_ne (Ne.symm l8)).trans h1) (rput_at (by omega)) hR hU
    refine wpAnyIn_ready r6 (by simp) (AllReadyIn.cons e6 (fun K hK => ?_) AllReadyIn.nil)
    exact rstep_skip hF g6 q6 hrun6 (hK _ _ (wpAnyIn_done r7 (hfin _) _))
  have G4 : ∀ (b : Act) (W : World), b.tmps.size = a.tmps.size → b.tmps[tl]? = some pl → b.tmps[d0]? = some vl → b.tmps[d3]? = some vr → R W →
      wpAnyIn F n P .any ops Q 3 #[true, true, true, true, false, false, false] b W := by
    intro b W hs h1 h2 h3 hR
    obtain ⟨u, W', hrun, _, h5⟩ := x4 b W h3 hR
    refine wpAnyIn_ready r0123 (by simp) (AllReadyIn.cons e4 (fun K hK => ?_) AllReadyIn.nil)
    refine rstep_val hF g4 q4 u hrun (hK _ _ ?_)
    rw [t4]
    exact G5 _ W W' u (rput_sz.trans hs) ((rput_ne (Ne.symm l7)).trans h1) ((rput_ne (Ne.symm m7)).trans h2) (rput_at (by omega)) hR h5
  have G13 : ∀ (b : Act) (W : World), b.tmps.size = a.tmps.size → b.tmps[tl]? = some pl → b.tmps[d3]? = some vr → R W →
      wpAnyIn F n P .any ops Q 4 #[false, true, true, true, false, false, false] b W := by
    intro b W hs h1 h3 hR
    refine wpAnyIn_ready r123 (by simp) (AllReadyIn.cons e0 (fun K hK => ?_) (AllReadyIn.cons e4 (fun K hK => ?_) AllReadyIn.nil))
    · refine rstep_val hF g0 q0 vl (x0 b W h1 (.inr (.inl hR))) (hK _ _ ?_)
      rw [t0]
      exact G4 _ W (rput_sz.trans hs) ((rput_ne (Ne.symm l3)).trans h1) (rput_at (by omega)) ((rput_ne m6).trans h3) hR
    · obtain ⟨u, W', hrun, hT, h5⟩ := x4 b W h3 hR
      refine rstep_val hF g4 q4 u hrun (hK _ _ ?_)
      rw [t4]
      have h1' := (rput_ne (v := u) (a := b) (Ne.symm l7)).trans h1
      refine wpAnyIn_ready r1234 (by simp) (AllReadyIn.cons e0 (fun K hK => ?_) AllReadyIn.nil)
      refine rstep_val hF g0 q0 vl (x0 _ W' h1' (.inr (.inr ⟨W, hR, hT⟩))) (hK _ _ ?_)
      rw [t0]
      exact G5 _ W W' u (rput_sz.trans (rput_sz.trans hs)) ((rput_ne (Ne.symm l3)).trans h1') (rput_at (by rw [rput_sz]; omega)) ((rput_ne m7).trans (rput_at (by omega))) hR h5
  have hc : CallsIn F (n - 1) P f #[va, vn] w fun e w'' => ∃ v, e = .returned v ∧ (v = vr ∧ R w'') := c3.mono fun e w'' h => ⟨vr, h.1, rfl, h.2⟩
  have G3 : ∀ b : Act, b.tmps.size = a.tmps.size → b.tmps[tl]? = some pl → b.tmps[d0]? = some vl → b.tmps[d1]? = some va → b.tmps[d2]? = some vn → wpAnyIn F n P .any ops Q 4 #[true, true, true, false, false, false, false] b w := by
    intro b hs h1 h0 h2 h3
    refine wpAnyIn_ready r012 (by simp) (AllReadyIn.cons e3 (fun K hK => ?_) AllReadyIn.nil)
    refine rstep_call hF hF2 g3 q3 f #[va, vn] _ (x3 b h2 h3) hc fun v W hv => hK _ _ ?_
    obtain ⟨rfl, hR⟩ := hv
    rw [t3]
    exact G4 _ W (rput_sz.trans hs) ((rput_ne (Ne.symm l6)).trans h1) ((rput_ne (Ne.symm m6)).trans h0) (rput_at (by omega)) hR
  have G12 : ∀ b : Act, b.tmps.size = a.tmps.size → b.tmps[tl]? = some pl → b.tmps[d1]? = some va → b.tmps[d2]? = some vn → wpAnyIn F n P .any ops Q 5 #[false, true, true, false, false, false, false] b w := by
    intro b hs h1 h2 h3
    refine wpAnyIn_ready r12 (by simp) (AllReadyIn.cons e0 (fun K hK => ?_) (AllReadyIn.cons e3 (fun K hK => ?_) AllReadyIn.nil))
    · refine rstep_val hF g0 q0 vl (x0 b w h1 (.inl rfl)) (hK _ _ ?_)
      rw [t0]
      exact G3 _ (rput_sz.trans hs) ((rput_ne (Ne.symm l3)).trans h1) (rput_at (by omega)) ((rput_ne m4).trans h2) ((rput_ne m5).trans h3)
    · refine rstep_call hF hF2 g3 q3 f #[va, vn] _ (x3 b h2 h3) hc fun v W hv => hK _ _ ?_
      obtain ⟨rfl, hR⟩ := hv
      rw [t3]
      exact G13 _ W (rput_sz.trans hs) ((rput_ne (Ne.symm l6)).trans h1) (rput_at (by omega)) hR
  have G01 : ∀ b : Act, b.tmps.size = a.tmps.size → b.tmps[tl]? = some pl → b.tmps[tn]? = some vn → b.tmps[d0]? = some vl → b.tmps[d1]? = some va → wpAnyIn F n P .any ops Q 5 #[true, true, false, false, false, false, false] b w := by
    intro b hs h1 hn h0 h2
    refine wpAnyIn_ready r01 (by simp) (AllReadyIn.cons e2 (fun K hK => ?_) AllReadyIn.nil)
    refine rstep_val hF g2 q2 vn (x2 b hn) (hK _ _ ?_)
    rw [t2]
    exact G3 _ (rput_sz.trans hs) ((rput_ne (Ne.symm l5)).trans h1) ((rput_ne (Ne.symm m5)).trans h0) ((rput_ne (Ne.symm p5)).trans h2) (rput_at (by omega))
  have G02 : ∀ b : Act, b.tmps.size = a.tmps.size → b.tmps[tl]? = some pl → b.tmps[ta]? = some pa → b.tmps[d0]? = some vl → b.tmps[d2]? = some vn → wpAnyIn F n P .any ops Q 5 #[true, false, true, false, false, false, false] b w := by
    intro b hs h1 ha h0 h2
    refine wpAnyIn_ready r02 (by simp) (AllReadyIn.cons e1 (fun K hK => ?_) AllReadyIn.nil)
    refine rstep_val hF g1 q1 va (x1 b ha) (hK _ _ ?_)
    rw [t1]
    exact G3 _ (rput_sz.trans hs) ((rput_ne (Ne.symm l4)).trans h1) ((rput_ne (Ne.symm m4)).trans h0) (rput_at (by omega)) ((rput_ne p5).trans h2)
  refine wpAnyIn_ready r (by simp) (AllReadyIn.cons e0 (fun K hK => ?_) (AllReadyIn.cons e1 (fun K hK => ?_) (AllReadyIn.cons e2 (fun K hK => ?_) AllReadyIn.nil)))
  · refine rstep_val hF g0 q0 vl (x0 a w hl (.inl rfl)) (hK _ _ ?_)
    rw [t0]
    have b1 := (rput_ne (v := vl) (a := a) (Ne.symm l3)).trans hl
    have b2 := (rput_ne (v := vl) (a := a) (Ne.symm a3)).trans ha
    have b3 := (rput_ne (v := vl) (a := a) (Ne.symm n3)).trans hn
    have b4 := rput_at (v := vl) z0
    refine wpAnyIn_ready r0 (by simp) (AllReadyIn.cons e1 (fun K hK => ?_) (AllReadyIn.cons e2 (fun K hK => ?_) AllReadyIn.nil))
    · refine rstep_val hF g1 q1 va (x1 _ b2) (hK _ _ ?_)
      rw [t1]
      exact G01 _ (rput_sz.trans rput_sz) ((rput_ne (Ne.symm l4)).trans b1) ((rput_ne (Ne.symm n4)).trans b3) ((rput_ne (Ne.symm m4)).trans b4) (rput_at (by rw [rput_sz]; omega))
    · refine rstep_val hF g2 q2 vn (x2 _ b3) (hK _ _ ?_)
      rw [t2]
      exact G02 _ (rput_sz.trans rput_sz) ((rput_ne (Ne.symm l5)).trans b1) ((rput_ne (Ne.symm a5)).trans b2) ((rput_ne (Ne.symm m5)).trans b4) (rput_at (by rw [rput_sz]; omega))
  · refine rstep_val hF g1 q1 va (x1 a ha) (hK _ _ ?_)
    rw [t1]
    have b1 := (rput_ne (v := va) (a := a) (Ne.symm l4)).trans hl
    have b3 := (rput_ne (v := va) (a := a) (Ne.symm n4)).trans hn
    have b4 := rput_at (v := va) z1
    refine wpAnyIn_ready r1 (by simp) (AllReadyIn.cons e0 (fun K hK => ?_) (AllReadyIn.cons e2 (fun K hK => ?_) AllReadyIn.nil))
    · refine rstep_val hF g0 q0 vl (x0 _ w b1 (.inl rfl)) (hK _ _ ?_)
      rw [t0]
      exact G01 _ (rput_sz.trans rput_sz) ((rput_ne (Ne.symm l3)).trans b1) ((rput_ne (Ne.symm n3)).trans b3) (rput_at (by rw [rput_sz]; omega)) ((rput_ne m4).trans b4)
    · refine rstep_val hF g2 q2 vn (x2 _ b3) (hK _ _ ?_)
      rw [t2]
      exact G12 _ (rput_sz.trans rput_sz) ((rput_ne (Ne.symm l5)).trans b1) ((rput_ne (Ne.symm p5)).trans b4) (rput_at (by rw [rput_sz]; omega))
  · refine rstep_val hF g2 q2 vn (x2 a hn) (hK _ _ ?_)
    rw [t2]
    have b1 := (rput_ne (v := vn) (a := a) (Ne.symm l5)).trans hl
    have b2 := (rput_ne (v := vn) (a := a) (Ne.symm a5)).trans ha
    have b4 := rput_at (v := vn) z2
    refine wpAnyIn_ready r2 (by simp) (AllReadyIn.cons e0 (fun K hK => ?_) (AllReadyIn.cons e1 (fun K hK => ?_) AllReadyIn.nil))
    · refine rstep_val hF g0 q0 vl (x0 _ w b1 (.inl rfl)) (hK _ _ ?_)
      rw [t0]
      exact G02 _ (rput_sz.trans rput_sz) ((rput_ne (Ne.symm l3)).trans b1) ((rput_ne (Ne.symm a3)).trans b2) (rput_at (by rw [rput_sz]; omega)) ((rput_ne m5).trans b4)
    · refine rstep_val hF g1 q1 va (x1 _ b2) (hK _ _ ?_)
      rw [t1]
      exact G12 _ (rput_sz.trans rput_sz) ((rput_ne (Ne.symm l4)).trans b1) (rput_at (by rw [rput_sz]; omega)) ((rput_ne p5).trans b4)
end
end Go.Proofs.Ytcfmbppnghlkaaa
