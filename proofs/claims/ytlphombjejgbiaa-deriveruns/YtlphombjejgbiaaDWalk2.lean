/- The walk that calls itself in its own rounds. -/
import Derived.Test.YtlphombjejgbiaaDWalk
namespace Go.Proofs.Ytlphombjejgbiaa
open Go.RowKit Go.Shelf
attribute [local go_sem] Oper.semAt_some
set_option maxRecDepth 100000

theorem But.stripD {S : Nat → Prop} {L : Nat} {W W' : World} (h : But (fun b => b = L ∨ S b) W W') (hL : W'.heap[L]? = W.heap[L]?) : But S W W' :=
  ⟨h.os, h.tape, h.output, h.size, fun b hb hs => by
    by_cases e : b = L
    · rw [e]; exact hL
    · exact h.block b hb fun h => h.elim e hs⟩
theorem beginD {W : World} {L : Nat} {r : Loop} (h : W.heap[L]? = some (.loop r)) (hr : r.state = .ready) : ∃ Wb, (Instr.beginRound L).run Try.prog W = .ok () Wb ∧ Wb.heap[L]? = some (.loop { r with state := .busy }) ∧ But (fun b => b = L) W Wb :=
  ⟨_, run_beginRound h hr, World.putObj_heap_same (Array.getElem?_eq_some_iff.1 h).1, ⟨rfl, rfl, rfl, by simp [World.putObj], fun b _ hb => World.putObj_heap_other hb⟩⟩
theorem endD {W : World} {L : Nat} {r : Loop} (h : W.heap[L]? = some (.loop r)) : ∃ Wb, (Instr.endRound L none).run Try.prog W = .ok (.bool true) Wb ∧ Wb.heap[L]? = some (.loop { r with state := .ready, pending := none }) ∧ But (fun b => b = L) W Wb :=
  ⟨_, run_endRound none h, World.putObj_heap_same (Array.getElem?_eq_some_iff.1 h).1, ⟨rfl, rfl, rfl, by simp [World.putObj], fun b _ hb => World.putObj_heap_other hb⟩⟩
/-- a range's frame -/
theorem dloop {g : Operand} {ps : Array Tmp} {assign body : Code} {Q : Exit → Act → World → Prop} {a : Act} {w1 : World} {gf : Nat} {x1 x2 x3 : Value} (hg : a.eval g = .func (.func gf) #[] #[x1, x2, x3]) (eg : ∀ args w, (callFunc gf args).run Try.prog w = .ok (.enter gf args) w)
    (h : ∀ fn X W1, X = .loop { state := .ready, pending := none, fn, tmps := a.tmps, params := ps, assign, body, defers := w1.heap.size } → (w1.alloc (.deferred (some []))).alloc X = W1 → CallsIn Fence.wide 5 Try.prog gf #[.func (.yield (w1.heap.size + 1)) #[] #[], x1, x2, x3] W1 (rangePost Fence.wide 6 Try.prog (w1.heap.size + 1) Q { a with defers := [{ target := .collected w1.heap.size, args := #[] }] ++ a.defers })) :
    (Code.rangeFunc g ps assign body).wpIn Fence.wide 6 Try.prog Q a w1 := by
  refine wpIn_rangeFunc ?_
  intro fn _
  obtain ⟨W1, hW1⟩ : ∃ W1, (w1.alloc (.deferred (some []))).alloc (.loop { state := .ready, pending := none, fn, tmps := a.tmps, params := ps, assign, body, defers := w1.heap.size }) = W1 := ⟨_, rfl⟩
  have h' := h fn _ W1 rfl hW1
  refine ⟨w1.heap.size + 1, [{ target := .collected w1.heap.size, args := #[] }], W1, { target := .fn (.func gf) #[x1, x2, x3], args := #[.func (.yield (w1.heap.size + 1)) #[] #[]] }, W1, gf, #[.func (.yield (w1.heap.size + 1)) #[] #[], x1, x2, x3], W1, ?_, ?_, ?_, ?_, fun _ => by omega, h'⟩
  · rw [← hW1]; exact run_enterLoop_outer _ _ _ _ _
  · simp only [resolve, hg]
    simp [go_sem]
  · intro _ _; trivial
  · simp [invoke, go_sem, eg]

/-- what the walk leans on -/
structure Wk (w : World) (kb : Nat) (o : Pl) (N F C : Nat) (L : List Fe) (T : List Nat) : Prop where
  c : w.cell? ⟨kb, 17, none⟩ = some o.ptr
  k : Kv w o N N (kids L)
  f : Fnd w F C T
  n : ¬ o.has F ∧ ¬ o.has C ∧ kb ≠ F ∧ kb ≠ C
theorem Wk.lt {w : World} {kb : Nat} {o : Pl} {N F C : Nat} {L : List Fe} {T : List Nat} (h : Wk w kb o N F C L T) : kb < w.heap.size ∧ F < w.heap.size ∧ C < w.heap.size ∧ ∀ b, o.has b → b < w.heap.size := ⟨cell_lt h.c, h.f.lt.1, h.f.lt.2, h.k.lt⟩
/-- a block beyond it is changed -/
theorem Wk.beyond {w w' : World} {kb : Nat} {o : Pl} {N F C B : Nat} {L : List Fe} {T : List Nat} (h : Wk w kb o N F C L T) (hb : But (fun b => b = B) w w') (h1 : kb < B ∧ F < B ∧ C < B ∧ ∀ b, o.has b → b < B) : Wk w' kb o N F C L T :=
  ⟨hb.cell h.c (fun e => by omega), h.k.but hb (fun b hb' e => by have := h1.2.2.2 b hb'; omega), h.f.but hb (fun e => by omega) (fun e => by omega), h.n⟩
theorem Boxed.but {S : Nat → Prop} {W W' : World} {B : Nat} {t : TypeId} {v : Value} (h : Boxed W B t v) (hb : But S W W') (hs : ¬ S B) : Boxed W' B t v := (hb.block _ h.lt hs).trans h
theorem flat_next {r : List Nat} {g : Nat → List Nat} {j : Nat} (hj : j < r.length) : (r.take (j + 1)).flatMap g = (r.take j).flatMap g ++ g (r.getD j 0) := by
  rw [List.take_succ_eq_append_getElem hj, List.flatMap_append]
  simp [List.getD, hj]
theorem flat_le (r : List Nat) (g : Nat → List Nat) (j : Nat) : ((r.take j).flatMap g).length ≤ (r.flatMap g).length := by
  conv => rhs; rw [← List.take_append_drop j r, List.flatMap_append, List.length_append]
  omega
/-- what a call of it does -/
def WkDoes (kb : Nat) (o : Pl) (N F C : Nat) (L : List Fe) (k : Nat) (D : List Nat) : Prop :=
  ∀ (T : List Nat) (w : World), Wk w kb o N F C L T → T.length + D.length ≤ 1024 →
    Calls Try.prog 81 #[.pointer (some ⟨kb, 0, none⟩), .int .i64 (k : Int), .func (.func 82) #[] #[.pointer (some ⟨F, 0, none⟩), .pointer (some ⟨C, 0, none⟩)]] w fun e w' => e = .returned (.bool true) ∧ Fnd w' F C (T ++ D) ∧ But (fun b => b = F ∨ b = C) w w'
theorem Wk.next {w w' : World} {kb : Nat} {o : Pl} {N F C : Nat} {L : List Fe} {T T' : List Nat} (h : Wk w kb o N F C L T) (hb : But (fun b => b = F ∨ b = C) w w') (hf : Fnd w' F C T') : Wk w' kb o N F C L T' :=
  ⟨hb.cell h.c (fun e => e.elim h.n.2.2.1 h.n.2.2.2), h.k.but hb (fun b hb' e => by rcases e with rfl | rfl; exact h.n.1 hb'; exact h.n.2.1 hb'), hf, h.n⟩
theorem Wk.below {w w' : World} {kb : Nat} {o : Pl} {N F C : Nat} {L : List Fe} {T : List Nat} (h : Wk w kb o N F C L T) (hb : Below w.heap.size w w') : Wk w' kb o N F C L T :=
  ⟨(World.cell?_of_block (a := ⟨kb, 17, none⟩) (hb.block _ (cell_lt h.c))).trans h.c, h.k.below hb, h.f.below hb, h.n⟩

set_option maxHeartbeats 4000000 in
theorem walk_step (kb : Nat) (o : Pl) (N F C : Nat) (L : List Fe) (k : Nat) (hk : k < N) (D : Nat → List Nat) (IH : ∀ c, c ∈ kids L k → WkDoes kb o N F C L c (D c)) :
    WkDoes kb o N F C L k ((kids L k).flatMap fun c => c :: D c) := by
  intro T w hw hT
  have H0 : Hid (Wk w kb o N F C L T) := hw
  have HIH : Hid (∀ c, c ∈ kids L k → WkDoes kb o N F C L c (D c)) := IH
  have HT : Hid (T.length + ((kids L k).flatMap fun c => c :: D c).length ≤ 1024) := hT
  obtain ⟨hb3, x1, x2, x3, _⟩ := boxes3 (w := w) (x := .pointer (some ⟨kb, 0, none⟩)) (y := .func (.func 82) #[] #[.pointer (some ⟨F, 0, none⟩), .pointer (some ⟨C, 0, none⟩)]) (z := .bool false) (T := 62) (U := 75) (V := 4) rfl
  have c17 := (hw.below hb3).c
  have c1 := x1.cell
  have H3 : Hid (Below w.heap.size w _ ∧ _ ∧ _ ∧ _) := ⟨hb3, x1, x2, x3⟩
  clear hw IH hT hb3 x1 x2 x3
  refine (callsIn_wide (n := 6)).1 ?_
  refine callsIn_of_wp_marks Try.func81 rfl trivial ?_ rfl
  simp only [Try.ntmps81, List.size_toArray, List.length_cons, List.length_nil, Nat.reduceAdd, Nat.reduceSub, Array.replicate_succ, Array.replicate_zero, List.push_toArray, List.append_toArray, List.nil_append, List.cons_append]
  gi_wp2_with fail
  refine ⟨trivial, ?_⟩
  generalize hw3 : ((w.alloc (.cells #[Value.pointer (some ⟨kb, 0, none⟩)] 62)).alloc (.cells #[Value.func (.func 82) #[] #[.pointer (some ⟨F, 0, none⟩), .pointer (some ⟨C, 0, none⟩)]] 75)).alloc (.cells #[Value.bool false] 4) = w3 at *
  refine (callsIn_wide.2 (all_k _ _ _)).mono ?_
  rintro e w4 ⟨rfl, hw4⟩
  obtain ⟨hb4, y1, y2, y3, hz4⟩ := boxes3 hw4
  have hz3 : w3.heap.size = w.heap.size + 1 + 1 + 1 := by rw [← hw3]; simp
  have HW4 : Hid (Wk w4 kb o N F C L T ∧ Below w.heap.size w w4) := ⟨(H0.out.below H3.out.1).below hb4, Below.onto H3.out.1 hb4⟩
  have HX : Hid (Boxed w4 w.heap.size 62 (.pointer (some ⟨kb, 0, none⟩)) ∧ Boxed w4 (w.heap.size + 1) 75 (.func (.func 82) #[] #[.pointer (some ⟨F, 0, none⟩), .pointer (some ⟨C, 0, none⟩)]) ∧ Boxed w4 (w.heap.size + 1 + 1) 4 (.bool false)) :=
    ⟨(hb4.block _ H3.out.2.1.lt).trans H3.out.2.1, (hb4.block _ H3.out.2.2.1.lt).trans H3.out.2.2.1, (hb4.block _ H3.out.2.2.2.lt).trans H3.out.2.2.2⟩
  have HY : Hid (Boxed w4 (w.heap.size + 1 + 1 + 1) 59 o.ptr ∧ Boxed w4 (w.heap.size + 1 + 1 + 1 + 1) 3 (.int .i64 (k : Int)) ∧ Boxed w4 (w.heap.size + 1 + 1 + 1 + 1 + 1) 76 (.func (.func 92) #[o.ptr] #[])) := by rw [← hz3]; exact ⟨y1, y2, y3⟩
  clear hw4 hw3 H3 hb4 y1 y2 y3 c17 c1
  gi_wp2_with fail
  refine dloop rfl (enters_of Try.func98 (by kernel_rfl) rfl) fun fn X W1 hX hW1 => ?_
  have hK1 : W1.heap[w4.heap.size]? = some (.deferred (some [])) := by
    rw [← hW1]; exact (Below.heap_alloc _ _ _ (by simp)).trans (World.alloc_heap_new w4 _)
  have hXL : W1.heap[w4.heap.size + 1]? = some X := by
    have := World.alloc_heap_new (w4.alloc (.deferred (some []))) X; rw [World.size_alloc, hW1] at this; exact this
  have hb1 : Below w4.heap.size w4 W1 := by rw [← hW1]; exact ((Below.refl _ w4).alloc (Nat.le_refl _) _).alloc (by simp) _
  have hsz1 : W1.heap.size = w4.heap.size + 1 + 1 := by rw [← hW1]; simp
  clear hW1
  obtain ⟨s, en, em, hKx, hi⟩ := HW4.out.1.k
  have hkm : k < s.m := by omega
  have hl4 := HW4.out.1.lt
  have hlen : (kids L k).length ≤ 70000 := by have := len_le (hi.nod k hkm) (hi.rng k hkm); have := hKx.bd.1; omega
  have hl0 := H0.out.lt
  refine (tell1_in 5 (by omega) (w4.heap.size + 1) _ _ _ o s k hkm (kids L k) (nxt_fwd (hi.ring k hkm)) (hi.nod k hkm) (fun x hx => hi.rng k hkm x hx) hlen (fun b => b = F ∨ b = C) (fun j W => Wk W kb o N F C L (T ++ ((kids L k).take j).flatMap fun c => c :: D c) ∧ But (fun b => b = F ∨ b = C) W1 W) W1 ?hS ((hb1.block _ HY.out.1.lt).trans HY.out.1) ((hb1.block _ HY.out.2.1.lt).trans HY.out.2.1) ((hb1.block _ HY.out.2.2.lt).trans HY.out.2.2) (hKx.below hb1) ?hJ0 ?hY).mono ?_
  case hS => rintro b (rfl | rfl) <;> omega
  case hJ0 =>
    intro W' hb
    refine ⟨?_, But.of hb⟩
    have := (HW4.out.1.below hb1).below hb
    simpa using this
  case hY =>
    clear hKx hi hlen
    rintro j hj W ⟨hwk, hbut⟩
    have hX2 : W.heap[w4.heap.size + 1]? = some X := (hbut.block _ (by omega) (by omega)).trans hXL
    have hcm : (kids L k).getD j 0 ∈ kids L k := by simp [List.getD, hj]
    have hnx := flat_next (g := fun c => c :: D c) hj
    have hfl := flat_le (kids L k) (fun c => c :: D c) (j + 1)
    show YieldAt _ _ _ _ #[.int .i64 (((kids L k).getD j 0 : Nat) : Int)] _ _
    rw [hnx] at hfl ⊢
    generalize (kids L k).getD j 0 = c at *
    generalize ((kids L k).take j).flatMap (fun c => c :: D c) = T1 at *
    have hTl := HT.out
    simp only [List.length_append, List.length_cons] at hfl
    subst hX
    refine ⟨fn, _, _, _, run_yield hX2 rfl, roundIn_of_wpIn trivial ?_⟩
    obtain ⟨Wb, hrun, hLb, hbb⟩ := beginD hX2 rfl
    have hsw := hbut.size
    have w5 := hwk.beyond hbb ⟨by omega, by omega, by omega, fun b hb => by have := hl4.2.2.2 b hb; omega⟩
    have q1 : Boxed Wb w.heap.size 62 (.pointer (some ⟨kb, 0, none⟩)) := Boxed.but (Boxed.but (show Boxed W1 _ _ _ from (hb1.block _ HX.out.1.lt).trans HX.out.1) hbut (by omega)) hbb (by omega)
    have q2 : Boxed Wb (w.heap.size + 1) 75 (.func (.func 82) #[] #[.pointer (some ⟨F, 0, none⟩), .pointer (some ⟨C, 0, none⟩)]) := Boxed.but (Boxed.but (show Boxed W1 _ _ _ from (hb1.block _ HX.out.2.1.lt).trans HX.out.2.1) hbut (by omega)) hbb (by omega)
    have f1 := found1_k F C c (T ++ T1) Wb w5.f (by simp only [List.length_append]; omega)
    have k2 := q2.cell
    have HS : Hid (But (fun b => b = w4.heap.size + 1) W Wb ∧ Wk Wb kb o N F C L (T ++ T1) ∧ Wb.heap[w4.heap.size + 1]? = _) := ⟨hbb, w5, hLb⟩
    have HQ : Hid (Boxed Wb w.heap.size 62 (.pointer (some ⟨kb, 0, none⟩)) ∧ Boxed Wb (w.heap.size + 1) 75 (.func (.func 82) #[] #[.pointer (some ⟨F, 0, none⟩), .pointer (some ⟨C, 0, none⟩)])) := ⟨q1, q2⟩
    have HWW : Hid (W.heap[w4.heap.size + 1]? = _ ∧ Wk W kb o N F C L (T ++ T1) ∧ But (fun b => b = F ∨ b = C) W1 W) := ⟨hX2, hwk, hbut⟩
    clear hX2 hwk hbut hLb hbb w5 q1 q2 hXL hK1 hb1 hnx
    gi_wp2
    refine ⟨Wb, hrun, ?_⟩
    clear hrun
    gi_wp2_with fail
    refine ⟨trivial, (CallsIn.inRound _ (callsIn_wide.2 f1)).mono ?_⟩
    rintro e W5 ⟨rfl, g5, b5⟩
    have p1 := (Boxed.but HQ.out.1 b5 (by omega)).cell
    have p2 := (Boxed.but HQ.out.2 b5 (by omega)).cell
    have HG5 : Hid (Wk W5 kb o N F C L (T ++ T1 ++ [c]) ∧ But (fun b => b = F ∨ b = C) Wb W5) := ⟨HS.out.2.1.next b5 g5, b5⟩
    have f2 := HIH.out c hcm (T ++ T1 ++ [c]) W5 HG5.out.1 (by simp only [List.length_append, List.length_cons, List.length_nil]; omega)
    clear f1 k2 b5 g5
    gi_wp2_with fail
    refine ⟨trivial, (CallsIn.inRound _ (callsIn_wide.2 f2)).mono ?_⟩
    rintro e W6 ⟨rfl, g6, b6⟩
    have HG6 : Hid (Wk W6 kb o N F C L (T ++ T1 ++ [c] ++ D c) ∧ But (fun b => b = F ∨ b = C) W5 W6) := ⟨HG5.out.1.next b6 g6, b6⟩
    clear f2 b6 g6 p1 p2
    gi_wp2_with fail
    have hlb : w4.heap.size + 1 < Wb.heap.size := (Array.getElem?_eq_some_iff.1 HS.out.2.2).1
    have b56 : But (fun b => b = F ∨ b = C) Wb W6 := HG5.out.2.trans HG6.out.2
    have hl6 := (b56.block (w4.heap.size + 1) hlb (by omega)).trans HS.out.2.2
    obtain ⟨We, hr, hLe, hbe⟩ := endD hl6
    have hstrip : But (fun b => b = F ∨ b = C) W We := by
      refine But.stripD (L := w4.heap.size + 1) ?_ (hLe.trans HWW.out.1.symm)
      exact ((HS.out.1.mono fun _ h => .inl h).trans (b56.mono fun _ h => .inr h)).trans (hbe.mono fun _ h => .inl h)
    refine ⟨_, We, hr, rfl, ⟨?_, HWW.out.2.2.trans hstrip⟩, KeepC.of hstrip⟩
    have := HG6.out.1.beyond hbe ⟨by omega, by omega, by omega, fun b hb => by have := hl4.2.2.2 b hb; omega⟩
    simpa using this
  rintro e w' ⟨⟨v, rfl⟩, hJ, hB⟩
  rw [List.take_length] at hJ
  have x5 : w'.heap[w4.heap.size + 1]? = some X := (hB.block _ (by omega) (by omega)).trans hXL
  have k5 : w'.heap[w4.heap.size]? = some (.deferred (some [])) := (hB.block _ (by omega) (by omega)).trans hK1
  subst hX
  obtain ⟨W5, hrun, hb5⟩ : ∃ W5, (Instr.endLoop (w4.heap.size + 1)).run Try.prog w' = .ok none W5 ∧ But (fun b => b = w4.heap.size + 1) w' W5 :=
    ⟨_, run_endLoop x5 (by simp), ⟨rfl, rfl, rfl, by simp [World.putObj], fun b _ hb => World.putObj_heap_other hb⟩⟩
  refine ⟨none, W5, hrun, ?_⟩
  have k6 : W5.heap[w4.heap.size]? = some (.deferred (some [])) := (hb5.block _ (Array.getElem?_eq_some_iff.1 k5).1 (by omega)).trans k5
  have w5 := hJ.beyond hb5 ⟨by omega, by omega, by omega, fun b hb => by have := hl4.2.2.2 b hb; omega⟩
  have q3 : Boxed W5 (w.heap.size + 1 + 1) 4 (.bool false) := Boxed.but (Boxed.but (show Boxed W1 _ _ _ from (hb1.block _ HX.out.2.2.lt).trans HX.out.2.2) hB (by omega)) hb5 (by omega)
  have hbw : But (fun b => b = F ∨ b = C) w W5 := by
    have h1 : But (fun b => b = F ∨ b = C) w W1 := But.of (Below.onto HW4.out.2 hb1)
    exact (h1.trans hB).onto hb5 (fun i h => .inr (by omega))
  have c5 := q3.cell
  have f5 := q3.frozen
  have HE : Hid (Wk W5 kb o N F C L (T ++ (kids L k).flatMap fun c => c :: D c) ∧ But (fun b => b = F ∨ b = C) w W5 ∧ Boxed W5 (w.heap.size + 1 + 1) 4 (.bool false) ∧ W5.heap[w4.heap.size]? = some (.deferred (some []))) := ⟨w5, hbw, q3, k6⟩
  clear hrun w5 hbw q3 k6 hJ hB x5 k5 hb5 hXL hK1 hb1 hKx hi hlen
  gi_wp2
  obtain ⟨w5, hbw, q3, k6⟩ := HE.out
  have q4 := q3.set (.bool true)
  have hsz : w4.heap.size = w.heap.size + 1 + 1 + 1 + 1 + 1 + 1 := by omega
  have k7 : (W5.setCell ⟨w.heap.size + 1 + 1, 0, none⟩ (.bool true)).heap[w.heap.size + 1 + 1 + 1 + 1 + 1 + 1]? = some (.deferred (some [])) := (Below.heap_setCell _ _ _ _ (by show w.heap.size + 1 + 1 + 1 + 1 + 1 + 1 ≠ w.heap.size + 1 + 1; omega)).trans (hsz ▸ k6)
  refine ⟨by simp, .inl ⟨_, _, rfl, run_takeDeferred k7, ?_⟩⟩
  obtain ⟨W7, hW7⟩ : ∃ W7, (W5.setCell ⟨w.heap.size + 1 + 1, 0, none⟩ (.bool true)).putObj (w.heap.size + 1 + 1 + 1 + 1 + 1 + 1) (.deferred none) = W7 := ⟨_, rfl⟩
  rw [hW7]
  have b7 : But (fun b => b = w.heap.size + 1 + 1 + 1 + 1 + 1 + 1 ∨ b = w.heap.size + 1 + 1) W5 W7 := by
    rw [← hW7]
    exact ((But.refl _ W5).setCell (p := ⟨w.heap.size + 1 + 1, 0, none⟩) (.inr rfl) _).trans ⟨rfl, rfl, rfl, by simp [World.putObj], fun b _ hb => World.putObj_heap_other fun e => hb (.inl e)⟩
  have r1 : W7.cell? ⟨w.heap.size + 1 + 1, 0, none⟩ = some (.bool true) := by
    rw [← hW7]; exact (World.cell?_of_block (a := ⟨w.heap.size + 1 + 1, 0, none⟩) (World.putObj_heap_other (by show w.heap.size + 1 + 1 ≠ _; omega))).trans q4.cell
  refine ⟨.bool true, ?_, rfl, w5.f.but b7 (by omega) (by omega), hbw.onto b7 (fun i h => .inr (by omega))⟩
  simp [results, go_sem, r1]

theorem walk_k (kb : Nat) (o : Pl) (N F C : Nat) (L : List Fe) (ok : Fok N L) : ∀ (f k : Nat), k < N → hgt L k ≤ f → WkDoes kb o N F C L k (bel L f k) := by
  intro f
  induction f with
  | zero =>
    intro k hk hh
    have e : kids L k = [] := by
      rcases hl : kids L k with _ | ⟨c, r⟩
      · rfl
      · have := hgt_kid ok (c := c) (k := k) (by simp [hl]); omega
    have := walk_step kb o N F C L k hk (fun _ => []) (fun c hc => by rw [e] at hc; cases hc)
    rw [e] at this
    exact this
  | succ f ih =>
    intro k hk hh
    exact walk_step kb o N F C L k hk (fun c => bel L f c) (fun c hc => ih c (ok.lt c (ok.kid_in hc)) (by have := hgt_kid ok hc; omega))
end Go.Proofs.Ytlphombjejgbiaa
