/- The document's Push and Drop: a row is made anew, in whatever order the operations come. (Written by wip/tools/ereg.py.) -/
import Derived.Test.YtafcgbahdfaiiaaEMem
import Derived.Test.YtafcgbahdfaiiaaJQuiet
namespace Go.Proofs.Ytafcgbahdfaiiaa
open Go.RowKit
set_option maxRecDepth 100000

theorem eown_form {w : World} {base : Nat} {e : TypeId} {size : Nat} {v : Value} {n : Nat} {xs : List Value} (h : w.ownsRow base e size v n xs) : ∃ a cap, v = .slice a n cap := by
  rcases h.2 with ⟨rfl, rfl⟩ | ⟨g, cap, cur, rfl, _⟩
  · exact ⟨none, 0, rfl⟩
  · exact ⟨_, cap, rfl⟩
theorem eltEr : Elt 30 50 3 24 (.agg #[.int .i8 0, .int .i64 0, .int .i64 0]) := ⟨Try.underlying30, by kernel_rfl, by kernel_rfl, by decide, by decide⟩
theorem run_en0 {o : Oper} (hop : o.op = .buildSlice 30 0 #[]) (a : Act) (W : World) : (execOp a.eval o).run Try.prog W = .ok (.value (.slice (some ⟨W.heap.size, 0, none⟩) 0 0)) (W.alloc (.cells #[] 50)) := by
  obtain ⟨d, op, ty, pos, aft, gd⟩ := o
  simp only at hop
  subst hop
  go_simp
theorem run_en1 {o : Oper} {t : Nat} {k m q : Int} (hop : o.op = .buildSlice 30 1 #[(0, .tmp t)]) (a : Act) (W : World) (hx : a.tmps[t]? = some (.agg #[.int .i8 k, .int .i64 m, .int .i64 q])) : (execOp a.eval o).run Try.prog W = .ok (.value (.slice (some ⟨W.heap.size, 0, none⟩) 1 1)) (W.alloc (.cells [.int .i8 k, .int .i64 m, .int .i64 q].toArray 50)) := by
  obtain ⟨d, op, ty, pos, aft, gd⟩ := o
  simp only at hop
  subst hop
  go_simp
/-- the last ones wait for all before them, one behind the other -/
theorem ewp_region_tail {P : Program} {id : Nat} {Q : Exit → Act → World → Prop} {a : Act} {w : World} {l1 : List Oper} (n : Nat) (S : World → Prop) (hm : P.follows .mixedOrders = true) (hok : tailOk (l1.take n) (l1.drop n) = true)
    (h : wpAnyH P .any (l1.take n).toArray (tailQ P Q (l1.drop n)) S (l1.take n).length (Array.replicate (l1.take n).length false) a w.drew) : (Code.region id l1.toArray true).wp P Q a w := by
  refine wp_region_any hm ?_
  have h1 := split_tail (l1.drop n) (l1.take n) a w.drew hok (wpAny_of_held _ _ _ _ h)
  rw [List.take_append_drop] at h1
  simpa using h1
/-- all are done: the last ones store the row -/
theorem efin_store3 {ops : Array Oper} {Q : Exit → Act → World → Prop} {S : World → Prop} {oX oY oL : Oper} {dq dx dp d fuel r base n : Nat} {listed : Array Bool} {a : Act} {W : World} {v u : Value} {xs : List Value}
    (rE : Region.ready .any ops listed = []) (pX : oX.op = .nilCheck (.tmp dq)) (tX : oX.dst = some dx) (pY : oY.op = .fieldAddr 32 (.tmp dx) 0) (tY : oY.dst = some dp) (pL : oL.op = .store 30 (.tmp dp) (.tmp d)) (tL : oL.dst = none) (hp : a.tmps[dq]? = some (.pointer (some ⟨r, 0, none⟩))) (hD : a.tmps[d]? = some v) (n1 : dx ≠ d) (n2 : dp ≠ d) (s1 : dx < a.tmps.size) (s2 : dp < a.tmps.size) (hown : W.ownsRow base 50 3 v n xs) (hc : W.cell? ⟨r, 0, none⟩ = some u) (hf : W.frozen? ⟨r, 0, none⟩ = false)
    (h : Q .normal ((a.put (some dx) (.pointer (some ⟨r, 0, none⟩))).put (some dp) (.pointer (some ⟨r, 0, none⟩))) (W.setCell ⟨r, 0, none⟩ v)) :
    wpAnyH Try.prog .any ops (tailQ Try.prog Q [oX, oY, oL]) S fuel listed a W := by
  refine wpAnyH_done rE ?_ _
  refine tailQ_of _ _ _ ?_
  obtain ⟨ad, c, rfl⟩ := eown_form hown
  unfold tailWp
  intro K hK
  have hrun : (execOp a.eval oX).run Try.prog W = .ok (.value (.pointer (some ⟨r, 0, none⟩))) W := by
    obtain ⟨dd, op, ty, pos, aft, g⟩ := oX
    simp only at pX
    subst pX
    clear h hown rE tL hK
    go_simp
  unfold Oper.wp
  rw [hrun]
  refine hK _ _ ?_
  clear hK hrun
  rw [tX]
  have z1 : (a.put (some dx) (.pointer (some ⟨r, 0, none⟩))).tmps[dx]? = some (.pointer (some ⟨r, 0, none⟩)) := gput_at s1
  have z2 : (a.put (some dx) (.pointer (some ⟨r, 0, none⟩))).tmps[d]? = some (.slice ad n c) := (gput_ne n1).trans hD
  have z3 : (a.put (some dx) (.pointer (some ⟨r, 0, none⟩))).tmps.size = a.tmps.size := gput_sz
  generalize a.put (some dx) (.pointer (some ⟨r, 0, none⟩)) = a1 at *
  unfold tailWp
  intro K hK
  have hrun : (execOp a1.eval oY).run Try.prog W = .ok (.value (.pointer (some ⟨r, 0, none⟩))) W := by
    obtain ⟨dd, op, ty, pos, aft, g⟩ := oY
    simp only at pY
    subst pY
    clear h hown rE tL hK hp hD s1 s2 z3
    go_simp
  unfold Oper.wp
  rw [hrun]
  refine hK _ _ ?_
  clear hK hrun
  rw [tY]
  have y1 : (a1.put (some dp) (.pointer (some ⟨r, 0, none⟩))).tmps[dp]? = some (.pointer (some ⟨r, 0, none⟩)) := gput_at (by rw [z3]; exact s2)
  have y2 : (a1.put (some dp) (.pointer (some ⟨r, 0, none⟩))).tmps[d]? = some (.slice ad n c) := (gput_ne n2).trans z2
  generalize a1.put (some dp) (.pointer (some ⟨r, 0, none⟩)) = a2 at *
  unfold tailWp
  intro K hK
  have hrun : (execOp a2.eval oL).run Try.prog W = .ok .skip (W.setCell ⟨r, 0, none⟩ (.slice ad n c)) := by
    obtain ⟨dd, op, ty, pos, aft, g⟩ := oL
    simp only at pL
    subst pL
    clear h hown rE tL hK hp hD z1 z2 s1 s2 z3
    go_simp
  unfold Oper.wp
  rw [hrun]
  refine hK _ _ ?_
  unfold tailWp
  show Q .normal (a2.put oL.dst undef) _
  rw [tL]
  exact h

set_option maxHeartbeats 2000000 in
theorem epsh_region {id : Nat} {Q : Exit → Act → World → Prop} {a : Act} {w : World} {l1 : List Oper} {o0 o1 o2 o3 o4 o5 o6 o7 o8 o9 o10 o11 o12 o13 o14 o15 o16 o17 : Oper} {r N cv B : Nat} {av : Option Addr} {k m q : Int} {xs1 : List Value} (hl1 : l1.take 15 = [o0, o1, o2, o3, o4, o5, o6, o7, o8, o9, o10, o11, o12, o13, o14]) (hlast : l1.drop 15 = [o15, o16, o17])
    (hok : tailOk (l1.take 15) (l1.drop 15) = true) (hns : Region.noSelect [o0, o1, o2, o3, o4, o5, o6, o7, o8, o9, o10, o11, o12, o13, o14].toArray = true) (htk : takesOk [o0, o1, o2, o3, o4, o5, o6, o7, o8, o9, o10, o11, o12, o13, o14].toArray [0, 2, 3, 4, 5, 7, 8, 9, 10, 11, 12] (Array.replicate 15 false) = true)
    (p0 : o0.op = .move (.tmp 0)) (p1 : o1.op = .buildSlice 30 0 #[]) (p2 : o2.op = .move (.tmp 0)) (p3 : o3.op = .nilCheck (.tmp 14)) (p4 : o4.op = .fieldAddr 32 (.tmp 15) 0) (p5 : o5.op = .load 30 (.tmp 16)) (p6 : o6.op = .call { callee := .builtin .append, args := #[.tmp 13, .tmp 17], argTypes := #[30, 30] }) (p7 : o7.op = .load 27 (.tmp 3)) (p8 : o8.op = .move (.tmp 0)) (p9 : o9.op = .nilCheck (.tmp 20)) (p10 : o10.op = .fieldAddr 32 (.tmp 21) 1) (p11 : o11.op = .load 3 (.tmp 22)) (p12 : o12.op = .build 50 #[(0, .tmp 19), (1, .tmp 23)]) (p13 : o13.op = .buildSlice 30 1 #[(0, .tmp 24)]) (p14 : o14.op = .call { callee := .builtin .append, args := #[.tmp 18, .tmp 25], argTypes := #[30, 30] }) (p15 : o15.op = .nilCheck (.tmp 12)) (p16 : o16.op = .fieldAddr 32 (.tmp 27) 0) (p17 : o17.op = .store 30 (.tmp 28) (.tmp 26))
    (g1 : o1.guard = none) (g6 : o6.guard = none) (g13 : o13.guard = none) (g14 : o14.guard = none)
    (t0 : o0.dst = some 12) (t1 : o1.dst = some 13) (t2 : o2.dst = some 14) (t3 : o3.dst = some 15) (t4 : o4.dst = some 16) (t5 : o5.dst = some 17) (t6 : o6.dst = some 18) (t7 : o7.dst = some 19) (t8 : o8.dst = some 20) (t9 : o9.dst = some 21) (t10 : o10.dst = some 22) (t11 : o11.dst = some 23) (t12 : o12.dst = some 24) (t13 : o13.dst = some 25) (t14 : o14.dst = some 26) (t15 : o15.dst = some 27) (t16 : o16.dst = some 28) (t17 : o17.dst = none)
    (hsz : a.tmps.size = 33)
    (h0 : a.tmps[0]? = some (.pointer (some ⟨r, 0, none⟩))) (h3 : a.tmps[3]? = some (.pointer (some ⟨B, 0, none⟩))) (c0 : w.cell? ⟨r, 0, none⟩ = some (.slice av N cv)) (c1 : w.cell? ⟨r, 1, none⟩ = some (.int .i64 q)) (d0 : w.cell? ⟨B, 0, none⟩ = some (.int .i8 k)) (d1 : w.cell? ⟨B, 1, none⟩ = some (.int .i64 m)) (fz : ∀ W, Below w.heap.size w W → W.frozen? ⟨r, 0, none⟩ = false)
    (src1 : Src w (.slice av N cv) N xs1) (xl1 : xs1.length = N * 3) (xo1 : ∀ y ∈ xs1, y.oneCell' = true) (hbd : N ≤ 100000)
    (rn : Region.ready .any [o0, o1, o2, o3, o4, o5, o6, o7, o8, o9, o10, o11, o12, o13, o14].toArray (#[true, false, true, true, true, true, false, true, true, true, true, true, true, false, false] : Array Bool) = [1, 13]) (rA : Region.ready .any [o0, o1, o2, o3, o4, o5, o6, o7, o8, o9, o10, o11, o12, o13, o14].toArray ((#[true, false, true, true, true, true, false, true, true, true, true, true, true, false, false] : Array Bool).setIfInBounds 1 true) = [6, 13]) (rC : Region.ready .any [o0, o1, o2, o3, o4, o5, o6, o7, o8, o9, o10, o11, o12, o13, o14].toArray ((#[true, false, true, true, true, true, false, true, true, true, true, true, true, false, false] : Array Bool).setIfInBounds 13 true) = [1]) (rAB : Region.ready .any [o0, o1, o2, o3, o4, o5, o6, o7, o8, o9, o10, o11, o12, o13, o14].toArray (((#[true, false, true, true, true, true, false, true, true, true, true, true, true, false, false] : Array Bool).setIfInBounds 1 true).setIfInBounds 6 true) = [13]) (rAC : Region.ready .any [o0, o1, o2, o3, o4, o5, o6, o7, o8, o9, o10, o11, o12, o13, o14].toArray (((#[true, false, true, true, true, true, false, true, true, true, true, true, true, false, false] : Array Bool).setIfInBounds 1 true).setIfInBounds 13 true) = [6]) (rCA : Region.ready .any [o0, o1, o2, o3, o4, o5, o6, o7, o8, o9, o10, o11, o12, o13, o14].toArray (((#[true, false, true, true, true, true, false, true, true, true, true, true, true, false, false] : Array Bool).setIfInBounds 13 true).setIfInBounds 1 true) = [6]) (rABC : Region.ready .any [o0, o1, o2, o3, o4, o5, o6, o7, o8, o9, o10, o11, o12, o13, o14].toArray ((((#[true, false, true, true, true, true, false, true, true, true, true, true, true, false, false] : Array Bool).setIfInBounds 1 true).setIfInBounds 6 true).setIfInBounds 13 true) = [14]) (rE : Region.ready .any [o0, o1, o2, o3, o4, o5, o6, o7, o8, o9, o10, o11, o12, o13, o14].toArray (((((#[true, false, true, true, true, true, false, true, true, true, true, true, true, false, false] : Array Bool).setIfInBounds 1 true).setIfInBounds 6 true).setIfInBounds 13 true).setIfInBounds 14 true) = [])
    (hQ : ∀ c a d v w, Q (.panic c) (Act.put a d v) w → Q (.panic c) a w)
    (fin : ∀ vA vB vC vD W', W'.ownsRow w.heap.size 50 3 vD (N + 1) (xs1 ++ [.int .i8 k, .int .i64 m, .int .i64 q]) → Below w.heap.size w W' → Q .normal (((((((((((((((((a.put (some 12) (.pointer (some ⟨r, 0, none⟩))).put (some 14) (.pointer (some ⟨r, 0, none⟩))).put (some 15) (.pointer (some ⟨r, 0, none⟩))).put (some 16) (.pointer (some ⟨r, 0, none⟩))).put (some 17) (.slice av N cv)).put (some 19) (.agg #[.int .i8 k, .int .i64 m])).put (some 20) (.pointer (some ⟨r, 0, none⟩))).put (some 21) (.pointer (some ⟨r, 0, none⟩))).put (some 22) (.pointer (some ⟨r, 1, none⟩))).put (some 23) (.int .i64 q)).put (some 24) (.agg #[.int .i8 k, .int .i64 m, .int .i64 q])).put (some 13) vA).put (some 18) vB).put (some 25) vC).put (some 26) vD).put (some 27) (.pointer (some ⟨r, 0, none⟩))).put (some 28) (.pointer (some ⟨r, 0, none⟩))) (W'.setCell ⟨r, 0, none⟩ vD)) :
    (Code.region id l1.toArray true).wp Try.prog Q a w := by
  obtain ⟨af, haf⟩ : ∃ af, af = (((((((((((a.put (some 12) (.pointer (some ⟨r, 0, none⟩))).put (some 14) (.pointer (some ⟨r, 0, none⟩))).put (some 15) (.pointer (some ⟨r, 0, none⟩))).put (some 16) (.pointer (some ⟨r, 0, none⟩))).put (some 17) (.slice av N cv)).put (some 19) (.agg #[.int .i8 k, .int .i64 m])).put (some 20) (.pointer (some ⟨r, 0, none⟩))).put (some 21) (.pointer (some ⟨r, 0, none⟩))).put (some 22) (.pointer (some ⟨r, 1, none⟩))).put (some 23) (.int .i64 q)).put (some 24) (.agg #[.int .i8 k, .int .i64 m, .int .i64 q])) := ⟨_, rfl⟩
  rw [← haf] at fin
  have fsz : af.tmps.size = 33 := by rw [haf]; simp only [gput_sz]; exact hsz
  have f0 : af.tmps[0]? = some (.pointer (some ⟨r, 0, none⟩)) := by rw [haf]; rw [gput_ne (by decide), gput_ne (by decide), gput_ne (by decide), gput_ne (by decide), gput_ne (by decide), gput_ne (by decide), gput_ne (by decide), gput_ne (by decide), gput_ne (by decide), gput_ne (by decide), gput_ne (by decide)]; exact h0
  have f3 : af.tmps[3]? = some (.pointer (some ⟨B, 0, none⟩)) := by rw [haf]; rw [gput_ne (by decide), gput_ne (by decide), gput_ne (by decide), gput_ne (by decide), gput_ne (by decide), gput_ne (by decide), gput_ne (by decide), gput_ne (by decide), gput_ne (by decide), gput_ne (by decide), gput_ne (by decide)]; exact h3
  have f12 : af.tmps[12]? = some (.pointer (some ⟨r, 0, none⟩)) := by rw [haf]; rw [gput_ne (by decide), gput_ne (by decide), gput_ne (by decide), gput_ne (by decide), gput_ne (by decide), gput_ne (by decide), gput_ne (by decide), gput_ne (by decide), gput_ne (by decide), gput_ne (by decide), gput_at (by first | (rw [hsz]; decide) | (simp only [gput_sz]; rw [hsz]; decide))]
  have f14 : af.tmps[14]? = some (.pointer (some ⟨r, 0, none⟩)) := by rw [haf]; rw [gput_ne (by decide), gput_ne (by decide), gput_ne (by decide), gput_ne (by decide), gput_ne (by decide), gput_ne (by decide), gput_ne (by decide), gput_ne (by decide), gput_ne (by decide), gput_at (by first | (rw [hsz]; decide) | (simp only [gput_sz]; rw [hsz]; decide))]
  have f15 : af.tmps[15]? = some (.pointer (some ⟨r, 0, none⟩)) := by rw [haf]; rw [gput_ne (by decide), gput_ne (by decide), gput_ne (by decide), gput_ne (by decide), gput_ne (by decide), gput_ne (by decide), gput_ne (by decide), gput_ne (by decide), gput_at (by first | (rw [hsz]; decide) | (simp only [gput_sz]; rw [hsz]; decide))]
  have f16 : af.tmps[16]? = some (.pointer (some ⟨r, 0, none⟩)) := by rw [haf]; rw [gput_ne (by decide), gput_ne (by decide), gput_ne (by decide), gput_ne (by decide), gput_ne (by decide), gput_ne (by decide), gput_ne (by decide), gput_at (by first | (rw [hsz]; decide) | (simp only [gput_sz]; rw [hsz]; decide))]
  have f17 : af.tmps[17]? = some (.slice av N cv) := by rw [haf]; rw [gput_ne (by decide), gput_ne (by decide), gput_ne (by decide), gput_ne (by decide), gput_ne (by decide), gput_ne (by decide), gput_at (by first | (rw [hsz]; decide) | (simp only [gput_sz]; rw [hsz]; decide))]
  have f19 : af.tmps[19]? = some (.agg #[.int .i8 k, .int .i64 m]) := by rw [haf]; rw [gput_ne (by decide), gput_ne (by decide), gput_ne (by decide), gput_ne (by decide), gput_ne (by decide), gput_at (by first | (rw [hsz]; decide) | (simp only [gput_sz]; rw [hsz]; decide))]
  have f20 : af.tmps[20]? = some (.pointer (some ⟨r, 0, none⟩)) := by rw [haf]; rw [gput_ne (by decide), gput_ne (by decide), gput_ne (by decide), gput_ne (by decide), gput_at (by first | (rw [hsz]; decide) | (simp only [gput_sz]; rw [hsz]; decide))]
  have f21 : af.tmps[21]? = some (.pointer (some ⟨r, 0, none⟩)) := by rw [haf]; rw [gput_ne (by decide), gput_ne (by decide), gput_ne (by decide), gput_at (by first | (rw [hsz]; decide) | (simp only [gput_sz]; rw [hsz]; decide))]
  have f22 : af.tmps[22]? = some (.pointer (some ⟨r, 1, none⟩)) := by rw [haf]; rw [gput_ne (by decide), gput_ne (by decide), gput_at (by first | (rw [hsz]; decide) | (simp only [gput_sz]; rw [hsz]; decide))]
  have f23 : af.tmps[23]? = some (.int .i64 q) := by rw [haf]; rw [gput_ne (by decide), gput_at (by first | (rw [hsz]; decide) | (simp only [gput_sz]; rw [hsz]; decide))]
  have f24 : af.tmps[24]? = some (.agg #[.int .i8 k, .int .i64 m, .int .i64 q]) := by rw [haf]; rw [gput_at (by first | (rw [hsz]; decide) | (simp only [gput_sz]; rw [hsz]; decide))]
  have HS : Below w.heap.size w w.drew := (Below.refl _ _).drew
  refine ewp_region_tail 15 (fun W => Below w.heap.size w W) (by kernel_rfl) hok ?_
  rw [hl1, hlast]
  have hput : putIdx af [o0, o1, o2, o3, o4, o5, o6, o7, o8, o9, o10, o11, o12, o13, o14].toArray [0, 2, 3, 4, 5, 7, 8, 9, 10, 11, 12] a = af := by
    have e : putIdx af [o0, o1, o2, o3, o4, o5, o6, o7, o8, o9, o10, o11, o12, o13, o14].toArray [0, 2, 3, 4, 5, 7, 8, 9, 10, 11, 12] a = (((((((((((a.put (some 12) (.pointer (some ⟨r, 0, none⟩))).put (some 14) (.pointer (some ⟨r, 0, none⟩))).put (some 15) (.pointer (some ⟨r, 0, none⟩))).put (some 16) (.pointer (some ⟨r, 0, none⟩))).put (some 17) (.slice av N cv)).put (some 19) (.agg #[.int .i8 k, .int .i64 m])).put (some 20) (.pointer (some ⟨r, 0, none⟩))).put (some 21) (.pointer (some ⟨r, 0, none⟩))).put (some 22) (.pointer (some ⟨r, 1, none⟩))).put (some 23) (.int .i64 q)).put (some 24) (.agg #[.int .i8 k, .int .i64 m, .int .i64 q])) := by
      simp only [putIdx, List.getElem?_toArray, List.getElem?_cons_succ, List.getElem?_cons_zero, Option.bind_some, t0, t2, t3, t4, t5, t7, t8, t9, t10, t11, t12, ggetD f12, ggetD f14, ggetD f15, ggetD f16, ggetD f17, ggetD f19, ggetD f20, ggetD f21, ggetD f22, ggetD f23, ggetD f24]
    rw [e, haf]
  refine takes (P := Try.prog) (Q := tailQ Try.prog Q [o15, o16, o17]) (S := fun W => Below w.heap.size w W) (idx := [0, 2, 3, 4, 5, 7, 8, 9, 10, 11, 12]) (af := af) (fuel := 4) hns (fun c a d v w h => hQ c a d v w h) HS _ _ htk hput ?_ ?_
  · refine ⟨⟨o0, 12, _, rfl, t0, f12, ?_⟩, ⟨o2, 14, _, rfl, t2, f14, ?_⟩, ⟨o3, 15, _, rfl, t3, f15, ?_⟩, ⟨o4, 16, _, rfl, t4, f16, ?_⟩, ⟨o5, 17, _, rfl, t5, f17, ?_⟩, ⟨o7, 19, _, rfl, t7, f19, ?_⟩, ⟨o8, 20, _, rfl, t8, f20, ?_⟩, ⟨o9, 21, _, rfl, t9, f21, ?_⟩, ⟨o10, 22, _, rfl, t10, f22, ?_⟩, ⟨o11, 23, _, rfl, t11, f23, ?_⟩, ⟨o12, 24, _, rfl, t12, f24, ?_⟩, trivial⟩
    · intro W hW
      have k0 := (hW.cell (p := ⟨r, 0, none⟩) (gcell_lt c0)).trans c0
      have k1 := (hW.cell (p := ⟨r, 1, none⟩) (gcell_lt c1)).trans c1
      have l0 := (hW.cell (p := ⟨B, 0, none⟩) (gcell_lt d0)).trans d0
      have l1 := (hW.cell (p := ⟨B, 1, none⟩) (gcell_lt d1)).trans d1
      clear fin haf hput htk hns hok fsz hsz hQ rn rA rC rAB rAC rCA rABC rE h0 h3 c0 c1 d0 d1 fz HS src1
      obtain ⟨d, op, ty, pos, aft, gd⟩ := o0
      simp only at p0
      subst p0
      go_simp
    · intro W hW
      have k0 := (hW.cell (p := ⟨r, 0, none⟩) (gcell_lt c0)).trans c0
      have k1 := (hW.cell (p := ⟨r, 1, none⟩) (gcell_lt c1)).trans c1
      have l0 := (hW.cell (p := ⟨B, 0, none⟩) (gcell_lt d0)).trans d0
      have l1 := (hW.cell (p := ⟨B, 1, none⟩) (gcell_lt d1)).trans d1
      clear fin haf hput htk hns hok fsz hsz hQ rn rA rC rAB rAC rCA rABC rE h0 h3 c0 c1 d0 d1 fz HS src1
      obtain ⟨d, op, ty, pos, aft, gd⟩ := o2
      simp only at p2
      subst p2
      go_simp
    · intro W hW
      have k0 := (hW.cell (p := ⟨r, 0, none⟩) (gcell_lt c0)).trans c0
      have k1 := (hW.cell (p := ⟨r, 1, none⟩) (gcell_lt c1)).trans c1
      have l0 := (hW.cell (p := ⟨B, 0, none⟩) (gcell_lt d0)).trans d0
      have l1 := (hW.cell (p := ⟨B, 1, none⟩) (gcell_lt d1)).trans d1
      clear fin haf hput htk hns hok fsz hsz hQ rn rA rC rAB rAC rCA rABC rE h0 h3 c0 c1 d0 d1 fz HS src1
      obtain ⟨d, op, ty, pos, aft, gd⟩ := o3
      simp only at p3
      subst p3
      go_simp
    · intro W hW
      have k0 := (hW.cell (p := ⟨r, 0, none⟩) (gcell_lt c0)).trans c0
      have k1 := (hW.cell (p := ⟨r, 1, none⟩) (gcell_lt c1)).trans c1
      have l0 := (hW.cell (p := ⟨B, 0, none⟩) (gcell_lt d0)).trans d0
      have l1 := (hW.cell (p := ⟨B, 1, none⟩) (gcell_lt d1)).trans d1
      clear fin haf hput htk hns hok fsz hsz hQ rn rA rC rAB rAC rCA rABC rE h0 h3 c0 c1 d0 d1 fz HS src1
      obtain ⟨d, op, ty, pos, aft, gd⟩ := o4
      simp only at p4
      subst p4
      go_simp
    · intro W hW
      have k0 := (hW.cell (p := ⟨r, 0, none⟩) (gcell_lt c0)).trans c0
      have k1 := (hW.cell (p := ⟨r, 1, none⟩) (gcell_lt c1)).trans c1
      have l0 := (hW.cell (p := ⟨B, 0, none⟩) (gcell_lt d0)).trans d0
      have l1 := (hW.cell (p := ⟨B, 1, none⟩) (gcell_lt d1)).trans d1
      clear fin haf hput htk hns hok fsz hsz hQ rn rA rC rAB rAC rCA rABC rE h0 h3 c0 c1 d0 d1 fz HS src1
      obtain ⟨d, op, ty, pos, aft, gd⟩ := o5
      simp only at p5
      subst p5
      go_simp
    · intro W hW
      have k0 := (hW.cell (p := ⟨r, 0, none⟩) (gcell_lt c0)).trans c0
      have k1 := (hW.cell (p := ⟨r, 1, none⟩) (gcell_lt c1)).trans c1
      have l0 := (hW.cell (p := ⟨B, 0, none⟩) (gcell_lt d0)).trans d0
      have l1 := (hW.cell (p := ⟨B, 1, none⟩) (gcell_lt d1)).trans d1
      clear fin haf hput htk hns hok fsz hsz hQ rn rA rC rAB rAC rCA rABC rE h0 h3 c0 c1 d0 d1 fz HS src1
      obtain ⟨d, op, ty, pos, aft, gd⟩ := o7
      simp only at p7
      subst p7
      go_simp
    · intro W hW
      have k0 := (hW.cell (p := ⟨r, 0, none⟩) (gcell_lt c0)).trans c0
      have k1 := (hW.cell (p := ⟨r, 1, none⟩) (gcell_lt c1)).trans c1
      have l0 := (hW.cell (p := ⟨B, 0, none⟩) (gcell_lt d0)).trans d0
      have l1 := (hW.cell (p := ⟨B, 1, none⟩) (gcell_lt d1)).trans d1
      clear fin haf hput htk hns hok fsz hsz hQ rn rA rC rAB rAC rCA rABC rE h0 h3 c0 c1 d0 d1 fz HS src1
      obtain ⟨d, op, ty, pos, aft, gd⟩ := o8
      simp only at p8
      subst p8
      go_simp
    · intro W hW
      have k0 := (hW.cell (p := ⟨r, 0, none⟩) (gcell_lt c0)).trans c0
      have k1 := (hW.cell (p := ⟨r, 1, none⟩) (gcell_lt c1)).trans c1
      have l0 := (hW.cell (p := ⟨B, 0, none⟩) (gcell_lt d0)).trans d0
      have l1 := (hW.cell (p := ⟨B, 1, none⟩) (gcell_lt d1)).trans d1
      clear fin haf hput htk hns hok fsz hsz hQ rn rA rC rAB rAC rCA rABC rE h0 h3 c0 c1 d0 d1 fz HS src1
      obtain ⟨d, op, ty, pos, aft, gd⟩ := o9
      simp only at p9
      subst p9
      go_simp
    · intro W hW
      have k0 := (hW.cell (p := ⟨r, 0, none⟩) (gcell_lt c0)).trans c0
      have k1 := (hW.cell (p := ⟨r, 1, none⟩) (gcell_lt c1)).trans c1
      have l0 := (hW.cell (p := ⟨B, 0, none⟩) (gcell_lt d0)).trans d0
      have l1 := (hW.cell (p := ⟨B, 1, none⟩) (gcell_lt d1)).trans d1
      clear fin haf hput htk hns hok fsz hsz hQ rn rA rC rAB rAC rCA rABC rE h0 h3 c0 c1 d0 d1 fz HS src1
      obtain ⟨d, op, ty, pos, aft, gd⟩ := o10
      simp only at p10
      subst p10
      go_simp
    · intro W hW
      have k0 := (hW.cell (p := ⟨r, 0, none⟩) (gcell_lt c0)).trans c0
      have k1 := (hW.cell (p := ⟨r, 1, none⟩) (gcell_lt c1)).trans c1
      have l0 := (hW.cell (p := ⟨B, 0, none⟩) (gcell_lt d0)).trans d0
      have l1 := (hW.cell (p := ⟨B, 1, none⟩) (gcell_lt d1)).trans d1
      clear fin haf hput htk hns hok fsz hsz hQ rn rA rC rAB rAC rCA rABC rE h0 h3 c0 c1 d0 d1 fz HS src1
      obtain ⟨d, op, ty, pos, aft, gd⟩ := o11
      simp only at p11
      subst p11
      go_simp
    · intro W hW
      have k0 := (hW.cell (p := ⟨r, 0, none⟩) (gcell_lt c0)).trans c0
      have k1 := (hW.cell (p := ⟨r, 1, none⟩) (gcell_lt c1)).trans c1
      have l0 := (hW.cell (p := ⟨B, 0, none⟩) (gcell_lt d0)).trans d0
      have l1 := (hW.cell (p := ⟨B, 1, none⟩) (gcell_lt d1)).trans d1
      clear fin haf hput htk hns hok fsz hsz hQ rn rA rC rAB rAC rCA rABC rE h0 h3 c0 c1 d0 d1 fz HS src1
      obtain ⟨d, op, ty, pos, aft, gd⟩ := o12
      simp only at p12
      subst p12
      go_simp
  have em : markIdx [0, 2, 3, 4, 5, 7, 8, 9, 10, 11, 12] (Array.replicate [o0, o1, o2, o3, o4, o5, o6, o7, o8, o9, o10, o11, o12, o13, o14].length false) = #[true, false, true, true, true, true, false, true, true, true, true, true, true, false, false] := by kernel_rfl
  rw [em]
  refine gtail_snoc eltEr (iA := 1) (iB := 6) (iC := 13) (iD := 14) (dA := 13) (dB := 18) (dC := 25) (dD := 26) (dv := 17) (dx := 24) (fuel := 0) (m := N) (xs := xs1) (ys := [.int .i8 k, .int .i64 m, .int .i64 q]) (w0 := w) (oA := o1) (oB := o6) (oC := o13) (oD := o14) rfl rfl rfl rfl g1 g6 g13 g14 (run_en0 p1) p6 (run_en1 p13) p14 t1 t6 t13 t14 rn rA rC rAB rAC rCA rABC (by decide) (by decide) (by rw [fsz]; decide) f17 f24 src1 xl1 xo1 rfl (by simp [Value.oneCell']) (by omega) HS ?_
  intro vA vB vC vD W hW hD
  have q26 : ((((af.put (some 13) vA).put (some 18) vB).put (some 25) vC).put (some 26) vD).tmps[26]? = some vD := gput_at (by rw [gput_sz, gput_sz, gput_sz, fsz]; decide)
  have q12 : ((((af.put (some 13) vA).put (some 18) vB).put (some 25) vC).put (some 26) vD).tmps[12]? = some (.pointer (some ⟨r, 0, none⟩)) := by rw [gput_ne (by decide), gput_ne (by decide), gput_ne (by decide), gput_ne (by decide)]; exact f12
  have qsz : ((((af.put (some 13) vA).put (some 18) vB).put (some 25) vC).put (some 26) vD).tmps.size = 33 := by rw [gput_sz, gput_sz, gput_sz, gput_sz, fsz]
  exact efin_store3 rE p15 t15 p16 t16 p17 t17 q12 q26 (by decide) (by decide) (by rw [qsz]; decide) (by rw [qsz]; decide) hD ((hW.cell (p := ⟨r, 0, none⟩) (gcell_lt c0)).trans c0) (fz W hW) (fin vA vB vC vD W hD hW)


set_option maxHeartbeats 2000000 in
theorem edrp_region {id : Nat} {Q : Exit → Act → World → Prop} {a : Act} {w : World} {l1 : List Oper} {o0 o1 o2 o3 o4 o5 o6 o7 o8 o9 o10 o11 o12 o13 o14 o15 o16 o17 o18 o19 : Oper} {r N cv k m1 m2 : Nat} {av : Option Addr} {S1 S2 : Value} {xs1 xs2 : List Value} (hl1 : l1.take 17 = [o0, o1, o2, o3, o4, o5, o6, o7, o8, o9, o10, o11, o12, o13, o14, o15, o16]) (hlast : l1.drop 17 = [o17, o18, o19])
    (hok : tailOk (l1.take 17) (l1.drop 17) = true) (hns : Region.noSelect [o0, o1, o2, o3, o4, o5, o6, o7, o8, o9, o10, o11, o12, o13, o14, o15, o16].toArray = true) (htk : takesOk [o0, o1, o2, o3, o4, o5, o6, o7, o8, o9, o10, o11, o12, o13, o14, o15, o16].toArray [0, 2, 3, 4, 5, 6, 7, 9, 10, 11, 12, 13, 14, 15] (Array.replicate 17 false) = true)
    (p0 : o0.op = .move (.tmp 0)) (p1 : o1.op = .buildSlice 30 0 #[]) (p2 : o2.op = .move (.tmp 0)) (p3 : o3.op = .nilCheck (.tmp 13)) (p4 : o4.op = .fieldAddr 32 (.tmp 14) 0) (p5 : o5.op = .load 30 (.tmp 15)) (p6 : o6.op = .move (.tmp 5)) (p8 : o8.op = .call { callee := .builtin .append, args := #[.tmp 12, .tmp 18], argTypes := #[30, 30] }) (p9 : o9.op = .move (.tmp 0)) (p10 : o10.op = .nilCheck (.tmp 20)) (p11 : o11.op = .fieldAddr 32 (.tmp 21) 0) (p12 : o12.op = .load 30 (.tmp 22)) (p13 : o13.op = .move (.tmp 5)) (p14 : o14.op = .binOp .add 3 (.tmp 24) (.const (.int .i64 1)) 3) (p16 : o16.op = .call { callee := .builtin .append, args := #[.tmp 19, .tmp 26], argTypes := #[30, 30] }) (p17 : o17.op = .nilCheck (.tmp 11)) (p18 : o18.op = .fieldAddr 32 (.tmp 28) 0) (p19 : o19.op = .store 30 (.tmp 29) (.tmp 27))
    (g1 : o1.guard = none) (g8 : o8.guard = none) (g16 : o16.guard = none)
    (t0 : o0.dst = some 11) (t1 : o1.dst = some 12) (t2 : o2.dst = some 13) (t3 : o3.dst = some 14) (t4 : o4.dst = some 15) (t5 : o5.dst = some 16) (t6 : o6.dst = some 17) (t7 : o7.dst = some 18) (t8 : o8.dst = some 19) (t9 : o9.dst = some 20) (t10 : o10.dst = some 21) (t11 : o11.dst = some 22) (t12 : o12.dst = some 23) (t13 : o13.dst = some 24) (t14 : o14.dst = some 25) (t15 : o15.dst = some 26) (t16 : o16.dst = some 27) (t17 : o17.dst = some 28) (t18 : o18.dst = some 29) (t19 : o19.dst = none)
    (hsz : a.tmps.size = 30)
    (h0 : a.tmps[0]? = some (.pointer (some ⟨r, 0, none⟩))) (h5 : a.tmps[5]? = some (.int .i64 (k : Int))) (hk : k < 100000) (c0 : w.cell? ⟨r, 0, none⟩ = some (.slice av N cv)) (fz : ∀ W, Below w.heap.size w W → W.frozen? ⟨r, 0, none⟩ = false)
    (hs1 : ∀ (b : Act) W, b.tmps[16]? = some (.slice av N cv) → b.tmps[17]? = some (.int .i64 (k : Int)) → (execOp b.eval o7).run Try.prog W = .ok (.value S1) W)
    (hs2 : ∀ (b : Act) W, b.tmps[23]? = some (.slice av N cv) → b.tmps[25]? = some (.int .i64 ((k : Int) + 1)) → (execOp b.eval o15).run Try.prog W = .ok (.value S2) W)
    (src1 : Src w S1 m1 xs1) (xl1 : xs1.length = m1 * 3) (xo1 : ∀ y ∈ xs1, y.oneCell' = true) (src2 : Src w S2 m2 xs2) (xl2 : xs2.length = m2 * 3) (xo2 : ∀ y ∈ xs2, y.oneCell' = true) (hbd : m1 + m2 ≤ 100000)
    (rn : Region.ready .any [o0, o1, o2, o3, o4, o5, o6, o7, o8, o9, o10, o11, o12, o13, o14, o15, o16].toArray (#[true, false, true, true, true, true, true, true, false, true, true, true, true, true, true, true, false] : Array Bool) = [1]) (rA : Region.ready .any [o0, o1, o2, o3, o4, o5, o6, o7, o8, o9, o10, o11, o12, o13, o14, o15, o16].toArray ((#[true, false, true, true, true, true, true, true, false, true, true, true, true, true, true, true, false] : Array Bool).setIfInBounds 1 true) = [8]) (rB : Region.ready .any [o0, o1, o2, o3, o4, o5, o6, o7, o8, o9, o10, o11, o12, o13, o14, o15, o16].toArray (((#[true, false, true, true, true, true, true, true, false, true, true, true, true, true, true, true, false] : Array Bool).setIfInBounds 1 true).setIfInBounds 8 true) = [16]) (rE : Region.ready .any [o0, o1, o2, o3, o4, o5, o6, o7, o8, o9, o10, o11, o12, o13, o14, o15, o16].toArray ((((#[true, false, true, true, true, true, true, true, false, true, true, true, true, true, true, true, false] : Array Bool).setIfInBounds 1 true).setIfInBounds 8 true).setIfInBounds 16 true) = [])
    (hQ : ∀ c a d v w, Q (.panic c) (Act.put a d v) w → Q (.panic c) a w)
    (fin : ∀ vA vB vC W', W'.ownsRow w.heap.size 50 3 vC (m1 + m2) (xs1 ++ xs2) → Below w.heap.size w W' → Q .normal (((((((((((((((((((a.put (some 11) (.pointer (some ⟨r, 0, none⟩))).put (some 13) (.pointer (some ⟨r, 0, none⟩))).put (some 14) (.pointer (some ⟨r, 0, none⟩))).put (some 15) (.pointer (some ⟨r, 0, none⟩))).put (some 16) (.slice av N cv)).put (some 17) (.int .i64 (k : Int))).put (some 18) (S1)).put (some 20) (.pointer (some ⟨r, 0, none⟩))).put (some 21) (.pointer (some ⟨r, 0, none⟩))).put (some 22) (.pointer (some ⟨r, 0, none⟩))).put (some 23) (.slice av N cv)).put (some 24) (.int .i64 (k : Int))).put (some 25) (.int .i64 ((k : Int) + 1))).put (some 26) (S2)).put (some 12) vA).put (some 19) vB).put (some 27) vC).put (some 28) (.pointer (some ⟨r, 0, none⟩))).put (some 29) (.pointer (some ⟨r, 0, none⟩))) (W'.setCell ⟨r, 0, none⟩ vC)) :
    (Code.region id l1.toArray true).wp Try.prog Q a w := by
  obtain ⟨af, haf⟩ : ∃ af, af = ((((((((((((((a.put (some 11) (.pointer (some ⟨r, 0, none⟩))).put (some 13) (.pointer (some ⟨r, 0, none⟩))).put (some 14) (.pointer (some ⟨r, 0, none⟩))).put (some 15) (.pointer (some ⟨r, 0, none⟩))).put (some 16) (.slice av N cv)).put (some 17) (.int .i64 (k : Int))).put (some 18) (S1)).put (some 20) (.pointer (some ⟨r, 0, none⟩))).put (some 21) (.pointer (some ⟨r, 0, none⟩))).put (some 22) (.pointer (some ⟨r, 0, none⟩))).put (some 23) (.slice av N cv)).put (some 24) (.int .i64 (k : Int))).put (some 25) (.int .i64 ((k : Int) + 1))).put (some 26) (S2)) := ⟨_, rfl⟩
  rw [← haf] at fin
  have fsz : af.tmps.size = 30 := by rw [haf]; simp only [gput_sz]; exact hsz
  have f0 : af.tmps[0]? = some (.pointer (some ⟨r, 0, none⟩)) := by rw [haf]; rw [gput_ne (by decide), gput_ne (by decide), gput_ne (by decide), gput_ne (by decide), gput_ne (by decide), gput_ne (by decide), gput_ne (by decide), gput_ne (by decide), gput_ne (by decide), gput_ne (by decide), gput_ne (by decide), gput_ne (by decide), gput_ne (by decide), gput_ne (by decide)]; exact h0
  have f5 : af.tmps[5]? = some (.int .i64 (k : Int)) := by rw [haf]; rw [gput_ne (by decide), gput_ne (by decide), gput_ne (by decide), gput_ne (by decide), gput_ne (by decide), gput_ne (by decide), gput_ne (by decide), gput_ne (by decide), gput_ne (by decide), gput_ne (by decide), gput_ne (by decide), gput_ne (by decide), gput_ne (by decide), gput_ne (by decide)]; exact h5
  have f11 : af.tmps[11]? = some (.pointer (some ⟨r, 0, none⟩)) := by rw [haf]; rw [gput_ne (by decide), gput_ne (by decide), gput_ne (by decide), gput_ne (by decide), gput_ne (by decide), gput_ne (by decide), gput_ne (by decide), gput_ne (by decide), gput_ne (by decide), gput_ne (by decide), gput_ne (by decide), gput_ne (by decide), gput_ne (by decide), gput_at (by first | (rw [hsz]; decide) | (simp only [gput_sz]; rw [hsz]; decide))]
  have f13 : af.tmps[13]? = some (.pointer (some ⟨r, 0, none⟩)) := by rw [haf]; rw [gput_ne (by decide), gput_ne (by decide), gput_ne (by decide), gput_ne (by decide), gput_ne (by decide), gput_ne (by decide), gput_ne (by decide), gput_ne (by decide), gput_ne (by decide), gput_ne (by decide), gput_ne (by decide), gput_ne (by decide), gput_at (by first | (rw [hsz]; decide) | (simp only [gput_sz]; rw [hsz]; decide))]
  have f14 : af.tmps[14]? = some (.pointer (some ⟨r, 0, none⟩)) := by rw [haf]; rw [gput_ne (by decide), gput_ne (by decide), gput_ne (by decide), gput_ne (by decide), gput_ne (by decide), gput_ne (by decide), gput_ne (by decide), gput_ne (by decide), gput_ne (by decide), gput_ne (by decide), gput_ne (by decide), gput_at (by first | (rw [hsz]; decide) | (simp only [gput_sz]; rw [hsz]; decide))]
  have f15 : af.tmps[15]? = some (.pointer (some ⟨r, 0, none⟩)) := by rw [haf]; rw [gput_ne (by decide), gput_ne (by decide), gput_ne (by decide), gput_ne (by decide), gput_ne (by decide), gput_ne (by decide), gput_ne (by decide), gput_ne (by decide), gput_ne (by decide), gput_ne (by decide), gput_at (by first | (rw [hsz]; decide) | (simp only [gput_sz]; rw [hsz]; decide))]
  have f16 : af.tmps[16]? = some (.slice av N cv) := by rw [haf]; rw [gput_ne (by decide), gput_ne (by decide), gput_ne (by decide), gput_ne (by decide), gput_ne (by decide), gput_ne (by decide), gput_ne (by decide), gput_ne (by decide), gput_ne (by decide), gput_at (by first | (rw [hsz]; decide) | (simp only [gput_sz]; rw [hsz]; decide))]
  have f17 : af.tmps[17]? = some (.int .i64 (k : Int)) := by rw [haf]; rw [gput_ne (by decide), gput_ne (by decide), gput_ne (by decide), gput_ne (by decide), gput_ne (by decide), gput_ne (by decide), gput_ne (by decide), gput_ne (by decide), gput_at (by first | (rw [hsz]; decide) | (simp only [gput_sz]; rw [hsz]; decide))]
  have f18 : af.tmps[18]? = some (S1) := by rw [haf]; rw [gput_ne (by decide), gput_ne (by decide), gput_ne (by decide), gput_ne (by decide), gput_ne (by decide), gput_ne (by decide), gput_ne (by decide), gput_at (by first | (rw [hsz]; decide) | (simp only [gput_sz]; rw [hsz]; decide))]
  have f20 : af.tmps[20]? = some (.pointer (some ⟨r, 0, none⟩)) := by rw [haf]; rw [gput_ne (by decide), gput_ne (by decide), gput_ne (by decide), gput_ne (by decide), gput_ne (by decide), gput_ne (by decide), gput_at (by first | (rw [hsz]; decide) | (simp only [gput_sz]; rw [hsz]; decide))]
  have f21 : af.tmps[21]? = some (.pointer (some ⟨r, 0, none⟩)) := by rw [haf]; rw [gput_ne (by decide), gput_ne (by decide), gput_ne (by decide), gput_ne (by decide), gput_ne (by decide), gput_at (by first | (rw [hsz]; decide) | (simp only [gput_sz]; rw [hsz]; decide))]
  have f22 : af.tmps[22]? = some (.pointer (some ⟨r, 0, none⟩)) := by rw [haf]; rw [gput_ne (by decide), gput_ne (by decide), gput_ne (by decide), gput_ne (by decide), gput_at (by first | (rw [hsz]; decide) | (simp only [gput_sz]; rw [hsz]; decide))]
  have f23 : af.tmps[23]? = some (.slice av N cv) := by rw [haf]; rw [gput_ne (by decide), gput_ne (by decide), gput_ne (by decide), gput_at (by first | (rw [hsz]; decide) | (simp only [gput_sz]; rw [hsz]; decide))]
  have f24 : af.tmps[24]? = some (.int .i64 (k : Int)) := by rw [haf]; rw [gput_ne (by decide), gput_ne (by decide), gput_at (by first | (rw [hsz]; decide) | (simp only [gput_sz]; rw [hsz]; decide))]
  have f25 : af.tmps[25]? = some (.int .i64 ((k : Int) + 1)) := by rw [haf]; rw [gput_ne (by decide), gput_at (by first | (rw [hsz]; decide) | (simp only [gput_sz]; rw [hsz]; decide))]
  have f26 : af.tmps[26]? = some (S2) := by rw [haf]; rw [gput_at (by first | (rw [hsz]; decide) | (simp only [gput_sz]; rw [hsz]; decide))]
  have HS : Below w.heap.size w w.drew := (Below.refl _ _).drew
  refine ewp_region_tail 17 (fun W => Below w.heap.size w W) (by kernel_rfl) hok ?_
  rw [hl1, hlast]
  have hput : putIdx af [o0, o1, o2, o3, o4, o5, o6, o7, o8, o9, o10, o11, o12, o13, o14, o15, o16].toArray [0, 2, 3, 4, 5, 6, 7, 9, 10, 11, 12, 13, 14, 15] a = af := by
    have e : putIdx af [o0, o1, o2, o3, o4, o5, o6, o7, o8, o9, o10, o11, o12, o13, o14, o15, o16].toArray [0, 2, 3, 4, 5, 6, 7, 9, 10, 11, 12, 13, 14, 15] a = ((((((((((((((a.put (some 11) (.pointer (some ⟨r, 0, none⟩))).put (some 13) (.pointer (some ⟨r, 0, none⟩))).put (some 14) (.pointer (some ⟨r, 0, none⟩))).put (some 15) (.pointer (some ⟨r, 0, none⟩))).put (some 16) (.slice av N cv)).put (some 17) (.int .i64 (k : Int))).put (some 18) (S1)).put (some 20) (.pointer (some ⟨r, 0, none⟩))).put (some 21) (.pointer (some ⟨r, 0, none⟩))).put (some 22) (.pointer (some ⟨r, 0, none⟩))).put (some 23) (.slice av N cv)).put (some 24) (.int .i64 (k : Int))).put (some 25) (.int .i64 ((k : Int) + 1))).put (some 26) (S2)) := by
      simp only [putIdx, List.getElem?_toArray, List.getElem?_cons_succ, List.getElem?_cons_zero, Option.bind_some, t0, t2, t3, t4, t5, t6, t7, t9, t10, t11, t12, t13, t14, t15, ggetD f11, ggetD f13, ggetD f14, ggetD f15, ggetD f16, ggetD f17, ggetD f18, ggetD f20, ggetD f21, ggetD f22, ggetD f23, ggetD f24, ggetD f25, ggetD f26]
    rw [e, haf]
  refine takes (P := Try.prog) (Q := tailQ Try.prog Q [o17, o18, o19]) (S := fun W => Below w.heap.size w W) (idx := [0, 2, 3, 4, 5, 6, 7, 9, 10, 11, 12, 13, 14, 15]) (af := af) (fuel := 3) hns (fun c a d v w h => hQ c a d v w h) HS _ _ htk hput ?_ ?_
  · refine ⟨⟨o0, 11, _, rfl, t0, f11, ?_⟩, ⟨o2, 13, _, rfl, t2, f13, ?_⟩, ⟨o3, 14, _, rfl, t3, f14, ?_⟩, ⟨o4, 15, _, rfl, t4, f15, ?_⟩, ⟨o5, 16, _, rfl, t5, f16, ?_⟩, ⟨o6, 17, _, rfl, t6, f17, ?_⟩, ⟨o7, 18, _, rfl, t7, f18, ?_⟩, ⟨o9, 20, _, rfl, t9, f20, ?_⟩, ⟨o10, 21, _, rfl, t10, f21, ?_⟩, ⟨o11, 22, _, rfl, t11, f22, ?_⟩, ⟨o12, 23, _, rfl, t12, f23, ?_⟩, ⟨o13, 24, _, rfl, t13, f24, ?_⟩, ⟨o14, 25, _, rfl, t14, f25, ?_⟩, ⟨o15, 26, _, rfl, t15, f26, ?_⟩, trivial⟩
    · intro W hW
      have k0 := (hW.cell (p := ⟨r, 0, none⟩) (gcell_lt c0)).trans c0
      clear fin haf hput htk hns hok fsz hsz hQ rn rA rB rE h0 h5 c0 fz HS hs1 hs2 src1 src2
      obtain ⟨d, op, ty, pos, aft, gd⟩ := o0
      simp only at p0
      subst p0
      go_simp
    · intro W hW
      have k0 := (hW.cell (p := ⟨r, 0, none⟩) (gcell_lt c0)).trans c0
      clear fin haf hput htk hns hok fsz hsz hQ rn rA rB rE h0 h5 c0 fz HS hs1 hs2 src1 src2
      obtain ⟨d, op, ty, pos, aft, gd⟩ := o2
      simp only at p2
      subst p2
      go_simp
    · intro W hW
      have k0 := (hW.cell (p := ⟨r, 0, none⟩) (gcell_lt c0)).trans c0
      clear fin haf hput htk hns hok fsz hsz hQ rn rA rB rE h0 h5 c0 fz HS hs1 hs2 src1 src2
      obtain ⟨d, op, ty, pos, aft, gd⟩ := o3
      simp only at p3
      subst p3
      go_simp
    · intro W hW
      have k0 := (hW.cell (p := ⟨r, 0, none⟩) (gcell_lt c0)).trans c0
      clear fin haf hput htk hns hok fsz hsz hQ rn rA rB rE h0 h5 c0 fz HS hs1 hs2 src1 src2
      obtain ⟨d, op, ty, pos, aft, gd⟩ := o4
      simp only at p4
      subst p4
      go_simp
    · intro W hW
      have k0 := (hW.cell (p := ⟨r, 0, none⟩) (gcell_lt c0)).trans c0
      clear fin haf hput htk hns hok fsz hsz hQ rn rA rB rE h0 h5 c0 fz HS hs1 hs2 src1 src2
      obtain ⟨d, op, ty, pos, aft, gd⟩ := o5
      simp only at p5
      subst p5
      go_simp
    · intro W hW
      have k0 := (hW.cell (p := ⟨r, 0, none⟩) (gcell_lt c0)).trans c0
      clear fin haf hput htk hns hok fsz hsz hQ rn rA rB rE h0 h5 c0 fz HS hs1 hs2 src1 src2
      obtain ⟨d, op, ty, pos, aft, gd⟩ := o6
      simp only at p6
      subst p6
      go_simp
    · intro W hW
      have k0 := (hW.cell (p := ⟨r, 0, none⟩) (gcell_lt c0)).trans c0
      exact hs1 af W f16 f17
    · intro W hW
      have k0 := (hW.cell (p := ⟨r, 0, none⟩) (gcell_lt c0)).trans c0
      clear fin haf hput htk hns hok fsz hsz hQ rn rA rB rE h0 h5 c0 fz HS hs1 hs2 src1 src2
      obtain ⟨d, op, ty, pos, aft, gd⟩ := o9
      simp only at p9
      subst p9
      go_simp
    · intro W hW
      have k0 := (hW.cell (p := ⟨r, 0, none⟩) (gcell_lt c0)).trans c0
      clear fin haf hput htk hns hok fsz hsz hQ rn rA rB rE h0 h5 c0 fz HS hs1 hs2 src1 src2
      obtain ⟨d, op, ty, pos, aft, gd⟩ := o10
      simp only at p10
      subst p10
      go_simp
    · intro W hW
      have k0 := (hW.cell (p := ⟨r, 0, none⟩) (gcell_lt c0)).trans c0
      clear fin haf hput htk hns hok fsz hsz hQ rn rA rB rE h0 h5 c0 fz HS hs1 hs2 src1 src2
      obtain ⟨d, op, ty, pos, aft, gd⟩ := o11
      simp only at p11
      subst p11
      go_simp
    · intro W hW
      have k0 := (hW.cell (p := ⟨r, 0, none⟩) (gcell_lt c0)).trans c0
      clear fin haf hput htk hns hok fsz hsz hQ rn rA rB rE h0 h5 c0 fz HS hs1 hs2 src1 src2
      obtain ⟨d, op, ty, pos, aft, gd⟩ := o12
      simp only at p12
      subst p12
      go_simp
    · intro W hW
      have k0 := (hW.cell (p := ⟨r, 0, none⟩) (gcell_lt c0)).trans c0
      clear fin haf hput htk hns hok fsz hsz hQ rn rA rB rE h0 h5 c0 fz HS hs1 hs2 src1 src2
      obtain ⟨d, op, ty, pos, aft, gd⟩ := o13
      simp only at p13
      subst p13
      go_simp
    · intro W hW
      have k0 := (hW.cell (p := ⟨r, 0, none⟩) (gcell_lt c0)).trans c0
      clear fin haf hput htk hns hok fsz hsz hQ rn rA rB rE h0 h5 c0 fz HS hs1 hs2 src1 src2
      obtain ⟨d, op, ty, pos, aft, gd⟩ := o14
      simp only at p14
      subst p14
      go_simp
      rw [IntKind.wrap_i64]
      omega
    · intro W hW
      have k0 := (hW.cell (p := ⟨r, 0, none⟩) (gcell_lt c0)).trans c0
      exact hs2 af W f23 f25
  have em : markIdx [0, 2, 3, 4, 5, 6, 7, 9, 10, 11, 12, 13, 14, 15] (Array.replicate [o0, o1, o2, o3, o4, o5, o6, o7, o8, o9, o10, o11, o12, o13, o14, o15, o16].length false) = #[true, false, true, true, true, true, true, true, false, true, true, true, true, true, true, true, false] := by kernel_rfl
  rw [em]
  refine gtail_row eltEr (iA := 1) (iB := 8) (dA := 12) (dB := 19) (dv := 18) (fuel := 1) (m := m1) (xs := xs1) (w0 := w) (oA := o1) (oB := o8) rfl rfl g1 g8 (run_en0 p1) p8 t1 t8 rn rA (by decide) (by rw [fsz]; decide) f18 src1 xl1 xo1 (by omega) HS ?_
  intro vA vB W hW hB
  have q19 : ((af.put (some 12) vA).put (some 19) vB).tmps[19]? = some vB := gput_at (by rw [gput_sz, fsz]; decide)
  have q26 : ((af.put (some 12) vA).put (some 19) vB).tmps[26]? = some S2 := by rw [gput_ne (by decide), gput_ne (by decide)]; exact f26
  have q11 : ((af.put (some 12) vA).put (some 19) vB).tmps[11]? = some (.pointer (some ⟨r, 0, none⟩)) := by rw [gput_ne (by decide), gput_ne (by decide)]; exact f11
  have qsz : ((af.put (some 12) vA).put (some 19) vB).tmps.size = 30 := by rw [gput_sz, gput_sz, fsz]
  have fin2 := fin vA vB
  generalize (af.put (some 12) vA).put (some 19) vB = b3 at *
  refine gtail_more eltEr (iB := 16) (dA := 19) (dv := 26) (dB := 27) (fuel := 0) (oB := o16) (w0 := w) rfl g16 p16 t16 rB q19 q26 hB src2 xl2 xo2 (by omega) hW ?_
  intro vC W2 hW2 hC
  have s11 : (b3.put (some 27) vC).tmps[11]? = some (.pointer (some ⟨r, 0, none⟩)) := (gput_ne (by decide)).trans q11
  exact efin_store3 rE p17 t17 p18 t18 p19 t19 s11 (gput_at (by rw [qsz]; decide)) (by decide) (by decide) (by rw [gput_sz, qsz]; decide) (by rw [gput_sz, qsz]; decide) hC ((hW2.cell (p := ⟨r, 0, none⟩) (gcell_lt c0)).trans c0) (fz W2 hW2) (fin2 vC W2 hC hW2)


end Go.Proofs.Ytafcgbahdfaiiaa
