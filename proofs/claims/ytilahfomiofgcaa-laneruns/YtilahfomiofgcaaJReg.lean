/- The document's Claim and Retire: a row is made anew, in whatever order the operations come. (Written by wip/tools/jreg.py.) -/
import Derived.Test.YtilahfomiofgcaaJRefS
namespace Go.Proofs.Ytilahfomiofgcaa
open Go.RowKit
set_option maxRecDepth 100000

theorem run_m0 {o : Oper} (hop : o.op = .buildSlice 61 0 #[]) (a : Act) (W : World) : (execOp a.eval o).run Try.prog W = .ok (.value (.slice (some ⟨W.heap.size, 0, none⟩) 0 0)) (W.alloc (.cells #[] 72)) := by
  obtain ⟨d, op, ty, pos, aft, gd⟩ := o
  simp only at hop
  subst hop
  go_simp
theorem run_m1 {o : Oper} {t : Nat} {q : Int} (hop : o.op = .buildSlice 61 1 #[(0, .tmp t)]) (a : Act) (W : World) (hx : a.tmps[t]? = some (.agg #[.int .u64 q, .int .i64 1, .bool false, .int .i64 0, .int .u64 0, .int .i64 0, .int .i64 0])) : (execOp a.eval o).run Try.prog W = .ok (.value (.slice (some ⟨W.heap.size, 0, none⟩) 1 1)) (W.alloc (.cells [.int .u64 q, .int .i64 1, .bool false, .int .i64 0, .int .u64 0, .int .i64 0, .int .i64 0].toArray 72)) := by
  obtain ⟨d, op, ty, pos, aft, gd⟩ := o
  simp only at hop
  subst hop
  go_simp
/-- the last ones wait for all before them, one behind the other -/
theorem wp_region_tail {P : Program} {id : Nat} {Q : Exit → Act → World → Prop} {a : Act} {w : World} {l1 : List Oper} (n : Nat) (S : World → Prop) (hm : P.follows .mixedOrders = true) (hok : tailOk (l1.take n) (l1.drop n) = true)
    (h : wpAnyH P .any (l1.take n).toArray (tailQ P Q (l1.drop n)) S (l1.take n).length (Array.replicate (l1.take n).length false) a w.drew) : (Code.region id l1.toArray true).wp P Q a w := by
  refine wp_region_any hm ?_
  have h1 := split_tail (l1.drop n) (l1.take n) a w.drew hok (wpAny_of_held _ _ _ _ h)
  rw [List.take_append_drop] at h1
  simpa using h1
/-- all are done: the last ones store the row -/
theorem gfin_store3 {ops : Array Oper} {Q : Exit → Act → World → Prop} {S : World → Prop} {oX oY oL : Oper} {dq dx dp d fuel r base n : Nat} {listed : Array Bool} {a : Act} {W : World} {v u : Value} {xs : List Value}
    (rE : Region.ready .any ops listed = []) (pX : oX.op = .nilCheck (.tmp dq)) (tX : oX.dst = some dx) (pY : oY.op = .fieldAddr 63 (.tmp dx) 4) (tY : oY.dst = some dp) (pL : oL.op = .store 61 (.tmp dp) (.tmp d)) (tL : oL.dst = none) (hp : a.tmps[dq]? = some (.pointer (some ⟨r, 0, none⟩))) (hD : a.tmps[d]? = some v) (n1 : dx ≠ d) (n2 : dp ≠ d) (s1 : dx < a.tmps.size) (s2 : dp < a.tmps.size) (hown : W.ownsRow base 72 7 v n xs) (hc : W.cell? ⟨r, 4, none⟩ = some u) (hf : W.frozen? ⟨r, 4, none⟩ = false)
    (h : Q .normal ((a.put (some dx) (.pointer (some ⟨r, 0, none⟩))).put (some dp) (.pointer (some ⟨r, 4, none⟩))) (W.setCell ⟨r, 4, none⟩ v)) :
    wpAnyH Try.prog .any ops (tailQ Try.prog Q [oX, oY, oL]) S fuel listed a W := by
  refine wpAnyH_done rE ?_ _
  refine tailQ_of _ _ _ ?_
  obtain ⟨ad, c, rfl⟩ := own_form hown
  unfold tailWp
  intro K hK
  have hrun : (execOp a.eval oX).run Try.prog W = .ok (.value (.pointer (some ⟨r, 0, none⟩))) W := by
    obtain ⟨dd, op, ty, pos, aft, g⟩ := oX
    simp only at pX
    subst pX
    clear h hown rE tL hK
    go_simp
  unfold Oper.wp
  rw [hrun]
  refine hK _ _ ?_
  clear hK hrun
  rw [tX]
  have z1 : (a.put (some dx) (.pointer (some ⟨r, 0, none⟩))).tmps[dx]? = some (.pointer (some ⟨r, 0, none⟩)) := gput_at s1
  have z2 : (a.put (some dx) (.pointer (some ⟨r, 0, none⟩))).tmps[d]? = some (.slice ad n c) := (gput_ne n1).trans hD
  have z3 : (a.put (some dx) (.pointer (some ⟨r, 0, none⟩))).tmps.size = a.tmps.size := gput_sz
  generalize a.put (some dx) (.pointer (some ⟨r, 0, none⟩)) = a1 at *
  unfold tailWp
  intro K hK
  have hrun : (execOp a1.eval oY).run Try.prog W = .ok (.value (.pointer (some ⟨r, 4, none⟩))) W := by
    obtain ⟨dd, op, ty, pos, aft, g⟩ := oY
    simp only at pY
    subst pY
    clear h hown rE tL hK hp hD s1 s2 z3
    go_simp
  unfold Oper.wp
  rw [hrun]
  refine hK _ _ ?_
  clear hK hrun
  rw [tY]
  have y1 : (a1.put (some dp) (.pointer (some ⟨r, 4, none⟩))).tmps[dp]? = some (.pointer (some ⟨r, 4, none⟩)) := gput_at (by rw [z3]; exact s2)
  have y2 : (a1.put (some dp) (.pointer (some ⟨r, 4, none⟩))).tmps[d]? = some (.slice ad n c) := (gput_ne n2).trans z2
  generalize a1.put (some dp) (.pointer (some ⟨r, 4, none⟩)) = a2 at *
  unfold tailWp
  intro K hK
  have hrun : (execOp a2.eval oL).run Try.prog W = .ok .skip (W.setCell ⟨r, 4, none⟩ (.slice ad n c)) := by
    obtain ⟨dd, op, ty, pos, aft, g⟩ := oL
    simp only at pL
    subst pL
    clear h hown rE tL hK hp hD z1 z2 s1 s2 z3
    go_simp
  unfold Oper.wp
  rw [hrun]
  refine hK _ _ ?_
  unfold tailWp
  show Q .normal (a2.put oL.dst undef) _
  rw [tL]
  exact h

set_option maxHeartbeats 2000000 in
theorem clm_region {id : Nat} {Q : Exit → Act → World → Prop} {a : Act} {w : World} {l1 : List Oper} {o0 o1 o2 o3 o4 o5 o6 o7 o8 o9 o10 o11 o12 o13 o14 o15 o16 : Oper} {r N cv : Nat} {av : Option Addr} {q : Int} {xs1 : List Value} (hl1 : l1.take 14 = [o0, o1, o2, o3, o4, o5, o6, o7, o8, o9, o10, o11, o12, o13]) (hlast : l1.drop 14 = [o14, o15, o16])
    (hok : tailOk (l1.take 14) (l1.drop 14) = true) (hns : Region.noSelect [o0, o1, o2, o3, o4, o5, o6, o7, o8, o9, o10, o11, o12, o13].toArray = true) (htk : takesOk [o0, o1, o2, o3, o4, o5, o6, o7, o8, o9, o10, o11, o12, o13].toArray [0, 2, 3, 4, 5, 7, 8, 9, 10, 11] (Array.replicate 14 false) = true)
    (p0 : o0.op = .move (.tmp 0)) (p1 : o1.op = .buildSlice 61 0 #[]) (p2 : o2.op = .move (.tmp 0)) (p3 : o3.op = .nilCheck (.tmp 27)) (p4 : o4.op = .fieldAddr 63 (.tmp 28) 4) (p5 : o5.op = .load 61 (.tmp 29)) (p6 : o6.op = .call { callee := .builtin .append, args := #[.tmp 26, .tmp 30], argTypes := #[61, 61] }) (p7 : o7.op = .move (.tmp 0)) (p8 : o8.op = .nilCheck (.tmp 32)) (p9 : o9.op = .fieldAddr 63 (.tmp 33) 2) (p10 : o10.op = .load 22 (.tmp 34)) (p11 : o11.op = .build 72 #[(0, .tmp 35), (1, .const (.int .i64 1))]) (p12 : o12.op = .buildSlice 61 1 #[(0, .tmp 36)]) (p13 : o13.op = .call { callee := .builtin .append, args := #[.tmp 31, .tmp 37], argTypes := #[61, 61] }) (p14 : o14.op = .nilCheck (.tmp 25)) (p15 : o15.op = .fieldAddr 63 (.tmp 39) 4) (p16 : o16.op = .store 61 (.tmp 40) (.tmp 38))
    (g1 : o1.guard = none) (g6 : o6.guard = none) (g12 : o12.guard = none) (g13 : o13.guard = none)
    (t0 : o0.dst = some 25) (t1 : o1.dst = some 26) (t2 : o2.dst = some 27) (t3 : o3.dst = some 28) (t4 : o4.dst = some 29) (t5 : o5.dst = some 30) (t6 : o6.dst = some 31) (t7 : o7.dst = some 32) (t8 : o8.dst = some 33) (t9 : o9.dst = some 34) (t10 : o10.dst = some 35) (t11 : o11.dst = some 36) (t12 : o12.dst = some 37) (t13 : o13.dst = some 38) (t14 : o14.dst = some 39) (t15 : o15.dst = some 40) (t16 : o16.dst = none)
    (hsz : a.tmps.size = 49)
    (h0 : a.tmps[0]? = some (.pointer (some ⟨r, 0, none⟩))) (c4 : w.cell? ⟨r, 4, none⟩ = some (.slice av N cv)) (c2 : w.cell? ⟨r, 2, none⟩ = some (.int .u64 q)) (fz : ∀ W, Below w.heap.size w W → W.frozen? ⟨r, 4, none⟩ = false)
    (src1 : Src w (.slice av N cv) N xs1) (xl1 : xs1.length = N * 7) (xo1 : ∀ y ∈ xs1, y.oneCell' = true) (hbd : N ≤ 1000)
    (rn : Region.ready .any [o0, o1, o2, o3, o4, o5, o6, o7, o8, o9, o10, o11, o12, o13].toArray (#[true, false, true, true, true, true, false, true, true, true, true, true, false, false] : Array Bool) = [1, 12]) (rA : Region.ready .any [o0, o1, o2, o3, o4, o5, o6, o7, o8, o9, o10, o11, o12, o13].toArray ((#[true, false, true, true, true, true, false, true, true, true, true, true, false, false] : Array Bool).setIfInBounds 1 true) = [6, 12]) (rC : Region.ready .any [o0, o1, o2, o3, o4, o5, o6, o7, o8, o9, o10, o11, o12, o13].toArray ((#[true, false, true, true, true, true, false, true, true, true, true, true, false, false] : Array Bool).setIfInBounds 12 true) = [1]) (rAB : Region.ready .any [o0, o1, o2, o3, o4, o5, o6, o7, o8, o9, o10, o11, o12, o13].toArray (((#[true, false, true, true, true, true, false, true, true, true, true, true, false, false] : Array Bool).setIfInBounds 1 true).setIfInBounds 6 true) = [12]) (rAC : Region.ready .any [o0, o1, o2, o3, o4, o5, o6, o7, o8, o9, o10, o11, o12, o13].toArray (((#[true, false, true, true, true, true, false, true, true, true, true, true, false, false] : Array Bool).setIfInBounds 1 true).setIfInBounds 12 true) = [6]) (rCA : Region.ready .any [o0, o1, o2, o3, o4, o5, o6, o7, o8, o9, o10, o11, o12, o13].toArray (((#[true, false, true, true, true, true, false, true, true, true, true, true, false, false] : Array Bool).setIfInBounds 12 true).setIfInBounds 1 true) = [6]) (rABC : Region.ready .any [o0, o1, o2, o3, o4, o5, o6, o7, o8, o9, o10, o11, o12, o13].toArray ((((#[true, false, true, true, true, true, false, true, true, true, true, true, false, false] : Array Bool).setIfInBounds 1 true).setIfInBounds 6 true).setIfInBounds 12 true) = [13]) (rE : Region.ready .any [o0, o1, o2, o3, o4, o5, o6, o7, o8, o9, o10, o11, o12, o13].toArray (((((#[true, false, true, true, true, true, false, true, true, true, true, true, false, false] : Array Bool).setIfInBounds 1 true).setIfInBounds 6 true).setIfInBounds 12 true).setIfInBounds 13 true) = [])
    (hQ : ∀ c a d v w, Q (.panic c) (Act.put a d v) w → Q (.panic c) a w)
    (fin : ∀ vA vB vC vD W', W'.ownsRow w.heap.size 72 7 vD (N + 1) (xs1 ++ [.int .u64 q, .int .i64 1, .bool false, .int .i64 0, .int .u64 0, .int .i64 0, .int .i64 0]) → Below w.heap.size w W' → Q .normal ((((((((((((((((a.put (some 25) (.pointer (some ⟨r, 0, none⟩))).put (some 27) (.pointer (some ⟨r, 0, none⟩))).put (some 28) (.pointer (some ⟨r, 0, none⟩))).put (some 29) (.pointer (some ⟨r, 4, none⟩))).put (some 30) (.slice av N cv)).put (some 32) (.pointer (some ⟨r, 0, none⟩))).put (some 33) (.pointer (some ⟨r, 0, none⟩))).put (some 34) (.pointer (some ⟨r, 2, none⟩))).put (some 35) (.int .u64 q)).put (some 36) (.agg #[.int .u64 q, .int .i64 1, .bool false, .int .i64 0, .int .u64 0, .int .i64 0, .int .i64 0])).put (some 26) vA).put (some 31) vB).put (some 37) vC).put (some 38) vD).put (some 39) (.pointer (some ⟨r, 0, none⟩))).put (some 40) (.pointer (some ⟨r, 4, none⟩))) (W'.setCell ⟨r, 4, none⟩ vD)) :
    (Code.region id l1.toArray true).wp Try.prog Q a w := by
  obtain ⟨af, haf⟩ : ∃ af, af = ((((((((((a.put (some 25) (.pointer (some ⟨r, 0, none⟩))).put (some 27) (.pointer (some ⟨r, 0, none⟩))).put (some 28) (.pointer (some ⟨r, 0, none⟩))).put (some 29) (.pointer (some ⟨r, 4, none⟩))).put (some 30) (.slice av N cv)).put (some 32) (.pointer (some ⟨r, 0, none⟩))).put (some 33) (.pointer (some ⟨r, 0, none⟩))).put (some 34) (.pointer (some ⟨r, 2, none⟩))).put (some 35) (.int .u64 q)).put (some 36) (.agg #[.int .u64 q, .int .i64 1, .bool false, .int .i64 0, .int .u64 0, .int .i64 0, .int .i64 0])) := ⟨_, rfl⟩
  rw [← haf] at fin
  have fsz : af.tmps.size = 49 := by rw [haf]; simp only [gput_sz]; exact hsz
  have f0 : af.tmps[0]? = some (.pointer (some ⟨r, 0, none⟩)) := by rw [haf]; rw [gput_ne (by decide), gput_ne (by decide), gput_ne (by decide), gput_ne (by decide), gput_ne (by decide), gput_ne (by decide), gput_ne (by decide), gput_ne (by decide), gput_ne (by decide), gput_ne (by decide)]; exact h0
  have f25 : af.tmps[25]? = some (.pointer (some ⟨r, 0, none⟩)) := by rw [haf]; rw [gput_ne (by decide), gput_ne (by decide), gput_ne (by decide), gput_ne (by decide), gput_ne (by decide), gput_ne (by decide), gput_ne (by decide), gput_ne (by decide), gput_ne (by decide), gput_at (by first | (rw [hsz]; decide) | (simp only [gput_sz]; rw [hsz]; decide))]
  have f27 : af.tmps[27]? = some (.pointer (some ⟨r, 0, none⟩)) := by rw [haf]; rw [gput_ne (by decide), gput_ne (by decide), gput_ne (by decide), gput_ne (by decide), gput_ne (by decide), gput_ne (by decide), gput_ne (by decide), gput_ne (by decide), gput_at (by first | (rw [hsz]; decide) | (simp only [gput_sz]; rw [hsz]; decide))]
  have f28 : af.tmps[28]? = some (.pointer (some ⟨r, 0, none⟩)) := by rw [haf]; rw [gput_ne (by decide), gput_ne (by decide), gput_ne (by decide), gput_ne (by decide), gput_ne (by decide), gput_ne (by decide), gput_ne (by decide), gput_at (by first | (rw [hsz]; decide) | (simp only [gput_sz]; rw [hsz]; decide))]
  have f29 : af.tmps[29]? = some (.pointer (some ⟨r, 4, none⟩)) := by rw [haf]; rw [gput_ne (by decide), gput_ne (by decide), gput_ne (by decide), gput_ne (by decide), gput_ne (by decide), gput_ne (by decide), gput_at (by first | (rw [hsz]; decide) | (simp only [gput_sz]; rw [hsz]; decide))]
  have f30 : af.tmps[30]? = some (.slice av N cv) := by rw [haf]; rw [gput_ne (by decide), gput_ne (by decide), gput_ne (by decide), gput_ne (by decide), gput_ne (by decide), gput_at (by first | (rw [hsz]; decide) | (simp only [gput_sz]; rw [hsz]; decide))]
  have f32 : af.tmps[32]? = some (.pointer (some ⟨r, 0, none⟩)) := by rw [haf]; rw [gput_ne (by decide), gput_ne (by decide), gput_ne (by decide), gput_ne (by decide), gput_at (by first | (rw [hsz]; decide) | (simp only [gput_sz]; rw [hsz]; decide))]
  have f33 : af.tmps[33]? = some (.pointer (some ⟨r, 0, none⟩)) := by rw [haf]; rw [gput_ne (by decide), gput_ne (by decide), gput_ne (by decide), gput_at (by first | (rw [hsz]; decide) | (simp only [gput_sz]; rw [hsz]; decide))]
  have f34 : af.tmps[34]? = some (.pointer (some ⟨r, 2, none⟩)) := by rw [haf]; rw [gput_ne (by decide), gput_ne (by decide), gput_at (by first | (rw [hsz]; decide) | (simp only [gput_sz]; rw [hsz]; decide))]
  have f35 : af.tmps[35]? = some (.int .u64 q) := by rw [haf]; rw [gput_ne (by decide), gput_at (by first | (rw [hsz]; decide) | (simp only [gput_sz]; rw [hsz]; decide))]
  have f36 : af.tmps[36]? = some (.agg #[.int .u64 q, .int .i64 1, .bool false, .int .i64 0, .int .u64 0, .int .i64 0, .int .i64 0]) := by rw [haf]; rw [gput_at (by first | (rw [hsz]; decide) | (simp only [gput_sz]; rw [hsz]; decide))]
  have HS : Below w.heap.size w w.drew := (Below.refl _ _).drew
  refine wp_region_tail 14 (fun W => Below w.heap.size w W) (by kernel_rfl) hok ?_
  rw [hl1, hlast]
  have hput : putIdx af [o0, o1, o2, o3, o4, o5, o6, o7, o8, o9, o10, o11, o12, o13].toArray [0, 2, 3, 4, 5, 7, 8, 9, 10, 11] a = af := by
    have e : putIdx af [o0, o1, o2, o3, o4, o5, o6, o7, o8, o9, o10, o11, o12, o13].toArray [0, 2, 3, 4, 5, 7, 8, 9, 10, 11] a = ((((((((((a.put (some 25) (.pointer (some ⟨r, 0, none⟩))).put (some 27) (.pointer (some ⟨r, 0, none⟩))).put (some 28) (.pointer (some ⟨r, 0, none⟩))).put (some 29) (.pointer (some ⟨r, 4, none⟩))).put (some 30) (.slice av N cv)).put (some 32) (.pointer (some ⟨r, 0, none⟩))).put (some 33) (.pointer (some ⟨r, 0, none⟩))).put (some 34) (.pointer (some ⟨r, 2, none⟩))).put (some 35) (.int .u64 q)).put (some 36) (.agg #[.int .u64 q, .int .i64 1, .bool false, .int .i64 0, .int .u64 0, .int .i64 0, .int .i64 0])) := by
      simp only [putIdx, List.getElem?_toArray, List.getElem?_cons_succ, List.getElem?_cons_zero, Option.bind_some, t0, t2, t3, t4, t5, t7, t8, t9, t10, t11, ggetD f25, ggetD f27, ggetD f28, ggetD f29, ggetD f30, ggetD f32, ggetD f33, ggetD f34, ggetD f35, ggetD f36]
    rw [e, haf]
  refine takes (P := Try.prog) (Q := tailQ Try.prog Q [o14, o15, o16]) (S := fun W => Below w.heap.size w W) (idx := [0, 2, 3, 4, 5, 7, 8, 9, 10, 11]) (af := af) (fuel := 4) hns (fun c a d v w h => hQ c a d v w h) HS _ _ htk hput ?_ ?_
  · refine ⟨⟨o0, 25, _, rfl, t0, f25, ?_⟩, ⟨o2, 27, _, rfl, t2, f27, ?_⟩, ⟨o3, 28, _, rfl, t3, f28, ?_⟩, ⟨o4, 29, _, rfl, t4, f29, ?_⟩, ⟨o5, 30, _, rfl, t5, f30, ?_⟩, ⟨o7, 32, _, rfl, t7, f32, ?_⟩, ⟨o8, 33, _, rfl, t8, f33, ?_⟩, ⟨o9, 34, _, rfl, t9, f34, ?_⟩, ⟨o10, 35, _, rfl, t10, f35, ?_⟩, ⟨o11, 36, _, rfl, t11, f36, ?_⟩, trivial⟩
    · intro W hW
      have k4 := (hW.cell (p := ⟨r, 4, none⟩) (gcell_lt c4)).trans c4
      have k2 := (hW.cell (p := ⟨r, 2, none⟩) (gcell_lt c2)).trans c2
      clear fin haf hput htk hns hok fsz hsz hQ rn rA rC rAB rAC rCA rABC rE h0 c4 c2 fz HS src1
      obtain ⟨d, op, ty, pos, aft, gd⟩ := o0
      simp only at p0
      subst p0
      go_simp
    · intro W hW
      have k4 := (hW.cell (p := ⟨r, 4, none⟩) (gcell_lt c4)).trans c4
      have k2 := (hW.cell (p := ⟨r, 2, none⟩) (gcell_lt c2)).trans c2
      clear fin haf hput htk hns hok fsz hsz hQ rn rA rC rAB rAC rCA rABC rE h0 c4 c2 fz HS src1
      obtain ⟨d, op, ty, pos, aft, gd⟩ := o2
      simp only at p2
      subst p2
      go_simp
    · intro W hW
      have k4 := (hW.cell (p := ⟨r, 4, none⟩) (gcell_lt c4)).trans c4
      have k2 := (hW.cell (p := ⟨r, 2, none⟩) (gcell_lt c2)).trans c2
      clear fin haf hput htk hns hok fsz hsz hQ rn rA rC rAB rAC rCA rABC rE h0 c4 c2 fz HS src1
      obtain ⟨d, op, ty, pos, aft, gd⟩ := o3
      simp only at p3
      subst p3
      go_simp
    · intro W hW
      have k4 := (hW.cell (p := ⟨r, 4, none⟩) (gcell_lt c4)).trans c4
      have k2 := (hW.cell (p := ⟨r, 2, none⟩) (gcell_lt c2)).trans c2
      clear fin haf hput htk hns hok fsz hsz hQ rn rA rC rAB rAC rCA rABC rE h0 c4 c2 fz HS src1
      obtain ⟨d, op, ty, pos, aft, gd⟩ := o4
      simp only at p4
      subst p4
      go_simp
    · intro W hW
      have k4 := (hW.cell (p := ⟨r, 4, none⟩) (gcell_lt c4)).trans c4
      have k2 := (hW.cell (p := ⟨r, 2, none⟩) (gcell_lt c2)).trans c2
      clear fin haf hput htk hns hok fsz hsz hQ rn rA rC rAB rAC rCA rABC rE h0 c4 c2 fz HS src1
      obtain ⟨d, op, ty, pos, aft, gd⟩ := o5
      simp only at p5
      subst p5
      go_simp
    · intro W hW
      have k4 := (hW.cell (p := ⟨r, 4, none⟩) (gcell_lt c4)).trans c4
      have k2 := (hW.cell (p := ⟨r, 2, none⟩) (gcell_lt c2)).trans c2
      clear fin haf hput htk hns hok fsz hsz hQ rn rA rC rAB rAC rCA rABC rE h0 c4 c2 fz HS src1
      obtain ⟨d, op, ty, pos, aft, gd⟩ := o7
      simp only at p7
      subst p7
      go_simp
    · intro W hW
      have k4 := (hW.cell (p := ⟨r, 4, none⟩) (gcell_lt c4)).trans c4
      have k2 := (hW.cell (p := ⟨r, 2, none⟩) (gcell_lt c2)).trans c2
      clear fin haf hput htk hns hok fsz hsz hQ rn rA rC rAB rAC rCA rABC rE h0 c4 c2 fz HS src1
      obtain ⟨d, op, ty, pos, aft, gd⟩ := o8
      simp only at p8
      subst p8
      go_simp
    · intro W hW
      have k4 := (hW.cell (p := ⟨r, 4, none⟩) (gcell_lt c4)).trans c4
      have k2 := (hW.cell (p := ⟨r, 2, none⟩) (gcell_lt c2)).trans c2
      clear fin haf hput htk hns hok fsz hsz hQ rn rA rC rAB rAC rCA rABC rE h0 c4 c2 fz HS src1
      obtain ⟨d, op, ty, pos, aft, gd⟩ := o9
      simp only at p9
      subst p9
      go_simp
    · intro W hW
      have k4 := (hW.cell (p := ⟨r, 4, none⟩) (gcell_lt c4)).trans c4
      have k2 := (hW.cell (p := ⟨r, 2, none⟩) (gcell_lt c2)).trans c2
      clear fin haf hput htk hns hok fsz hsz hQ rn rA rC rAB rAC rCA rABC rE h0 c4 c2 fz HS src1
      obtain ⟨d, op, ty, pos, aft, gd⟩ := o10
      simp only at p10
      subst p10
      go_simp
    · intro W hW
      have k4 := (hW.cell (p := ⟨r, 4, none⟩) (gcell_lt c4)).trans c4
      have k2 := (hW.cell (p := ⟨r, 2, none⟩) (gcell_lt c2)).trans c2
      clear fin haf hput htk hns hok fsz hsz hQ rn rA rC rAB rAC rCA rABC rE h0 c4 c2 fz HS src1
      obtain ⟨d, op, ty, pos, aft, gd⟩ := o11
      simp only at p11
      subst p11
      go_simp
  have em : markIdx [0, 2, 3, 4, 5, 7, 8, 9, 10, 11] (Array.replicate [o0, o1, o2, o3, o4, o5, o6, o7, o8, o9, o10, o11, o12, o13].length false) = #[true, false, true, true, true, true, false, true, true, true, true, true, false, false] := by kernel_rfl
  rw [em]
  refine gtail_snoc eltMr (iA := 1) (iB := 6) (iC := 12) (iD := 13) (dA := 26) (dB := 31) (dC := 37) (dD := 38) (dv := 30) (dx := 36) (fuel := 0) (m := N) (xs := xs1) (ys := [.int .u64 q, .int .i64 1, .bool false, .int .i64 0, .int .u64 0, .int .i64 0, .int .i64 0]) (w0 := w) (oA := o1) (oB := o6) (oC := o12) (oD := o13) rfl rfl rfl rfl g1 g6 g12 g13 (run_m0 p1) p6 (run_m1 p12) p13 t1 t6 t12 t13 rn rA rC rAB rAC rCA rABC (by decide) (by decide) (by rw [fsz]; decide) f30 f36 src1 xl1 xo1 rfl (by simp [Value.oneCell']) (by omega) HS ?_
  intro vA vB vC vD W hW hD
  have q38 : ((((af.put (some 26) vA).put (some 31) vB).put (some 37) vC).put (some 38) vD).tmps[38]? = some vD := gput_at (by rw [gput_sz, gput_sz, gput_sz, fsz]; decide)
  have q25 : ((((af.put (some 26) vA).put (some 31) vB).put (some 37) vC).put (some 38) vD).tmps[25]? = some (.pointer (some ⟨r, 0, none⟩)) := by rw [gput_ne (by decide), gput_ne (by decide), gput_ne (by decide), gput_ne (by decide)]; exact f25
  have qsz : ((((af.put (some 26) vA).put (some 31) vB).put (some 37) vC).put (some 38) vD).tmps.size = 49 := by rw [gput_sz, gput_sz, gput_sz, gput_sz, fsz]
  exact gfin_store3 rE p14 t14 p15 t15 p16 t16 q25 q38 (by decide) (by decide) (by rw [qsz]; decide) (by rw [qsz]; decide) hD ((hW.cell (p := ⟨r, 4, none⟩) (gcell_lt c4)).trans c4) (fz W hW) (fin vA vB vC vD W hD hW)


set_option maxHeartbeats 2000000 in
theorem rtr_region {id : Nat} {Q : Exit → Act → World → Prop} {a : Act} {w : World} {l1 : List Oper} {o0 o1 o2 o3 o4 o5 o6 o7 o8 o9 o10 o11 o12 o13 o14 o15 o16 o17 o18 o19 : Oper} {r N cv k m1 m2 : Nat} {av : Option Addr} {S1 S2 : Value} {xs1 xs2 : List Value} (hl1 : l1.take 17 = [o0, o1, o2, o3, o4, o5, o6, o7, o8, o9, o10, o11, o12, o13, o14, o15, o16]) (hlast : l1.drop 17 = [o17, o18, o19])
    (hok : tailOk (l1.take 17) (l1.drop 17) = true) (hns : Region.noSelect [o0, o1, o2, o3, o4, o5, o6, o7, o8, o9, o10, o11, o12, o13, o14, o15, o16].toArray = true) (htk : takesOk [o0, o1, o2, o3, o4, o5, o6, o7, o8, o9, o10, o11, o12, o13, o14, o15, o16].toArray [0, 2, 3, 4, 5, 6, 7, 9, 10, 11, 12, 13, 14, 15] (Array.replicate 17 false) = true)
    (p0 : o0.op = .move (.tmp 0)) (p1 : o1.op = .buildSlice 61 0 #[]) (p2 : o2.op = .move (.tmp 0)) (p3 : o3.op = .nilCheck (.tmp 36)) (p4 : o4.op = .fieldAddr 63 (.tmp 37) 4) (p5 : o5.op = .load 61 (.tmp 38)) (p6 : o6.op = .move (.tmp 7)) (p8 : o8.op = .call { callee := .builtin .append, args := #[.tmp 35, .tmp 41], argTypes := #[61, 61] }) (p9 : o9.op = .move (.tmp 0)) (p10 : o10.op = .nilCheck (.tmp 43)) (p11 : o11.op = .fieldAddr 63 (.tmp 44) 4) (p12 : o12.op = .load 61 (.tmp 45)) (p13 : o13.op = .move (.tmp 7)) (p14 : o14.op = .binOp .add 3 (.tmp 47) (.const (.int .i64 1)) 3) (p16 : o16.op = .call { callee := .builtin .append, args := #[.tmp 42, .tmp 49], argTypes := #[61, 61] }) (p17 : o17.op = .nilCheck (.tmp 34)) (p18 : o18.op = .fieldAddr 63 (.tmp 51) 4) (p19 : o19.op = .store 61 (.tmp 52) (.tmp 50))
    (g1 : o1.guard = none) (g8 : o8.guard = none) (g16 : o16.guard = none)
    (t0 : o0.dst = some 34) (t1 : o1.dst = some 35) (t2 : o2.dst = some 36) (t3 : o3.dst = some 37) (t4 : o4.dst = some 38) (t5 : o5.dst = some 39) (t6 : o6.dst = some 40) (t7 : o7.dst = some 41) (t8 : o8.dst = some 42) (t9 : o9.dst = some 43) (t10 : o10.dst = some 44) (t11 : o11.dst = some 45) (t12 : o12.dst = some 46) (t13 : o13.dst = some 47) (t14 : o14.dst = some 48) (t15 : o15.dst = some 49) (t16 : o16.dst = some 50) (t17 : o17.dst = some 51) (t18 : o18.dst = some 52) (t19 : o19.dst = none)
    (hsz : a.tmps.size = 61)
    (h0 : a.tmps[0]? = some (.pointer (some ⟨r, 0, none⟩))) (h7 : a.tmps[7]? = some (.int .i64 (k : Int))) (hk : k < 1000) (c4 : w.cell? ⟨r, 4, none⟩ = some (.slice av N cv)) (fz : ∀ W, Below w.heap.size w W → W.frozen? ⟨r, 4, none⟩ = false)
    (hs1 : ∀ (b : Act) W, b.tmps[39]? = some (.slice av N cv) → b.tmps[40]? = some (.int .i64 (k : Int)) → (execOp b.eval o7).run Try.prog W = .ok (.value S1) W)
    (hs2 : ∀ (b : Act) W, b.tmps[46]? = some (.slice av N cv) → b.tmps[48]? = some (.int .i64 ((k : Int) + 1)) → (execOp b.eval o15).run Try.prog W = .ok (.value S2) W)
    (src1 : Src w S1 m1 xs1) (xl1 : xs1.length = m1 * 7) (xo1 : ∀ y ∈ xs1, y.oneCell' = true) (src2 : Src w S2 m2 xs2) (xl2 : xs2.length = m2 * 7) (xo2 : ∀ y ∈ xs2, y.oneCell' = true) (hbd : m1 + m2 ≤ 1000)
    (rn : Region.ready .any [o0, o1, o2, o3, o4, o5, o6, o7, o8, o9, o10, o11, o12, o13, o14, o15, o16].toArray (#[true, false, true, true, true, true, true, true, false, true, true, true, true, true, true, true, false] : Array Bool) = [1]) (rA : Region.ready .any [o0, o1, o2, o3, o4, o5, o6, o7, o8, o9, o10, o11, o12, o13, o14, o15, o16].toArray ((#[true, false, true, true, true, true, true, true, false, true, true, true, true, true, true, true, false] : Array Bool).setIfInBounds 1 true) = [8]) (rB : Region.ready .any [o0, o1, o2, o3, o4, o5, o6, o7, o8, o9, o10, o11, o12, o13, o14, o15, o16].toArray (((#[true, false, true, true, true, true, true, true, false, true, true, true, true, true, true, true, false] : Array Bool).setIfInBounds 1 true).setIfInBounds 8 true) = [16]) (rE : Region.ready .any [o0, o1, o2, o3, o4, o5, o6, o7, o8, o9, o10, o11, o12, o13, o14, o15, o16].toArray ((((#[true, false, true, true, true, true, true, true, false, true, true, true, true, true, true, true, false] : Array Bool).setIfInBounds 1 true).setIfInBounds 8 true).setIfInBounds 16 true) = [])
    (hQ : ∀ c a d v w, Q (.panic c) (Act.put a d v) w → Q (.panic c) a w)
    (fin : ∀ vA vB vC W', W'.ownsRow w.heap.size 72 7 vC (m1 + m2) (xs1 ++ xs2) → Below w.heap.size w W' → Q .normal (((((((((((((((((((a.put (some 34) (.pointer (some ⟨r, 0, none⟩))).put (some 36) (.pointer (some ⟨r, 0, none⟩))).put (some 37) (.pointer (some ⟨r, 0, none⟩))).put (some 38) (.pointer (some ⟨r, 4, none⟩))).put (some 39) (.slice av N cv)).put (some 40) (.int .i64 (k : Int))).put (some 41) (S1)).put (some 43) (.pointer (some ⟨r, 0, none⟩))).put (some 44) (.pointer (some ⟨r, 0, none⟩))).put (some 45) (.pointer (some ⟨r, 4, none⟩))).put (some 46) (.slice av N cv)).put (some 47) (.int .i64 (k : Int))).put (some 48) (.int .i64 ((k : Int) + 1))).put (some 49) (S2)).put (some 35) vA).put (some 42) vB).put (some 50) vC).put (some 51) (.pointer (some ⟨r, 0, none⟩))).put (some 52) (.pointer (some ⟨r, 4, none⟩))) (W'.setCell ⟨r, 4, none⟩ vC)) :
    (Code.region id l1.toArray true).wp Try.prog Q a w := by
  obtain ⟨af, haf⟩ : ∃ af, af = ((((((((((((((a.put (some 34) (.pointer (some ⟨r, 0, none⟩))).put (some 36) (.pointer (some ⟨r, 0, none⟩))).put (some 37) (.pointer (some ⟨r, 0, none⟩))).put (some 38) (.pointer (some ⟨r, 4, none⟩))).put (some 39) (.slice av N cv)).put (some 40) (.int .i64 (k : Int))).put (some 41) (S1)).put (some 43) (.pointer (some ⟨r, 0, none⟩))).put (some 44) (.pointer (some ⟨r, 0, none⟩))).put (some 45) (.pointer (some ⟨r, 4, none⟩))).put (some 46) (.slice av N cv)).put (some 47) (.int .i64 (k : Int))).put (some 48) (.int .i64 ((k : Int) + 1))).put (some 49) (S2)) := ⟨_, rfl⟩
  rw [← haf] at fin
  have fsz : af.tmps.size = 61 := by rw [haf]; simp only [gput_sz]; exact hsz
  have f0 : af.tmps[0]? = some (.pointer (some ⟨r, 0, none⟩)) := by rw [haf]; rw [gput_ne (by decide), gput_ne (by decide), gput_ne (by decide), gput_ne (by decide), gput_ne (by decide), gput_ne (by decide), gput_ne (by decide), gput_ne (by decide), gput_ne (by decide), gput_ne (by decide), gput_ne (by decide), gput_ne (by decide), gput_ne (by decide), gput_ne (by decide)]; exact h0
  have f7 : af.tmps[7]? = some (.int .i64 (k : Int)) := by rw [haf]; rw [gput_ne (by decide), gput_ne (by decide), gput_ne (by decide), gput_ne (by decide), gput_ne (by decide), gput_ne (by decide), gput_ne (by decide), gput_ne (by decide), gput_ne (by decide), gput_ne (by decide), gput_ne (by decide), gput_ne (by decide), gput_ne (by decide), gput_ne (by decide)]; exact h7
  have f34 : af.tmps[34]? = some (.pointer (some ⟨r, 0, none⟩)) := by rw [haf]; rw [gput_ne (by decide), gput_ne (by decide), gput_ne (by decide), gput_ne (by decide), gput_ne (by decide), gput_ne (by decide), gput_ne (by decide), gput_ne (by decide), gput_ne (by decide), gput_ne (by decide), gput_ne (by decide), gput_ne (by decide), gput_ne (by decide), gput_at (by first | (rw [hsz]; decide) | (simp only [gput_sz]; rw [hsz]; decide))]
  have f36 : af.tmps[36]? = some (.pointer (some ⟨r, 0, none⟩)) := by rw [haf]; rw [gput_ne (by decide), gput_ne (by decide), gput_ne (by decide), gput_ne (by decide), gput_ne (by decide), gput_ne (by decide), gput_ne (by decide), gput_ne (by decide), gput_ne (by decide), gput_ne (by decide), gput_ne (by decide), gput_ne (by decide), gput_at (by first | (rw [hsz]; decide) | (simp only [gput_sz]; rw [hsz]; decide))]
  have f37 : af.tmps[37]? = some (.pointer (some ⟨r, 0, none⟩)) := by rw [haf]; rw [gput_ne (by decide), gput_ne (by decide), gput_ne (by decide), gput_ne (by decide), gput_ne (by decide), gput_ne (by decide), gput_ne (by decide), gput_ne (by decide), gput_ne (by decide), gput_ne (by decide), gput_ne (by decide), gput_at (by first | (rw [hsz]; decide) | (simp only [gput_sz]; rw [hsz]; decide))]
  have f38 : af.tmps[38]? = some (.pointer (some ⟨r, 4, none⟩)) := by rw [haf]; rw [gput_ne (by decide), gput_ne (by decide), gput_ne (by decide), gput_ne (by decide), gput_ne (by decide), gput_ne (by decide), gput_ne (by decide), gput_ne (by decide), gput_ne (by decide), gput_ne (by decide), gput_at (by first | (rw [hsz]; decide) | (simp only [gput_sz]; rw [hsz]; decide))]
  have f39 : af.tmps[39]? = some (.slice av N cv) := by rw [haf]; rw [gput_ne (by decide), gput_ne (by decide), gput_ne (by decide), gput_ne (by decide), gput_ne (by decide), gput_ne (by decide), gput_ne (by decide), gput_ne (by decide), gput_ne (by decide), gput_at (by first | (rw [hsz]; decide) | (simp only [gput_sz]; rw [hsz]; decide))]
  have f40 : af.tmps[40]? = some (.int .i64 (k : Int)) := by rw [haf]; rw [gput_ne (by decide), gput_ne (by decide), gput_ne (by decide), gput_ne (by decide), gput_ne (by decide), gput_ne (by decide), gput_ne (by decide), gput_ne (by decide), gput_at (by first | (rw [hsz]; decide) | (simp only [gput_sz]; rw [hsz]; decide))]
  have f41 : af.tmps[41]? = some (S1) := by rw [haf]; rw [gput_ne (by decide), gput_ne (by decide), gput_ne (by decide), gput_ne (by decide), gput_ne (by decide), gput_ne (by decide), gput_ne (by decide), gput_at (by first | (rw [hsz]; decide) | (simp only [gput_sz]; rw [hsz]; decide))]
  have f43 : af.tmps[43]? = some (.pointer (some ⟨r, 0, none⟩)) := by rw [haf]; rw [gput_ne (by decide), gput_ne (by decide), gput_ne (by decide), gput_ne (by decide), gput_ne (by decide), gput_ne (by decide), gput_at (by first | (rw [hsz]; decide) | (simp only [gput_sz]; rw [hsz]; decide))]
  have f44 : af.tmps[44]? = some (.pointer (some ⟨r, 0, none⟩)) := by rw [haf]; rw [gput_ne (by decide), gput_ne (by decide), gput_ne (by decide), gput_ne (by decide), gput_ne (by decide), gput_at (by first | (rw [hsz]; decide) | (simp only [gput_sz]; rw [hsz]; decide))]
  have f45 : af.tmps[45]? = some (.pointer (some ⟨r, 4, none⟩)) := by rw [haf]; rw [gput_ne (by decide), gput_ne (by decide), gput_ne (by decide), gput_ne (by decide), gput_at (by first | (rw [hsz]; decide) | (simp only [gput_sz]; rw [hsz]; decide))]
  have f46 : af.tmps[46]? = some (.slice av N cv) := by rw [haf]; rw [gput_ne (by decide), gput_ne (by decide), gput_ne (by decide), gput_at (by first | (rw [hsz]; decide) | (simp only [gput_sz]; rw [hsz]; decide))]
  have f47 : af.tmps[47]? = some (.int .i64 (k : Int)) := by rw [haf]; rw [gput_ne (by decide), gput_ne (by decide), gput_at (by first | (rw [hsz]; decide) | (simp only [gput_sz]; rw [hsz]; decide))]
  have f48 : af.tmps[48]? = some (.int .i64 ((k : Int) + 1)) := by rw [haf]; rw [gput_ne (by decide), gput_at (by first | (rw [hsz]; decide) | (simp only [gput_sz]; rw [hsz]; decide))]
  have f49 : af.tmps[49]? = some (S2) := by rw [haf]; rw [gput_at (by first | (rw [hsz]; decide) | (simp only [gput_sz]; rw [hsz]; decide))]
  have HS : Below w.heap.size w w.drew := (Below.refl _ _).drew
  refine wp_region_tail 17 (fun W => Below w.heap.size w W) (by kernel_rfl) hok ?_
  rw [hl1, hlast]
  have hput : putIdx af [o0, o1, o2, o3, o4, o5, o6, o7, o8, o9, o10, o11, o12, o13, o14, o15, o16].toArray [0, 2, 3, 4, 5, 6, 7, 9, 10, 11, 12, 13, 14, 15] a = af := by
    have e : putIdx af [o0, o1, o2, o3, o4, o5, o6, o7, o8, o9, o10, o11, o12, o13, o14, o15, o16].toArray [0, 2, 3, 4, 5, 6, 7, 9, 10, 11, 12, 13, 14, 15] a = ((((((((((((((a.put (some 34) (.pointer (some ⟨r, 0, none⟩))).put (some 36) (.pointer (some ⟨r, 0, none⟩))).put (some 37) (.pointer (some ⟨r, 0, none⟩))).put (some 38) (.pointer (some ⟨r, 4, none⟩))).put (some 39) (.slice av N cv)).put (some 40) (.int .i64 (k : Int))).put (some 41) (S1)).put (some 43) (.pointer (some ⟨r, 0, none⟩))).put (some 44) (.pointer (some ⟨r, 0, none⟩))).put (some 45) (.pointer (some ⟨r, 4, none⟩))).put (some 46) (.slice av N cv)).put (some 47) (.int .i64 (k : Int))).put (some 48) (.int .i64 ((k : Int) + 1))).put (some 49) (S2)) := by
      simp only [putIdx, List.getElem?_toArray, List.getElem?_cons_succ, List.getElem?_cons_zero, Option.bind_some, t0, t2, t3, t4, t5, t6, t7, t9, t10, t11, t12, t13, t14, t15, ggetD f34, ggetD f36, ggetD f37, ggetD f38, ggetD f39, ggetD f40, ggetD f41, ggetD f43, ggetD f44, ggetD f45, ggetD f46, ggetD f47, ggetD f48, ggetD f49]
    rw [e, haf]
  refine takes (P := Try.prog) (Q := tailQ Try.prog Q [o17, o18, o19]) (S := fun W => Below w.heap.size w W) (idx := [0, 2, 3, 4, 5, 6, 7, 9, 10, 11, 12, 13, 14, 15]) (af := af) (fuel := 3) hns (fun c a d v w h => hQ c a d v w h) HS _ _ htk hput ?_ ?_
  · refine ⟨⟨o0, 34, _, rfl, t0, f34, ?_⟩, ⟨o2, 36, _, rfl, t2, f36, ?_⟩, ⟨o3, 37, _, rfl, t3, f37, ?_⟩, ⟨o4, 38, _, rfl, t4, f38, ?_⟩, ⟨o5, 39, _, rfl, t5, f39, ?_⟩, ⟨o6, 40, _, rfl, t6, f40, ?_⟩, ⟨o7, 41, _, rfl, t7, f41, ?_⟩, ⟨o9, 43, _, rfl, t9, f43, ?_⟩, ⟨o10, 44, _, rfl, t10, f44, ?_⟩, ⟨o11, 45, _, rfl, t11, f45, ?_⟩, ⟨o12, 46, _, rfl, t12, f46, ?_⟩, ⟨o13, 47, _, rfl, t13, f47, ?_⟩, ⟨o14, 48, _, rfl, t14, f48, ?_⟩, ⟨o15, 49, _, rfl, t15, f49, ?_⟩, trivial⟩
    · intro W hW
      have k4 := (hW.cell (p := ⟨r, 4, none⟩) (gcell_lt c4)).trans c4
      clear fin haf hput htk hns hok fsz hsz hQ rn rA rB rE h0 h7 c4 fz HS hs1 hs2 src1 src2
      obtain ⟨d, op, ty, pos, aft, gd⟩ := o0
      simp only at p0
      subst p0
      go_simp
    · intro W hW
      have k4 := (hW.cell (p := ⟨r, 4, none⟩) (gcell_lt c4)).trans c4
      clear fin haf hput htk hns hok fsz hsz hQ rn rA rB rE h0 h7 c4 fz HS hs1 hs2 src1 src2
      obtain ⟨d, op, ty, pos, aft, gd⟩ := o2
      simp only at p2
      subst p2
      go_simp
    · intro W hW
      have k4 := (hW.cell (p := ⟨r, 4, none⟩) (gcell_lt c4)).trans c4
      clear fin haf hput htk hns hok fsz hsz hQ rn rA rB rE h0 h7 c4 fz HS hs1 hs2 src1 src2
      obtain ⟨d, op, ty, pos, aft, gd⟩ := o3
      simp only at p3
      subst p3
      go_simp
    · intro W hW
      have k4 := (hW.cell (p := ⟨r, 4, none⟩) (gcell_lt c4)).trans c4
      clear fin haf hput htk hns hok fsz hsz hQ rn rA rB rE h0 h7 c4 fz HS hs1 hs2 src1 src2
      obtain ⟨d, op, ty, pos, aft, gd⟩ := o4
      simp only at p4
      subst p4
      go_simp
    · intro W hW
      have k4 := (hW.cell (p := ⟨r, 4, none⟩) (gcell_lt c4)).trans c4
      clear fin haf hput htk hns hok fsz hsz hQ rn rA rB rE h0 h7 c4 fz HS hs1 hs2 src1 src2
      obtain ⟨d, op, ty, pos, aft, gd⟩ := o5
      simp only at p5
      subst p5
      go_simp
    · intro W hW
      have k4 := (hW.cell (p := ⟨r, 4, none⟩) (gcell_lt c4)).trans c4
      clear fin haf hput htk hns hok fsz hsz hQ rn rA rB rE h0 h7 c4 fz HS hs1 hs2 src1 src2
      obtain ⟨d, op, ty, pos, aft, gd⟩ := o6
      simp only at p6
      subst p6
      go_simp
    · intro W hW
      have k4 := (hW.cell (p := ⟨r, 4, none⟩) (gcell_lt c4)).trans c4
      exact hs1 af W f39 f40
    · intro W hW
      have k4 := (hW.cell (p := ⟨r, 4, none⟩) (gcell_lt c4)).trans c4
      clear fin haf hput htk hns hok fsz hsz hQ rn rA rB rE h0 h7 c4 fz HS hs1 hs2 src1 src2
      obtain ⟨d, op, ty, pos, aft, gd⟩ := o9
      simp only at p9
      subst p9
      go_simp
    · intro W hW
      have k4 := (hW.cell (p := ⟨r, 4, none⟩) (gcell_lt c4)).trans c4
      clear fin haf hput htk hns hok fsz hsz hQ rn rA rB rE h0 h7 c4 fz HS hs1 hs2 src1 src2
      obtain ⟨d, op, ty, pos, aft, gd⟩ := o10
      simp only at p10
      subst p10
      go_simp
    · intro W hW
      have k4 := (hW.cell (p := ⟨r, 4, none⟩) (gcell_lt c4)).trans c4
      clear fin haf hput htk hns hok fsz hsz hQ rn rA rB rE h0 h7 c4 fz HS hs1 hs2 src1 src2
      obtain ⟨d, op, ty, pos, aft, gd⟩ := o11
      simp only at p11
      subst p11
      go_simp
    · intro W hW
      have k4 := (hW.cell (p := ⟨r, 4, none⟩) (gcell_lt c4)).trans c4
      clear fin haf hput htk hns hok fsz hsz hQ rn rA rB rE h0 h7 c4 fz HS hs1 hs2 src1 src2
      obtain ⟨d, op, ty, pos, aft, gd⟩ := o12
      simp only at p12
      subst p12
      go_simp
    · intro W hW
      have k4 := (hW.cell (p := ⟨r, 4, none⟩) (gcell_lt c4)).trans c4
      clear fin haf hput htk hns hok fsz hsz hQ rn rA rB rE h0 h7 c4 fz HS hs1 hs2 src1 src2
      obtain ⟨d, op, ty, pos, aft, gd⟩ := o13
      simp only at p13
      subst p13
      go_simp
    · intro W hW
      have k4 := (hW.cell (p := ⟨r, 4, none⟩) (gcell_lt c4)).trans c4
      clear fin haf hput htk hns hok fsz hsz hQ rn rA rB rE h0 h7 c4 fz HS hs1 hs2 src1 src2
      obtain ⟨d, op, ty, pos, aft, gd⟩ := o14
      simp only at p14
      subst p14
      go_simp
      rw [IntKind.wrap_i64]
      omega
    · intro W hW
      have k4 := (hW.cell (p := ⟨r, 4, none⟩) (gcell_lt c4)).trans c4
      exact hs2 af W f46 f48
  have em : markIdx [0, 2, 3, 4, 5, 6, 7, 9, 10, 11, 12, 13, 14, 15] (Array.replicate [o0, o1, o2, o3, o4, o5, o6, o7, o8, o9, o10, o11, o12, o13, o14, o15, o16].length false) = #[true, false, true, true, true, true, true, true, false, true, true, true, true, true, true, true, false] := by kernel_rfl
  rw [em]
  refine gtail_row eltMr (iA := 1) (iB := 8) (dA := 35) (dB := 42) (dv := 41) (fuel := 1) (m := m1) (xs := xs1) (w0 := w) (oA := o1) (oB := o8) rfl rfl g1 g8 (run_m0 p1) p8 t1 t8 rn rA (by decide) (by rw [fsz]; decide) f41 src1 xl1 xo1 (by omega) HS ?_
  intro vA vB W hW hB
  have q42 : ((af.put (some 35) vA).put (some 42) vB).tmps[42]? = some vB := gput_at (by rw [gput_sz, fsz]; decide)
  have q49 : ((af.put (some 35) vA).put (some 42) vB).tmps[49]? = some S2 := by rw [gput_ne (by decide), gput_ne (by decide)]; exact f49
  have q34 : ((af.put (some 35) vA).put (some 42) vB).tmps[34]? = some (.pointer (some ⟨r, 0, none⟩)) := by rw [gput_ne (by decide), gput_ne (by decide)]; exact f34
  have qsz : ((af.put (some 35) vA).put (some 42) vB).tmps.size = 61 := by rw [gput_sz, gput_sz, fsz]
  have fin2 := fin vA vB
  generalize (af.put (some 35) vA).put (some 42) vB = b3 at *
  refine gtail_more eltMr (iB := 16) (dA := 42) (dv := 49) (dB := 50) (fuel := 0) (oB := o16) (w0 := w) rfl g16 p16 t16 rB q42 q49 hB src2 xl2 xo2 (by omega) hW ?_
  intro vC W2 hW2 hC
  have s34 : (b3.put (some 50) vC).tmps[34]? = some (.pointer (some ⟨r, 0, none⟩)) := (gput_ne (by decide)).trans q34
  exact gfin_store3 rE p17 t17 p18 t18 p19 t19 s34 (gput_at (by rw [qsz]; decide)) (by decide) (by decide) (by rw [gput_sz, qsz]; decide) (by rw [gput_sz, qsz]; decide) hC ((hW2.cell (p := ⟨r, 4, none⟩) (gcell_lt c4)).trans c4) (fz W2 hW2) (fin2 vC W2 hC hW2)


end Go.Proofs.Ytilahfomiofgcaa
