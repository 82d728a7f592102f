/- The law's step: rows with one thing more, in whatever order the operations come. (Written by wip/tools/ustep.py.) -/
import Derived.Test.YtimmjhegeagofabUReg
namespace Go.Proofs.Ytimmjhegeagofab
open Go.RowKit
set_option maxRecDepth 100000

theorem eltC : Elt 51 27 3 24 (.agg #[.int .i64 0, .int .i64 0, .int .i64 0]) := ⟨Try.underlying51, by kernel_rfl, rfl, by decide, by decide⟩
theorem eltU : Elt 52 28 1 8 (.int .u64 0) := ⟨Try.underlying52, by kernel_rfl, rfl, by decide, by decide⟩
/-- all are done: the last ones store the row -/
theorem sfin_c {ops : Array Oper} {Q : Exit → Act → World → Prop} {S : World → Prop} {oX oL : Oper} {dx d fuel r l c : Nat} {listed : Array Bool} {a : Act} {W : World} {ad : Option Addr} {u : Value}
    (rE : Region.ready .any ops listed = []) (pX : oX.op = .fieldAddr 54 (.tmp 2) 1) (tX : oX.dst = some dx) (pL : oL.op = .store 51 (.tmp dx) (.tmp d)) (tL : oL.dst = none) (hp : a.tmps[2]? = some (.pointer (some ⟨r, 0, none⟩))) (hD : a.tmps[d]? = some (.slice ad l c)) (n1 : dx ≠ d) (s1 : dx < a.tmps.size) (hc : W.cell? ⟨r, 2, none⟩ = some u) (hf : W.frozen? ⟨r, 2, none⟩ = false)
    (h : Q .normal (a.put (some dx) (.pointer (some ⟨r, 2, none⟩))) (W.setCell ⟨r, 2, none⟩ (.slice ad l c))) :
    wpAnyH Try.prog .any ops (tailQ Try.prog Q [oX, oL]) S fuel listed a W := by
  refine wpAnyH_done rE ?_ _
  refine tailQ_of _ _ _ ?_
  unfold tailWp
  intro K hK
  have hrun : (execOp a.eval oX).run Try.prog W = .ok (.value (.pointer (some ⟨r, 2, none⟩))) W := by
    obtain ⟨dd, op, ty, pos, aft, g⟩ := oX
    simp only at pX
    subst pX
    clear h rE tL hK
    go_simp
  unfold Oper.wp
  rw [hrun]
  refine hK _ _ ?_
  clear hK hrun
  rw [tX]
  have y1 : (a.put (some dx) (.pointer (some ⟨r, 2, none⟩))).tmps[dx]? = some (.pointer (some ⟨r, 2, none⟩)) := gput_at s1
  have y2 : (a.put (some dx) (.pointer (some ⟨r, 2, none⟩))).tmps[d]? = some (.slice ad l c) := (gput_ne n1).trans hD
  generalize a.put (some dx) (.pointer (some ⟨r, 2, none⟩)) = a2 at *
  unfold tailWp
  intro K hK
  have hrun : (execOp a2.eval oL).run Try.prog W = .ok .skip (W.setCell ⟨r, 2, none⟩ (.slice ad l c)) := by
    obtain ⟨dd, op, ty, pos, aft, g⟩ := oL
    simp only at pL
    subst pL
    clear h rE tL hK hp hD s1
    go_simp
  unfold Oper.wp
  rw [hrun]
  refine hK _ _ ?_
  unfold tailWp
  show Q .normal (a2.put oL.dst undef) _
  rw [tL]
  exact h
/-- all are done: the last ones store the row -/
theorem sfin_s {ops : Array Oper} {Q : Exit → Act → World → Prop} {S : World → Prop} {oX oL : Oper} {dx d fuel r l c : Nat} {listed : Array Bool} {a : Act} {W : World} {ad : Option Addr} {u : Value}
    (rE : Region.ready .any ops listed = []) (pX : oX.op = .fieldAddr 54 (.tmp 2) 2) (tX : oX.dst = some dx) (pL : oL.op = .store 52 (.tmp dx) (.tmp d)) (tL : oL.dst = none) (hp : a.tmps[2]? = some (.pointer (some ⟨r, 0, none⟩))) (hD : a.tmps[d]? = some (.slice ad l c)) (n1 : dx ≠ d) (s1 : dx < a.tmps.size) (hc : W.cell? ⟨r, 3, none⟩ = some u) (hf : W.frozen? ⟨r, 3, none⟩ = false)
    (h : Q .normal (a.put (some dx) (.pointer (some ⟨r, 3, none⟩))) (W.setCell ⟨r, 3, none⟩ (.slice ad l c))) :
    wpAnyH Try.prog .any ops (tailQ Try.prog Q [oX, oL]) S fuel listed a W := by
  refine wpAnyH_done rE ?_ _
  refine tailQ_of _ _ _ ?_
  unfold tailWp
  intro K hK
  have hrun : (execOp a.eval oX).run Try.prog W = .ok (.value (.pointer (some ⟨r, 3, none⟩))) W := by
    obtain ⟨dd, op, ty, pos, aft, g⟩ := oX
    simp only at pX
    subst pX
    clear h rE tL hK
    go_simp
  unfold Oper.wp
  rw [hrun]
  refine hK _ _ ?_
  clear hK hrun
  rw [tX]
  have y1 : (a.put (some dx) (.pointer (some ⟨r, 3, none⟩))).tmps[dx]? = some (.pointer (some ⟨r, 3, none⟩)) := gput_at s1
  have y2 : (a.put (some dx) (.pointer (some ⟨r, 3, none⟩))).tmps[d]? = some (.slice ad l c) := (gput_ne n1).trans hD
  generalize a.put (some dx) (.pointer (some ⟨r, 3, none⟩)) = a2 at *
  unfold tailWp
  intro K hK
  have hrun : (execOp a2.eval oL).run Try.prog W = .ok .skip (W.setCell ⟨r, 3, none⟩ (.slice ad l c)) := by
    obtain ⟨dd, op, ty, pos, aft, g⟩ := oL
    simp only at pL
    subst pL
    clear h rE tL hK hp hD s1
    go_simp
  unfold Oper.wp
  rw [hrun]
  refine hK _ _ ?_
  unfold tailWp
  show Q .normal (a2.put oL.dst undef) _
  rw [tL]
  exact h
/-- all are done: the last ones store the row -/
theorem sfin_t {ops : Array Oper} {Q : Exit → Act → World → Prop} {S : World → Prop} {oX oL : Oper} {dx d fuel r l c : Nat} {listed : Array Bool} {a : Act} {W : World} {ad : Option Addr} {u : Value}
    (rE : Region.ready .any ops listed = []) (pX : oX.op = .fieldAddr 54 (.tmp 2) 3) (tX : oX.dst = some dx) (pL : oL.op = .store 23 (.tmp dx) (.tmp d)) (tL : oL.dst = none) (hp : a.tmps[2]? = some (.pointer (some ⟨r, 0, none⟩))) (hD : a.tmps[d]? = some (.slice ad l c)) (n1 : dx ≠ d) (s1 : dx < a.tmps.size) (hc : W.cell? ⟨r, 4, none⟩ = some u) (hf : W.frozen? ⟨r, 4, none⟩ = false)
    (h : Q .normal (a.put (some dx) (.pointer (some ⟨r, 4, none⟩))) (W.setCell ⟨r, 4, none⟩ (.slice ad l c))) :
    wpAnyH Try.prog .any ops (tailQ Try.prog Q [oX, oL]) S fuel listed a W := by
  refine wpAnyH_done rE ?_ _
  refine tailQ_of _ _ _ ?_
  unfold tailWp
  intro K hK
  have hrun : (execOp a.eval oX).run Try.prog W = .ok (.value (.pointer (some ⟨r, 4, none⟩))) W := by
    obtain ⟨dd, op, ty, pos, aft, g⟩ := oX
    simp only at pX
    subst pX
    clear h rE tL hK
    go_simp
  unfold Oper.wp
  rw [hrun]
  refine hK _ _ ?_
  clear hK hrun
  rw [tX]
  have y1 : (a.put (some dx) (.pointer (some ⟨r, 4, none⟩))).tmps[dx]? = some (.pointer (some ⟨r, 4, none⟩)) := gput_at s1
  have y2 : (a.put (some dx) (.pointer (some ⟨r, 4, none⟩))).tmps[d]? = some (.slice ad l c) := (gput_ne n1).trans hD
  generalize a.put (some dx) (.pointer (some ⟨r, 4, none⟩)) = a2 at *
  unfold tailWp
  intro K hK
  have hrun : (execOp a2.eval oL).run Try.prog W = .ok .skip (W.setCell ⟨r, 4, none⟩ (.slice ad l c)) := by
    obtain ⟨dd, op, ty, pos, aft, g⟩ := oL
    simp only at pL
    subst pL
    clear h rE tL hK hp hD s1
    go_simp
  unfold Oper.wp
  rw [hrun]
  refine hK _ _ ?_
  unfold tailWp
  show Q .normal (a2.put oL.dst undef) _
  rw [tL]
  exact h
theorem run_c0 {o : Oper} (hop : o.op = .buildSlice 51 0 #[]) (a : Act) (W : World) : (execOp a.eval o).run Try.prog W = .ok (.value (.slice (some ⟨W.heap.size, 0, none⟩) 0 0)) (W.alloc (.cells #[] 27)) := by
  obtain ⟨d, op, ty, pos, aft, gd⟩ := o
  simp only at hop
  subst hop
  go_simp
theorem run_u0 {o : Oper} (hop : o.op = .buildSlice 52 0 #[]) (a : Act) (W : World) : (execOp a.eval o).run Try.prog W = .ok (.value (.slice (some ⟨W.heap.size, 0, none⟩) 0 0)) (W.alloc (.cells #[] 28)) := by
  obtain ⟨d, op, ty, pos, aft, gd⟩ := o
  simp only at hop
  subst hop
  go_simp
theorem run_p0 {o : Oper} (hop : o.op = .buildSlice 23 0 #[]) (a : Act) (W : World) : (execOp a.eval o).run Try.prog W = .ok (.value (.slice (some ⟨W.heap.size, 0, none⟩) 0 0)) (W.alloc (.cells #[] 40)) := by
  obtain ⟨d, op, ty, pos, aft, gd⟩ := o
  simp only at hop
  subst hop
  go_simp
theorem run_c1 {o : Oper} {t : Nat} {x0 x1 x2 : Int} (hop : o.op = .buildSlice 51 1 #[(0, .tmp t)]) (a : Act) (W : World) (hx : a.tmps[t]? = some (.agg #[.int .i64 x0, .int .i64 x1, .int .i64 x2])) : (execOp a.eval o).run Try.prog W = .ok (.value (.slice (some ⟨W.heap.size, 0, none⟩) 1 1)) (W.alloc (.cells [.int .i64 x0, .int .i64 x1, .int .i64 x2].toArray 27)) := by
  obtain ⟨d, op, ty, pos, aft, gd⟩ := o
  simp only at hop
  subst hop
  go_simp
theorem run_u1 {o : Oper} {t : Nat} {x0 : Int} (hop : o.op = .buildSlice 52 1 #[(0, .tmp t)]) (a : Act) (W : World) (hx : a.tmps[t]? = some (.int .u64 x0)) : (execOp a.eval o).run Try.prog W = .ok (.value (.slice (some ⟨W.heap.size, 0, none⟩) 1 1)) (W.alloc (.cells [.int .u64 x0].toArray 28)) := by
  obtain ⟨d, op, ty, pos, aft, gd⟩ := o
  simp only at hop
  subst hop
  go_simp
theorem run_p1 {o : Oper} {t : Nat} {x0 x1 x2 x3 : Int} (hop : o.op = .buildSlice 23 1 #[(0, .tmp t)]) (a : Act) (W : World) (hx : a.tmps[t]? = some (.agg #[.int .i64 x0, .int .i64 x1, .int .i64 x2, .int .u64 x3])) : (execOp a.eval o).run Try.prog W = .ok (.value (.slice (some ⟨W.heap.size, 0, none⟩) 1 1)) (W.alloc (.cells [.int .i64 x0, .int .i64 x1, .int .i64 x2, .int .u64 x3].toArray 40)) := by
  obtain ⟨d, op, ty, pos, aft, gd⟩ := o
  simp only at hop
  subst hop
  go_simp
set_option maxHeartbeats 2000000 in
theorem snoc_c {id : Nat} {Q : Exit → Act → World → Prop} {a : Act} {w : World} {l1 : List Oper} {o0 o1 o2 o3 o4 o5 o6 o7 o8 : Oper} {r s N cv : Nat} {av : Option Addr} {x0 x1 x2 : Int} {xs1 : List Value} (hl1 : l1.take 7 = [o0, o1, o2, o3, o4, o5, o6]) (hlast : l1.drop 7 = [o7, o8])
    (hok : tailOk (l1.take 7) (l1.drop 7) = true) (hns : Region.noSelect [o0, o1, o2, o3, o4, o5, o6].toArray = true) (htk : takesOk [o0, o1, o2, o3, o4, o5, o6].toArray [1, 2, 4] (Array.replicate 7 false) = true)
    (p0 : o0.op = .buildSlice 51 0 #[]) (p1 : o1.op = .fieldAddr 54 (.tmp 2) 1) (p2 : o2.op = .load 51 (.tmp 37)) (p3 : o3.op = .call { callee := .builtin .append, args := #[.tmp 36, .tmp 38], argTypes := #[51, 51] }) (p4 : o4.op = .load 27 (.tmp 6)) (p5 : o5.op = .buildSlice 51 1 #[(0, .tmp 40)]) (p6 : o6.op = .call { callee := .builtin .append, args := #[.tmp 39, .tmp 41], argTypes := #[51, 51] }) (p7 : o7.op = .fieldAddr 54 (.tmp 2) 1) (p8 : o8.op = .store 51 (.tmp 43) (.tmp 42))
    (g0 : o0.guard = none) (g3 : o3.guard = none) (g5 : o5.guard = none) (g6 : o6.guard = none)
    (t0 : o0.dst = some 36) (t1 : o1.dst = some 37) (t2 : o2.dst = some 38) (t3 : o3.dst = some 39) (t4 : o4.dst = some 40) (t5 : o5.dst = some 41) (t6 : o6.dst = some 42) (t7 : o7.dst = some 43) (t8 : o8.dst = none)
    (hsz : a.tmps.size = 211)
    (h2 : a.tmps[2]? = some (.pointer (some ⟨r, 0, none⟩))) (h6 : a.tmps[6]? = some (.pointer (some ⟨s, 0, none⟩))) (e0 : w.cell? ⟨s, 0, none⟩ = some (.int .i64 x0)) (e1 : w.cell? ⟨s, 1, none⟩ = some (.int .i64 x1)) (e2 : w.cell? ⟨s, 2, none⟩ = some (.int .i64 x2)) (c2 : w.cell? ⟨r, 2, none⟩ = some (.slice av N cv)) (fz : ∀ W, Below w.heap.size w W → W.frozen? ⟨r, 2, none⟩ = false)
    (src1 : Src w (.slice av N cv) N xs1) (xl1 : xs1.length = N * 3) (xo1 : ∀ y ∈ xs1, y.oneCell' = true) (hbd : N ≤ 1000)
    (rn : Region.ready .any [o0, o1, o2, o3, o4, o5, o6].toArray (#[false, true, true, false, true, false, false] : Array Bool) = [0, 5]) (rA : Region.ready .any [o0, o1, o2, o3, o4, o5, o6].toArray ((#[false, true, true, false, true, false, false] : Array Bool).setIfInBounds 0 true) = [3, 5]) (rC : Region.ready .any [o0, o1, o2, o3, o4, o5, o6].toArray ((#[false, true, true, false, true, false, false] : Array Bool).setIfInBounds 5 true) = [0]) (rAB : Region.ready .any [o0, o1, o2, o3, o4, o5, o6].toArray (((#[false, true, true, false, true, false, false] : Array Bool).setIfInBounds 0 true).setIfInBounds 3 true) = [5]) (rAC : Region.ready .any [o0, o1, o2, o3, o4, o5, o6].toArray (((#[false, true, true, false, true, false, false] : Array Bool).setIfInBounds 0 true).setIfInBounds 5 true) = [3]) (rCA : Region.ready .any [o0, o1, o2, o3, o4, o5, o6].toArray (((#[false, true, true, false, true, false, false] : Array Bool).setIfInBounds 5 true).setIfInBounds 0 true) = [3]) (rABC : Region.ready .any [o0, o1, o2, o3, o4, o5, o6].toArray ((((#[false, true, true, false, true, false, false] : Array Bool).setIfInBounds 0 true).setIfInBounds 3 true).setIfInBounds 5 true) = [6]) (rE : Region.ready .any [o0, o1, o2, o3, o4, o5, o6].toArray (((((#[false, true, true, false, true, false, false] : Array Bool).setIfInBounds 0 true).setIfInBounds 3 true).setIfInBounds 5 true).setIfInBounds 6 true) = [])
    (hQ : ∀ c a d v w, Q (.panic c) (Act.put a d v) w → Q (.panic c) a w)
    (fin : ∀ vA vB vC ad c W', W'.ownsRow w.heap.size 27 3 (.slice ad (N + 1) c) (N + 1) (xs1 ++ [.int .i64 x0, .int .i64 x1, .int .i64 x2]) → Below w.heap.size w W' → Q .normal ((((((((a.put (some 37) (.pointer (some ⟨r, 2, none⟩))).put (some 38) (.slice av N cv)).put (some 40) (.agg #[.int .i64 x0, .int .i64 x1, .int .i64 x2])).put (some 36) vA).put (some 39) vB).put (some 41) vC).put (some 42) (.slice ad (N + 1) c)).put (some 43) (.pointer (some ⟨r, 2, none⟩))) (W'.setCell ⟨r, 2, none⟩ (.slice ad (N + 1) c))) :
    (Code.region id l1.toArray true).wp Try.prog Q a w := by
  obtain ⟨af, haf⟩ : ∃ af, af = (((a.put (some 37) (.pointer (some ⟨r, 2, none⟩))).put (some 38) (.slice av N cv)).put (some 40) (.agg #[.int .i64 x0, .int .i64 x1, .int .i64 x2])) := ⟨_, rfl⟩
  rw [← haf] at fin
  have fsz : af.tmps.size = 211 := by rw [haf]; simp only [gput_sz]; exact hsz
  have k2 : af.tmps[2]? = some (.pointer (some ⟨r, 0, none⟩)) := by rw [haf]; rw [gput_ne (by decide), gput_ne (by decide), gput_ne (by decide)]; exact h2
  have k6 : af.tmps[6]? = some (.pointer (some ⟨s, 0, none⟩)) := by rw [haf]; rw [gput_ne (by decide), gput_ne (by decide), gput_ne (by decide)]; exact h6
  have f37 : af.tmps[37]? = some (.pointer (some ⟨r, 2, none⟩)) := by rw [haf]; rw [gput_ne (by decide), gput_ne (by decide), gput_at (by first | (rw [hsz]; decide) | (simp only [gput_sz]; rw [hsz]; decide))]
  have f38 : af.tmps[38]? = some (.slice av N cv) := by rw [haf]; rw [gput_ne (by decide), gput_at (by first | (rw [hsz]; decide) | (simp only [gput_sz]; rw [hsz]; decide))]
  have f40 : af.tmps[40]? = some (.agg #[.int .i64 x0, .int .i64 x1, .int .i64 x2]) := by rw [haf]; rw [gput_at (by first | (rw [hsz]; decide) | (simp only [gput_sz]; rw [hsz]; decide))]
  have HS : Below w.heap.size w w.drew := (Below.refl _ _).drew
  refine wp_region_tail 7 (fun W => Below w.heap.size w W) (by kernel_rfl) hok ?_
  rw [hl1, hlast]
  have hput : putIdx af [o0, o1, o2, o3, o4, o5, o6].toArray [1, 2, 4] a = af := by
    have e : putIdx af [o0, o1, o2, o3, o4, o5, o6].toArray [1, 2, 4] a = (((a.put (some 37) (.pointer (some ⟨r, 2, none⟩))).put (some 38) (.slice av N cv)).put (some 40) (.agg #[.int .i64 x0, .int .i64 x1, .int .i64 x2])) := by
      simp only [putIdx, List.getElem?_toArray, List.getElem?_cons_succ, List.getElem?_cons_zero, Option.bind_some, t1, t2, t4, ggetD f37, ggetD f38, ggetD f40]
    rw [e, haf]
  refine takes (P := Try.prog) (Q := tailQ Try.prog Q [o7, o8]) (S := fun W => Below w.heap.size w W) (idx := [1, 2, 4]) (af := af) (fuel := 4) hns (fun c a d v w h => hQ c a d v w h) HS _ _ htk hput ?_ ?_
  · refine ⟨⟨o1, 37, _, rfl, t1, f37, ?_⟩, ⟨o2, 38, _, rfl, t2, f38, ?_⟩, ⟨o4, 40, _, rfl, t4, f40, ?_⟩, trivial⟩
    · intro W hW
      have kF := (hW.cell (p := ⟨r, 2, none⟩) (gcell_lt c2)).trans c2
      have m0 := (hW.cell (p := ⟨s, 0, none⟩) (gcell_lt e0)).trans e0
      have m1 := (hW.cell (p := ⟨s, 1, none⟩) (gcell_lt e1)).trans e1
      have m2 := (hW.cell (p := ⟨s, 2, none⟩) (gcell_lt e2)).trans e2
      clear fin haf hput htk hns hok fsz hsz hQ hl1 hlast fz src1 xl1 xo1 hbd
      obtain ⟨d, op, ty, pos, aft, gd⟩ := o1
      simp only at p1
      subst p1
      go_simp
    · intro W hW
      have kF := (hW.cell (p := ⟨r, 2, none⟩) (gcell_lt c2)).trans c2
      have m0 := (hW.cell (p := ⟨s, 0, none⟩) (gcell_lt e0)).trans e0
      have m1 := (hW.cell (p := ⟨s, 1, none⟩) (gcell_lt e1)).trans e1
      have m2 := (hW.cell (p := ⟨s, 2, none⟩) (gcell_lt e2)).trans e2
      clear fin haf hput htk hns hok fsz hsz hQ hl1 hlast fz src1 xl1 xo1 hbd
      obtain ⟨d, op, ty, pos, aft, gd⟩ := o2
      simp only at p2
      subst p2
      go_simp
    · intro W hW
      have kF := (hW.cell (p := ⟨r, 2, none⟩) (gcell_lt c2)).trans c2
      have m0 := (hW.cell (p := ⟨s, 0, none⟩) (gcell_lt e0)).trans e0
      have m1 := (hW.cell (p := ⟨s, 1, none⟩) (gcell_lt e1)).trans e1
      have m2 := (hW.cell (p := ⟨s, 2, none⟩) (gcell_lt e2)).trans e2
      clear fin haf hput htk hns hok fsz hsz hQ hl1 hlast fz src1 xl1 xo1 hbd
      obtain ⟨d, op, ty, pos, aft, gd⟩ := o4
      simp only at p4
      subst p4
      go_simp
  have em : markIdx [1, 2, 4] (Array.replicate [o0, o1, o2, o3, o4, o5, o6].length false) = #[false, true, true, false, true, false, false] := by kernel_rfl
  rw [em]
  refine gtail_snoc eltC (iA := 0) (iB := 3) (iC := 5) (iD := 6) (dA := 36) (dB := 39) (dC := 41) (dD := 42) (dv := 38) (dx := 40) (fuel := 0) (m := N) (xs := xs1) (ys := [.int .i64 x0, .int .i64 x1, .int .i64 x2]) (w0 := w) (oA := o0) (oB := o3) (oC := o5) (oD := o6) rfl rfl rfl rfl g0 g3 g5 g6 (fun a W => run_c0 p0 a W) p3 (fun a W hx => run_c1 p5 a W hx) p6 t0 t3 t5 t6 rn rA rC rAB rAC rCA rABC (by decide) (by decide) (by rw [fsz]; decide) f38 f40 src1 xl1 xo1 rfl (by simp [Value.oneCell']) (by omega) HS ?_
  intro vA vB vC vD W hW hD
  obtain ⟨ad, c, rfl⟩ := own_form2 hD
  have q1 : ((((af.put (some 36) vA).put (some 39) vB).put (some 41) vC).put (some 42) (.slice ad (N + 1) c)).tmps[42]? = some (.slice ad (N + 1) c) := gput_at (by rw [gput_sz, gput_sz, gput_sz, fsz]; decide)
  have q2 : ((((af.put (some 36) vA).put (some 39) vB).put (some 41) vC).put (some 42) (.slice ad (N + 1) c)).tmps[2]? = some (.pointer (some ⟨r, 0, none⟩)) := by rw [gput_ne (by decide), gput_ne (by decide), gput_ne (by decide), gput_ne (by decide)]; exact k2
  have qsz : ((((af.put (some 36) vA).put (some 39) vB).put (some 41) vC).put (some 42) (.slice ad (N + 1) c)).tmps.size = 211 := by rw [gput_sz, gput_sz, gput_sz, gput_sz, fsz]
  exact sfin_c rE p7 t7 p8 t8 q2 q1 (by decide) (by rw [qsz]; decide) ((hW.cell (p := ⟨r, 2, none⟩) (gcell_lt c2)).trans c2) (fz W hW) (fin vA vB vC ad c W hD hW)

set_option maxHeartbeats 2000000 in
theorem snoc_t {id : Nat} {Q : Exit → Act → World → Prop} {a : Act} {w : World} {l1 : List Oper} {o0 o1 o2 o3 o4 o5 o6 o7 o8 : Oper} {r s N cv : Nat} {av : Option Addr} {x0 x1 x2 x3 : Int} {xs1 : List Value} (hl1 : l1.take 7 = [o0, o1, o2, o3, o4, o5, o6]) (hlast : l1.drop 7 = [o7, o8])
    (hok : tailOk (l1.take 7) (l1.drop 7) = true) (hns : Region.noSelect [o0, o1, o2, o3, o4, o5, o6].toArray = true) (htk : takesOk [o0, o1, o2, o3, o4, o5, o6].toArray [1, 2, 4] (Array.replicate 7 false) = true)
    (p0 : o0.op = .buildSlice 23 0 #[]) (p1 : o1.op = .fieldAddr 54 (.tmp 2) 3) (p2 : o2.op = .load 23 (.tmp 156)) (p3 : o3.op = .call { callee := .builtin .append, args := #[.tmp 155, .tmp 157], argTypes := #[23, 23] }) (p4 : o4.op = .load 40 (.tmp 13)) (p5 : o5.op = .buildSlice 23 1 #[(0, .tmp 159)]) (p6 : o6.op = .call { callee := .builtin .append, args := #[.tmp 158, .tmp 160], argTypes := #[23, 23] }) (p7 : o7.op = .fieldAddr 54 (.tmp 2) 3) (p8 : o8.op = .store 23 (.tmp 162) (.tmp 161))
    (g0 : o0.guard = none) (g3 : o3.guard = none) (g5 : o5.guard = none) (g6 : o6.guard = none)
    (t0 : o0.dst = some 155) (t1 : o1.dst = some 156) (t2 : o2.dst = some 157) (t3 : o3.dst = some 158) (t4 : o4.dst = some 159) (t5 : o5.dst = some 160) (t6 : o6.dst = some 161) (t7 : o7.dst = some 162) (t8 : o8.dst = none)
    (hsz : a.tmps.size = 211)
    (h2 : a.tmps[2]? = some (.pointer (some ⟨r, 0, none⟩))) (h13 : a.tmps[13]? = some (.pointer (some ⟨s, 0, none⟩))) (e0 : w.cell? ⟨s, 0, none⟩ = some (.int .i64 x0)) (e1 : w.cell? ⟨s, 1, none⟩ = some (.int .i64 x1)) (e2 : w.cell? ⟨s, 2, none⟩ = some (.int .i64 x2)) (e3 : w.cell? ⟨s, 3, none⟩ = some (.int .u64 x3)) (c2 : w.cell? ⟨r, 4, none⟩ = some (.slice av N cv)) (fz : ∀ W, Below w.heap.size w W → W.frozen? ⟨r, 4, none⟩ = false)
    (src1 : Src w (.slice av N cv) N xs1) (xl1 : xs1.length = N * 4) (xo1 : ∀ y ∈ xs1, y.oneCell' = true) (hbd : N ≤ 1000)
    (rn : Region.ready .any [o0, o1, o2, o3, o4, o5, o6].toArray (#[false, true, true, false, true, false, false] : Array Bool) = [0, 5]) (rA : Region.ready .any [o0, o1, o2, o3, o4, o5, o6].toArray ((#[false, true, true, false, true, false, false] : Array Bool).setIfInBounds 0 true) = [3, 5]) (rC : Region.ready .any [o0, o1, o2, o3, o4, o5, o6].toArray ((#[false, true, true, false, true, false, false] : Array Bool).setIfInBounds 5 true) = [0]) (rAB : Region.ready .any [o0, o1, o2, o3, o4, o5, o6].toArray (((#[false, true, true, false, true, false, false] : Array Bool).setIfInBounds 0 true).setIfInBounds 3 true) = [5]) (rAC : Region.ready .any [o0, o1, o2, o3, o4, o5, o6].toArray (((#[false, true, true, false, true, false, false] : Array Bool).setIfInBounds 0 true).setIfInBounds 5 true) = [3]) (rCA : Region.ready .any [o0, o1, o2, o3, o4, o5, o6].toArray (((#[false, true, true, false, true, false, false] : Array Bool).setIfInBounds 5 true).setIfInBounds 0 true) = [3]) (rABC : Region.ready .any [o0, o1, o2, o3, o4, o5, o6].toArray ((((#[false, true, true, false, true, false, false] : Array Bool).setIfInBounds 0 true).setIfInBounds 3 true).setIfInBounds 5 true) = [6]) (rE : Region.ready .any [o0, o1, o2, o3, o4, o5, o6].toArray (((((#[false, true, true, false, true, false, false] : Array Bool).setIfInBounds 0 true).setIfInBounds 3 true).setIfInBounds 5 true).setIfInBounds 6 true) = [])
    (hQ : ∀ c a d v w, Q (.panic c) (Act.put a d v) w → Q (.panic c) a w)
    (fin : ∀ vA vB vC ad c W', W'.ownsRow w.heap.size 40 4 (.slice ad (N + 1) c) (N + 1) (xs1 ++ [.int .i64 x0, .int .i64 x1, .int .i64 x2, .int .u64 x3]) → Below w.heap.size w W' → Q .normal ((((((((a.put (some 156) (.pointer (some ⟨r, 4, none⟩))).put (some 157) (.slice av N cv)).put (some 159) (.agg #[.int .i64 x0, .int .i64 x1, .int .i64 x2, .int .u64 x3])).put (some 155) vA).put (some 158) vB).put (some 160) vC).put (some 161) (.slice ad (N + 1) c)).put (some 162) (.pointer (some ⟨r, 4, none⟩))) (W'.setCell ⟨r, 4, none⟩ (.slice ad (N + 1) c))) :
    (Code.region id l1.toArray true).wp Try.prog Q a w := by
  obtain ⟨af, haf⟩ : ∃ af, af = (((a.put (some 156) (.pointer (some ⟨r, 4, none⟩))).put (some 157) (.slice av N cv)).put (some 159) (.agg #[.int .i64 x0, .int .i64 x1, .int .i64 x2, .int .u64 x3])) := ⟨_, rfl⟩
  rw [← haf] at fin
  have fsz : af.tmps.size = 211 := by rw [haf]; simp only [gput_sz]; exact hsz
  have k2 : af.tmps[2]? = some (.pointer (some ⟨r, 0, none⟩)) := by rw [haf]; rw [gput_ne (by decide), gput_ne (by decide), gput_ne (by decide)]; exact h2
  have k13 : af.tmps[13]? = some (.pointer (some ⟨s, 0, none⟩)) := by rw [haf]; rw [gput_ne (by decide), gput_ne (by decide), gput_ne (by decide)]; exact h13
  have f156 : af.tmps[156]? = some (.pointer (some ⟨r, 4, none⟩)) := by rw [haf]; rw [gput_ne (by decide), gput_ne (by decide), gput_at (by first | (rw [hsz]; decide) | (simp only [gput_sz]; rw [hsz]; decide))]
  have f157 : af.tmps[157]? = some (.slice av N cv) := by rw [haf]; rw [gput_ne (by decide), gput_at (by first | (rw [hsz]; decide) | (simp only [gput_sz]; rw [hsz]; decide))]
  have f159 : af.tmps[159]? = some (.agg #[.int .i64 x0, .int .i64 x1, .int .i64 x2, .int .u64 x3]) := by rw [haf]; rw [gput_at (by first | (rw [hsz]; decide) | (simp only [gput_sz]; rw [hsz]; decide))]
  have HS : Below w.heap.size w w.drew := (Below.refl _ _).drew
  refine wp_region_tail 7 (fun W => Below w.heap.size w W) (by kernel_rfl) hok ?_
  rw [hl1, hlast]
  have hput : putIdx af [o0, o1, o2, o3, o4, o5, o6].toArray [1, 2, 4] a = af := by
    have e : putIdx af [o0, o1, o2, o3, o4, o5, o6].toArray [1, 2, 4] a = (((a.put (some 156) (.pointer (some ⟨r, 4, none⟩))).put (some 157) (.slice av N cv)).put (some 159) (.agg #[.int .i64 x0, .int .i64 x1, .int .i64 x2, .int .u64 x3])) := by
      simp only [putIdx, List.getElem?_toArray, List.getElem?_cons_succ, List.getElem?_cons_zero, Option.bind_some, t1, t2, t4, ggetD f156, ggetD f157, ggetD f159]
    rw [e, haf]
  refine takes (P := Try.prog) (Q := tailQ Try.prog Q [o7, o8]) (S := fun W => Below w.heap.size w W) (idx := [1, 2, 4]) (af := af) (fuel := 4) hns (fun c a d v w h => hQ c a d v w h) HS _ _ htk hput ?_ ?_
  · refine ⟨⟨o1, 156, _, rfl, t1, f156, ?_⟩, ⟨o2, 157, _, rfl, t2, f157, ?_⟩, ⟨o4, 159, _, rfl, t4, f159, ?_⟩, trivial⟩
    · intro W hW
      have kF := (hW.cell (p := ⟨r, 4, none⟩) (gcell_lt c2)).trans c2
      have m0 := (hW.cell (p := ⟨s, 0, none⟩) (gcell_lt e0)).trans e0
      have m1 := (hW.cell (p := ⟨s, 1, none⟩) (gcell_lt e1)).trans e1
      have m2 := (hW.cell (p := ⟨s, 2, none⟩) (gcell_lt e2)).trans e2
      have m3 := (hW.cell (p := ⟨s, 3, none⟩) (gcell_lt e3)).trans e3
      clear fin haf hput htk hns hok fsz hsz hQ hl1 hlast fz src1 xl1 xo1 hbd
      obtain ⟨d, op, ty, pos, aft, gd⟩ := o1
      simp only at p1
      subst p1
      go_simp
    · intro W hW
      have kF := (hW.cell (p := ⟨r, 4, none⟩) (gcell_lt c2)).trans c2
      have m0 := (hW.cell (p := ⟨s, 0, none⟩) (gcell_lt e0)).trans e0
      have m1 := (hW.cell (p := ⟨s, 1, none⟩) (gcell_lt e1)).trans e1
      have m2 := (hW.cell (p := ⟨s, 2, none⟩) (gcell_lt e2)).trans e2
      have m3 := (hW.cell (p := ⟨s, 3, none⟩) (gcell_lt e3)).trans e3
      clear fin haf hput htk hns hok fsz hsz hQ hl1 hlast fz src1 xl1 xo1 hbd
      obtain ⟨d, op, ty, pos, aft, gd⟩ := o2
      simp only at p2
      subst p2
      go_simp
    · intro W hW
      have kF := (hW.cell (p := ⟨r, 4, none⟩) (gcell_lt c2)).trans c2
      have m0 := (hW.cell (p := ⟨s, 0, none⟩) (gcell_lt e0)).trans e0
      have m1 := (hW.cell (p := ⟨s, 1, none⟩) (gcell_lt e1)).trans e1
      have m2 := (hW.cell (p := ⟨s, 2, none⟩) (gcell_lt e2)).trans e2
      have m3 := (hW.cell (p := ⟨s, 3, none⟩) (gcell_lt e3)).trans e3
      clear fin haf hput htk hns hok fsz hsz hQ hl1 hlast fz src1 xl1 xo1 hbd
      obtain ⟨d, op, ty, pos, aft, gd⟩ := o4
      simp only at p4
      subst p4
      go_simp
  have em : markIdx [1, 2, 4] (Array.replicate [o0, o1, o2, o3, o4, o5, o6].length false) = #[false, true, true, false, true, false, false] := by kernel_rfl
  rw [em]
  refine gtail_snoc eltM (iA := 0) (iB := 3) (iC := 5) (iD := 6) (dA := 155) (dB := 158) (dC := 160) (dD := 161) (dv := 157) (dx := 159) (fuel := 0) (m := N) (xs := xs1) (ys := [.int .i64 x0, .int .i64 x1, .int .i64 x2, .int .u64 x3]) (w0 := w) (oA := o0) (oB := o3) (oC := o5) (oD := o6) rfl rfl rfl rfl g0 g3 g5 g6 (fun a W => run_p0 p0 a W) p3 (fun a W hx => run_p1 p5 a W hx) p6 t0 t3 t5 t6 rn rA rC rAB rAC rCA rABC (by decide) (by decide) (by rw [fsz]; decide) f157 f159 src1 xl1 xo1 rfl (by simp [Value.oneCell']) (by omega) HS ?_
  intro vA vB vC vD W hW hD
  obtain ⟨ad, c, rfl⟩ := own_form2 hD
  have q1 : ((((af.put (some 155) vA).put (some 158) vB).put (some 160) vC).put (some 161) (.slice ad (N + 1) c)).tmps[161]? = some (.slice ad (N + 1) c) := gput_at (by rw [gput_sz, gput_sz, gput_sz, fsz]; decide)
  have q2 : ((((af.put (some 155) vA).put (some 158) vB).put (some 160) vC).put (some 161) (.slice ad (N + 1) c)).tmps[2]? = some (.pointer (some ⟨r, 0, none⟩)) := by rw [gput_ne (by decide), gput_ne (by decide), gput_ne (by decide), gput_ne (by decide)]; exact k2
  have qsz : ((((af.put (some 155) vA).put (some 158) vB).put (some 160) vC).put (some 161) (.slice ad (N + 1) c)).tmps.size = 211 := by rw [gput_sz, gput_sz, gput_sz, gput_sz, fsz]
  exact sfin_t rE p7 t7 p8 t8 q2 q1 (by decide) (by rw [qsz]; decide) ((hW.cell (p := ⟨r, 4, none⟩) (gcell_lt c2)).trans c2) (fz W hW) (fin vA vB vC ad c W hD hW)

set_option maxHeartbeats 2000000 in
theorem snoc_s {id : Nat} {Q : Exit → Act → World → Prop} {a : Act} {w : World} {l1 : List Oper} {o0 o1 o2 o3 o4 o5 o6 o7 o8 o9 : Oper} {r s N cv : Nat} {av : Option Addr} {x0 : Int} {xs1 : List Value} (hl1 : l1.take 8 = [o0, o1, o2, o3, o4, o5, o6, o7]) (hlast : l1.drop 8 = [o8, o9])
    (hok : tailOk (l1.take 8) (l1.drop 8) = true) (hns : Region.noSelect [o0, o1, o2, o3, o4, o5, o6, o7].toArray = true) (htk : takesOk [o0, o1, o2, o3, o4, o5, o6, o7].toArray [1, 2, 4, 5] (Array.replicate 8 false) = true)
    (p0 : o0.op = .buildSlice 52 0 #[]) (p1 : o1.op = .fieldAddr 54 (.tmp 2) 2) (p2 : o2.op = .load 52 (.tmp 93)) (p3 : o3.op = .call { callee := .builtin .append, args := #[.tmp 92, .tmp 94], argTypes := #[52, 52] }) (p4 : o4.op = .fieldAddr 57 (.tmp 3) 3) (p5 : o5.op = .load 28 (.tmp 96)) (p6 : o6.op = .buildSlice 52 1 #[(0, .tmp 97)]) (p7 : o7.op = .call { callee := .builtin .append, args := #[.tmp 95, .tmp 98], argTypes := #[52, 52] }) (p8 : o8.op = .fieldAddr 54 (.tmp 2) 2) (p9 : o9.op = .store 52 (.tmp 100) (.tmp 99))
    (g0 : o0.guard = none) (g3 : o3.guard = none) (g6 : o6.guard = none) (g7 : o7.guard = none)
    (t0 : o0.dst = some 92) (t1 : o1.dst = some 93) (t2 : o2.dst = some 94) (t3 : o3.dst = some 95) (t4 : o4.dst = some 96) (t5 : o5.dst = some 97) (t6 : o6.dst = some 98) (t7 : o7.dst = some 99) (t8 : o8.dst = some 100) (t9 : o9.dst = none)
    (hsz : a.tmps.size = 211)
    (h2 : a.tmps[2]? = some (.pointer (some ⟨r, 0, none⟩))) (h3 : a.tmps[3]? = some (.pointer (some ⟨s, 0, none⟩))) (e0 : w.cell? ⟨s, 3, none⟩ = some (.int .u64 x0)) (c2 : w.cell? ⟨r, 3, none⟩ = some (.slice av N cv)) (fz : ∀ W, Below w.heap.size w W → W.frozen? ⟨r, 3, none⟩ = false)
    (src1 : Src w (.slice av N cv) N xs1) (xl1 : xs1.length = N * 1) (xo1 : ∀ y ∈ xs1, y.oneCell' = true) (hbd : N ≤ 1000)
    (rn : Region.ready .any [o0, o1, o2, o3, o4, o5, o6, o7].toArray (#[false, true, true, false, true, true, false, false] : Array Bool) = [0, 6]) (rA : Region.ready .any [o0, o1, o2, o3, o4, o5, o6, o7].toArray ((#[false, true, true, false, true, true, false, false] : Array Bool).setIfInBounds 0 true) = [3, 6]) (rC : Region.ready .any [o0, o1, o2, o3, o4, o5, o6, o7].toArray ((#[false, true, true, false, true, true, false, false] : Array Bool).setIfInBounds 6 true) = [0]) (rAB : Region.ready .any [o0, o1, o2, o3, o4, o5, o6, o7].toArray (((#[false, true, true, false, true, true, false, false] : Array Bool).setIfInBounds 0 true).setIfInBounds 3 true) = [6]) (rAC : Region.ready .any [o0, o1, o2, o3, o4, o5, o6, o7].toArray (((#[false, true, true, false, true, true, false, false] : Array Bool).setIfInBounds 0 true).setIfInBounds 6 true) = [3]) (rCA : Region.ready .any [o0, o1, o2, o3, o4, o5, o6, o7].toArray (((#[false, true, true, false, true, true, false, false] : Array Bool).setIfInBounds 6 true).setIfInBounds 0 true) = [3]) (rABC : Region.ready .any [o0, o1, o2, o3, o4, o5, o6, o7].toArray ((((#[false, true, true, false, true, true, false, false] : Array Bool).setIfInBounds 0 true).setIfInBounds 3 true).setIfInBounds 6 true) = [7]) (rE : Region.ready .any [o0, o1, o2, o3, o4, o5, o6, o7].toArray (((((#[false, true, true, false, true, true, false, false] : Array Bool).setIfInBounds 0 true).setIfInBounds 3 true).setIfInBounds 6 true).setIfInBounds 7 true) = [])
    (hQ : ∀ c a d v w, Q (.panic c) (Act.put a d v) w → Q (.panic c) a w)
    (fin : ∀ vA vB vC ad c W', W'.ownsRow w.heap.size 28 1 (.slice ad (N + 1) c) (N + 1) (xs1 ++ [.int .u64 x0]) → Below w.heap.size w W' → Q .normal (((((((((a.put (some 93) (.pointer (some ⟨r, 3, none⟩))).put (some 94) (.slice av N cv)).put (some 96) (.pointer (some ⟨s, 3, none⟩))).put (some 97) (.int .u64 x0)).put (some 92) vA).put (some 95) vB).put (some 98) vC).put (some 99) (.slice ad (N + 1) c)).put (some 100) (.pointer (some ⟨r, 3, none⟩))) (W'.setCell ⟨r, 3, none⟩ (.slice ad (N + 1) c))) :
    (Code.region id l1.toArray true).wp Try.prog Q a w := by
  obtain ⟨af, haf⟩ : ∃ af, af = ((((a.put (some 93) (.pointer (some ⟨r, 3, none⟩))).put (some 94) (.slice av N cv)).put (some 96) (.pointer (some ⟨s, 3, none⟩))).put (some 97) (.int .u64 x0)) := ⟨_, rfl⟩
  rw [← haf] at fin
  have fsz : af.tmps.size = 211 := by rw [haf]; simp only [gput_sz]; exact hsz
  have k2 : af.tmps[2]? = some (.pointer (some ⟨r, 0, none⟩)) := by rw [haf]; rw [gput_ne (by decide), gput_ne (by decide), gput_ne (by decide), gput_ne (by decide)]; exact h2
  have k3 : af.tmps[3]? = some (.pointer (some ⟨s, 0, none⟩)) := by rw [haf]; rw [gput_ne (by decide), gput_ne (by decide), gput_ne (by decide), gput_ne (by decide)]; exact h3
  have f93 : af.tmps[93]? = some (.pointer (some ⟨r, 3, none⟩)) := by rw [haf]; rw [gput_ne (by decide), gput_ne (by decide), gput_ne (by decide), gput_at (by first | (rw [hsz]; decide) | (simp only [gput_sz]; rw [hsz]; decide))]
  have f94 : af.tmps[94]? = some (.slice av N cv) := by rw [haf]; rw [gput_ne (by decide), gput_ne (by decide), gput_at (by first | (rw [hsz]; decide) | (simp only [gput_sz]; rw [hsz]; decide))]
  have f96 : af.tmps[96]? = some (.pointer (some ⟨s, 3, none⟩)) := by rw [haf]; rw [gput_ne (by decide), gput_at (by first | (rw [hsz]; decide) | (simp only [gput_sz]; rw [hsz]; decide))]
  have f97 : af.tmps[97]? = some (.int .u64 x0) := by rw [haf]; rw [gput_at (by first | (rw [hsz]; decide) | (simp only [gput_sz]; rw [hsz]; decide))]
  have HS : Below w.heap.size w w.drew := (Below.refl _ _).drew
  refine wp_region_tail 8 (fun W => Below w.heap.size w W) (by kernel_rfl) hok ?_
  rw [hl1, hlast]
  have hput : putIdx af [o0, o1, o2, o3, o4, o5, o6, o7].toArray [1, 2, 4, 5] a = af := by
    have e : putIdx af [o0, o1, o2, o3, o4, o5, o6, o7].toArray [1, 2, 4, 5] a = ((((a.put (some 93) (.pointer (some ⟨r, 3, none⟩))).put (some 94) (.slice av N cv)).put (some 96) (.pointer (some ⟨s, 3, none⟩))).put (some 97) (.int .u64 x0)) := by
      simp only [putIdx, List.getElem?_toArray, List.getElem?_cons_succ, List.getElem?_cons_zero, Option.bind_some, t1, t2, t4, t5, ggetD f93, ggetD f94, ggetD f96, ggetD f97]
    rw [e, haf]
  refine takes (P := Try.prog) (Q := tailQ Try.prog Q [o8, o9]) (S := fun W => Below w.heap.size w W) (idx := [1, 2, 4, 5]) (af := af) (fuel := 4) hns (fun c a d v w h => hQ c a d v w h) HS _ _ htk hput ?_ ?_
  · refine ⟨⟨o1, 93, _, rfl, t1, f93, ?_⟩, ⟨o2, 94, _, rfl, t2, f94, ?_⟩, ⟨o4, 96, _, rfl, t4, f96, ?_⟩, ⟨o5, 97, _, rfl, t5, f97, ?_⟩, trivial⟩
    · intro W hW
      have kF := (hW.cell (p := ⟨r, 3, none⟩) (gcell_lt c2)).trans c2
      have m0 := (hW.cell (p := ⟨s, 3, none⟩) (gcell_lt e0)).trans e0
      clear fin haf hput htk hns hok fsz hsz hQ hl1 hlast fz src1 xl1 xo1 hbd
      obtain ⟨d, op, ty, pos, aft, gd⟩ := o1
      simp only at p1
      subst p1
      go_simp
    · intro W hW
      have kF := (hW.cell (p := ⟨r, 3, none⟩) (gcell_lt c2)).trans c2
      have m0 := (hW.cell (p := ⟨s, 3, none⟩) (gcell_lt e0)).trans e0
      clear fin haf hput htk hns hok fsz hsz hQ hl1 hlast fz src1 xl1 xo1 hbd
      obtain ⟨d, op, ty, pos, aft, gd⟩ := o2
      simp only at p2
      subst p2
      go_simp
    · intro W hW
      have kF := (hW.cell (p := ⟨r, 3, none⟩) (gcell_lt c2)).trans c2
      have m0 := (hW.cell (p := ⟨s, 3, none⟩) (gcell_lt e0)).trans e0
      clear fin haf hput htk hns hok fsz hsz hQ hl1 hlast fz src1 xl1 xo1 hbd
      obtain ⟨d, op, ty, pos, aft, gd⟩ := o4
      simp only at p4
      subst p4
      go_simp
    · intro W hW
      have kF := (hW.cell (p := ⟨r, 3, none⟩) (gcell_lt c2)).trans c2
      have m0 := (hW.cell (p := ⟨s, 3, none⟩) (gcell_lt e0)).trans e0
      clear fin haf hput htk hns hok fsz hsz hQ hl1 hlast fz src1 xl1 xo1 hbd
      obtain ⟨d, op, ty, pos, aft, gd⟩ := o5
      simp only at p5
      subst p5
      go_simp
  have em : markIdx [1, 2, 4, 5] (Array.replicate [o0, o1, o2, o3, o4, o5, o6, o7].length false) = #[false, true, true, false, true, true, false, false] := by kernel_rfl
  rw [em]
  refine gtail_snoc eltU (iA := 0) (iB := 3) (iC := 6) (iD := 7) (dA := 92) (dB := 95) (dC := 98) (dD := 99) (dv := 94) (dx := 97) (fuel := 0) (m := N) (xs := xs1) (ys := [.int .u64 x0]) (w0 := w) (oA := o0) (oB := o3) (oC := o6) (oD := o7) rfl rfl rfl rfl g0 g3 g6 g7 (fun a W => run_u0 p0 a W) p3 (fun a W hx => run_u1 p6 a W hx) p7 t0 t3 t6 t7 rn rA rC rAB rAC rCA rABC (by decide) (by decide) (by rw [fsz]; decide) f94 f97 src1 xl1 xo1 rfl (by simp [Value.oneCell']) (by omega) HS ?_
  intro vA vB vC vD W hW hD
  obtain ⟨ad, c, rfl⟩ := own_form2 hD
  have q1 : ((((af.put (some 92) vA).put (some 95) vB).put (some 98) vC).put (some 99) (.slice ad (N + 1) c)).tmps[99]? = some (.slice ad (N + 1) c) := gput_at (by rw [gput_sz, gput_sz, gput_sz, fsz]; decide)
  have q2 : ((((af.put (some 92) vA).put (some 95) vB).put (some 98) vC).put (some 99) (.slice ad (N + 1) c)).tmps[2]? = some (.pointer (some ⟨r, 0, none⟩)) := by rw [gput_ne (by decide), gput_ne (by decide), gput_ne (by decide), gput_ne (by decide)]; exact k2
  have qsz : ((((af.put (some 92) vA).put (some 95) vB).put (some 98) vC).put (some 99) (.slice ad (N + 1) c)).tmps.size = 211 := by rw [gput_sz, gput_sz, gput_sz, gput_sz, fsz]
  exact sfin_s rE p8 t8 p9 t9 q2 q1 (by decide) (by rw [qsz]; decide) ((hW.cell (p := ⟨r, 3, none⟩) (gcell_lt c2)).trans c2) (fz W hW) (fin vA vB vC ad c W hD hW)

theorem cut_c_lo {o : Oper} {g oo N cv k t1 t2 : Nat} (hop : o.op = .slice 51 (.tmp t1) none (some (.tmp t2)) none) (hk : k ≤ N) (hN : N ≤ cv) (b : Act) (W : World) (h1 : b.tmps[t1]? = some (.slice (some ⟨g, oo, none⟩) N cv)) (h2 : b.tmps[t2]? = some (.int .i64 (k : Int))) : (execOp b.eval o).run Try.prog W = .ok (.value (.slice (some ⟨g, oo, none⟩) k cv)) W := by
  obtain ⟨d, op, ty, pos, aft, gd⟩ := o
  simp only at hop
  subst hop
  have i1 : (0 : Int) ≤ (k : Int) := by omega
  have i2 : (k : Int) ≤ (cv : Int) := by omega
  go_simp
theorem cut_c_hi {o : Oper} {g oo N cv k t1 t2 : Nat} (hop : o.op = .slice 51 (.tmp t1) (some (.tmp t2)) none none) (hk : k + 1 ≤ N) (b : Act) (W : World) (h1 : b.tmps[t1]? = some (.slice (some ⟨g, oo, none⟩) N cv)) (h2 : b.tmps[t2]? = some (.int .i64 ((k : Int) + 1))) : (execOp b.eval o).run Try.prog W = .ok (.value (.slice (if cv = k + 1 then some ⟨g, oo, none⟩ else some ⟨g, oo + (k + 1) * 3, none⟩) (N - (k + 1)) (cv - (k + 1)))) W := by
  obtain ⟨d, op, ty, pos, aft, gd⟩ := o
  simp only at hop
  subst hop
  have i1 : (0 : Int) ≤ (k : Int) + 1 := by omega
  have i2 : (k : Int) + 1 ≤ (N : Int) := by omega
  have i3 : ((k : Int) + 1).toNat = k + 1 := by omega
  by_cases hcc : cv = k + 1
  · rw [if_pos hcc]
    go_simp
  · rw [if_neg hcc]
    go_simp
theorem cut_t_lo {o : Oper} {g oo N cv k t1 t2 : Nat} (hop : o.op = .slice 23 (.tmp t1) none (some (.tmp t2)) none) (hk : k ≤ N) (hN : N ≤ cv) (b : Act) (W : World) (h1 : b.tmps[t1]? = some (.slice (some ⟨g, oo, none⟩) N cv)) (h2 : b.tmps[t2]? = some (.int .i64 (k : Int))) : (execOp b.eval o).run Try.prog W = .ok (.value (.slice (some ⟨g, oo, none⟩) k cv)) W := by
  obtain ⟨d, op, ty, pos, aft, gd⟩ := o
  simp only at hop
  subst hop
  have i1 : (0 : Int) ≤ (k : Int) := by omega
  have i2 : (k : Int) ≤ (cv : Int) := by omega
  go_simp
theorem cut_t_hi {o : Oper} {g oo N cv k t1 t2 : Nat} (hop : o.op = .slice 23 (.tmp t1) (some (.tmp t2)) none none) (hk : k + 1 ≤ N) (b : Act) (W : World) (h1 : b.tmps[t1]? = some (.slice (some ⟨g, oo, none⟩) N cv)) (h2 : b.tmps[t2]? = some (.int .i64 ((k : Int) + 1))) : (execOp b.eval o).run Try.prog W = .ok (.value (.slice (if cv = k + 1 then some ⟨g, oo, none⟩ else some ⟨g, oo + (k + 1) * 4, none⟩) (N - (k + 1)) (cv - (k + 1)))) W := by
  obtain ⟨d, op, ty, pos, aft, gd⟩ := o
  simp only at hop
  subst hop
  have i1 : (0 : Int) ≤ (k : Int) + 1 := by omega
  have i2 : (k : Int) + 1 ≤ (N : Int) := by omega
  have i3 : ((k : Int) + 1).toNat = k + 1 := by omega
  by_cases hcc : cv = k + 1
  · rw [if_pos hcc]
    go_simp
  · rw [if_neg hcc]
    go_simp
set_option maxHeartbeats 2000000 in
theorem cut_c {id : Nat} {Q : Exit → Act → World → Prop} {a : Act} {w : World} {l1 : List Oper} {o0 o1 o2 o3 o4 o5 o6 o7 o8 o9 o10 o11 o12 o13 : Oper} {r N cv k m1 m2 : Nat} {av : Option Addr} {S1 S2 : Value} {xs1 xs2 : List Value} (hl1 : l1.take 12 = [o0, o1, o2, o3, o4, o5, o6, o7, o8, o9, o10, o11]) (hlast : l1.drop 12 = [o12, o13])
    (hok : tailOk (l1.take 12) (l1.drop 12) = true) (hns : Region.noSelect [o0, o1, o2, o3, o4, o5, o6, o7, o8, o9, o10, o11].toArray = true) (htk : takesOk [o0, o1, o2, o3, o4, o5, o6, o7, o8, o9, o10, o11].toArray [1, 2, 3, 4, 6, 7, 8, 9, 10] (Array.replicate 12 false) = true)
    (p0 : o0.op = .buildSlice 51 0 #[]) (p1 : o1.op = .fieldAddr 54 (.tmp 2) 1) (p2 : o2.op = .load 51 (.tmp 102)) (p3 : o3.op = .move (.tmp 8)) (p5 : o5.op = .call { callee := .builtin .append, args := #[.tmp 101, .tmp 105], argTypes := #[51, 51] }) (p6 : o6.op = .fieldAddr 54 (.tmp 2) 1) (p7 : o7.op = .load 51 (.tmp 107)) (p8 : o8.op = .move (.tmp 8)) (p9 : o9.op = .binOp .add 3 (.tmp 109) (.const (.int .i64 1)) 3) (p11 : o11.op = .call { callee := .builtin .append, args := #[.tmp 106, .tmp 111], argTypes := #[51, 51] }) (p12 : o12.op = .fieldAddr 54 (.tmp 2) 1) (p13 : o13.op = .store 51 (.tmp 113) (.tmp 112))
    (g0 : o0.guard = none) (g5 : o5.guard = none) (g11 : o11.guard = none)
    (t0 : o0.dst = some 101) (t1 : o1.dst = some 102) (t2 : o2.dst = some 103) (t3 : o3.dst = some 104) (t4 : o4.dst = some 105) (t5 : o5.dst = some 106) (t6 : o6.dst = some 107) (t7 : o7.dst = some 108) (t8 : o8.dst = some 109) (t9 : o9.dst = some 110) (t10 : o10.dst = some 111) (t11 : o11.dst = some 112) (t12 : o12.dst = some 113) (t13 : o13.dst = none)
    (hsz : a.tmps.size = 211)
    (h2 : a.tmps[2]? = some (.pointer (some ⟨r, 0, none⟩))) (hK : a.tmps[8]? = some (.int .i64 (k : Int))) (hk : k < 1000) (c2 : w.cell? ⟨r, 2, none⟩ = some (.slice av N cv)) (fz : ∀ W, Below w.heap.size w W → W.frozen? ⟨r, 2, none⟩ = false)
    (hs1 : ∀ (b : Act) W, b.tmps[103]? = some (.slice av N cv) → b.tmps[104]? = some (.int .i64 (k : Int)) → (execOp b.eval o4).run Try.prog W = .ok (.value S1) W)
    (hs2 : ∀ (b : Act) W, b.tmps[108]? = some (.slice av N cv) → b.tmps[110]? = some (.int .i64 ((k : Int) + 1)) → (execOp b.eval o10).run Try.prog W = .ok (.value S2) W)
    (src1 : Src w S1 m1 xs1) (xl1 : xs1.length = m1 * 3) (xo1 : ∀ y ∈ xs1, y.oneCell' = true) (src2 : Src w S2 m2 xs2) (xl2 : xs2.length = m2 * 3) (xo2 : ∀ y ∈ xs2, y.oneCell' = true) (hbd : m1 + m2 ≤ 1000)
    (rn : Region.ready .any [o0, o1, o2, o3, o4, o5, o6, o7, o8, o9, o10, o11].toArray (#[false, true, true, true, true, false, true, true, true, true, true, false] : Array Bool) = [0]) (rA : Region.ready .any [o0, o1, o2, o3, o4, o5, o6, o7, o8, o9, o10, o11].toArray ((#[false, true, true, true, true, false, true, true, true, true, true, false] : Array Bool).setIfInBounds 0 true) = [5]) (rB : Region.ready .any [o0, o1, o2, o3, o4, o5, o6, o7, o8, o9, o10, o11].toArray (((#[false, true, true, true, true, false, true, true, true, true, true, false] : Array Bool).setIfInBounds 0 true).setIfInBounds 5 true) = [11]) (rE : Region.ready .any [o0, o1, o2, o3, o4, o5, o6, o7, o8, o9, o10, o11].toArray ((((#[false, true, true, true, true, false, true, true, true, true, true, false] : Array Bool).setIfInBounds 0 true).setIfInBounds 5 true).setIfInBounds 11 true) = [])
    (hQ : ∀ c a d v w, Q (.panic c) (Act.put a d v) w → Q (.panic c) a w)
    (fin : ∀ vA vB ad c W', W'.ownsRow w.heap.size 27 3 (.slice ad (m1 + m2) c) (m1 + m2) (xs1 ++ xs2) → Below w.heap.size w W' → Q .normal (((((((((((((a.put (some 102) (.pointer (some ⟨r, 2, none⟩))).put (some 103) (.slice av N cv)).put (some 104) (.int .i64 (k : Int))).put (some 105) (S1)).put (some 107) (.pointer (some ⟨r, 2, none⟩))).put (some 108) (.slice av N cv)).put (some 109) (.int .i64 (k : Int))).put (some 110) (.int .i64 ((k : Int) + 1))).put (some 111) (S2)).put (some 101) vA).put (some 106) vB).put (some 112) (.slice ad (m1 + m2) c)).put (some 113) (.pointer (some ⟨r, 2, none⟩))) (W'.setCell ⟨r, 2, none⟩ (.slice ad (m1 + m2) c))) :
    (Code.region id l1.toArray true).wp Try.prog Q a w := by
  obtain ⟨af, haf⟩ : ∃ af, af = (((((((((a.put (some 102) (.pointer (some ⟨r, 2, none⟩))).put (some 103) (.slice av N cv)).put (some 104) (.int .i64 (k : Int))).put (some 105) (S1)).put (some 107) (.pointer (some ⟨r, 2, none⟩))).put (some 108) (.slice av N cv)).put (some 109) (.int .i64 (k : Int))).put (some 110) (.int .i64 ((k : Int) + 1))).put (some 111) (S2)) := ⟨_, rfl⟩
  rw [← haf] at fin
  have fsz : af.tmps.size = 211 := by rw [haf]; simp only [gput_sz]; exact hsz
  have k2 : af.tmps[2]? = some (.pointer (some ⟨r, 0, none⟩)) := by rw [haf]; rw [gput_ne (by decide), gput_ne (by decide), gput_ne (by decide), gput_ne (by decide), gput_ne (by decide), gput_ne (by decide), gput_ne (by decide), gput_ne (by decide), gput_ne (by decide)]; exact h2
  have k8 : af.tmps[8]? = some (.int .i64 (k : Int)) := by rw [haf]; rw [gput_ne (by decide), gput_ne (by decide), gput_ne (by decide), gput_ne (by decide), gput_ne (by decide), gput_ne (by decide), gput_ne (by decide), gput_ne (by decide), gput_ne (by decide)]; exact hK
  have f102 : af.tmps[102]? = some (.pointer (some ⟨r, 2, none⟩)) := by rw [haf]; rw [gput_ne (by decide), gput_ne (by decide), gput_ne (by decide), gput_ne (by decide), gput_ne (by decide), gput_ne (by decide), gput_ne (by decide), gput_ne (by decide), gput_at (by first | (rw [hsz]; decide) | (simp only [gput_sz]; rw [hsz]; decide))]
  have f103 : af.tmps[103]? = some (.slice av N cv) := by rw [haf]; rw [gput_ne (by decide), gput_ne (by decide), gput_ne (by decide), gput_ne (by decide), gput_ne (by decide), gput_ne (by decide), gput_ne (by decide), gput_at (by first | (rw [hsz]; decide) | (simp only [gput_sz]; rw [hsz]; decide))]
  have f104 : af.tmps[104]? = some (.int .i64 (k : Int)) := by rw [haf]; rw [gput_ne (by decide), gput_ne (by decide), gput_ne (by decide), gput_ne (by decide), gput_ne (by decide), gput_ne (by decide), gput_at (by first | (rw [hsz]; decide) | (simp only [gput_sz]; rw [hsz]; decide))]
  have f105 : af.tmps[105]? = some (S1) := by rw [haf]; rw [gput_ne (by decide), gput_ne (by decide), gput_ne (by decide), gput_ne (by decide), gput_ne (by decide), gput_at (by first | (rw [hsz]; decide) | (simp only [gput_sz]; rw [hsz]; decide))]
  have f107 : af.tmps[107]? = some (.pointer (some ⟨r, 2, none⟩)) := by rw [haf]; rw [gput_ne (by decide), gput_ne (by decide), gput_ne (by decide), gput_ne (by decide), gput_at (by first | (rw [hsz]; decide) | (simp only [gput_sz]; rw [hsz]; decide))]
  have f108 : af.tmps[108]? = some (.slice av N cv) := by rw [haf]; rw [gput_ne (by decide), gput_ne (by decide), gput_ne (by decide), gput_at (by first | (rw [hsz]; decide) | (simp only [gput_sz]; rw [hsz]; decide))]
  have f109 : af.tmps[109]? = some (.int .i64 (k : Int)) := by rw [haf]; rw [gput_ne (by decide), gput_ne (by decide), gput_at (by first | (rw [hsz]; decide) | (simp only [gput_sz]; rw [hsz]; decide))]
  have f110 : af.tmps[110]? = some (.int .i64 ((k : Int) + 1)) := by rw [haf]; rw [gput_ne (by decide), gput_at (by first | (rw [hsz]; decide) | (simp only [gput_sz]; rw [hsz]; decide))]
  have f111 : af.tmps[111]? = some (S2) := by rw [haf]; rw [gput_at (by first | (rw [hsz]; decide) | (simp only [gput_sz]; rw [hsz]; decide))]
  have HS : Below w.heap.size w w.drew := (Below.refl _ _).drew
  refine wp_region_tail 12 (fun W => Below w.heap.size w W) (by kernel_rfl) hok ?_
  rw [hl1, hlast]
  have hput : putIdx af [o0, o1, o2, o3, o4, o5, o6, o7, o8, o9, o10, o11].toArray [1, 2, 3, 4, 6, 7, 8, 9, 10] a = af := by
    have e : putIdx af [o0, o1, o2, o3, o4, o5, o6, o7, o8, o9, o10, o11].toArray [1, 2, 3, 4, 6, 7, 8, 9, 10] a = (((((((((a.put (some 102) (.pointer (some ⟨r, 2, none⟩))).put (some 103) (.slice av N cv)).put (some 104) (.int .i64 (k : Int))).put (some 105) (S1)).put (some 107) (.pointer (some ⟨r, 2, none⟩))).put (some 108) (.slice av N cv)).put (some 109) (.int .i64 (k : Int))).put (some 110) (.int .i64 ((k : Int) + 1))).put (some 111) (S2)) := by
      simp only [putIdx, List.getElem?_toArray, List.getElem?_cons_succ, List.getElem?_cons_zero, Option.bind_some, t1, t2, t3, t4, t6, t7, t8, t9, t10, ggetD f102, ggetD f103, ggetD f104, ggetD f105, ggetD f107, ggetD f108, ggetD f109, ggetD f110, ggetD f111]
    rw [e, haf]
  refine takes (P := Try.prog) (Q := tailQ Try.prog Q [o12, o13]) (S := fun W => Below w.heap.size w W) (idx := [1, 2, 3, 4, 6, 7, 8, 9, 10]) (af := af) (fuel := 3) hns (fun c a d v w h => hQ c a d v w h) HS _ _ htk hput ?_ ?_
  · refine ⟨⟨o1, 102, _, rfl, t1, f102, ?_⟩, ⟨o2, 103, _, rfl, t2, f103, ?_⟩, ⟨o3, 104, _, rfl, t3, f104, ?_⟩, ⟨o4, 105, _, rfl, t4, f105, ?_⟩, ⟨o6, 107, _, rfl, t6, f107, ?_⟩, ⟨o7, 108, _, rfl, t7, f108, ?_⟩, ⟨o8, 109, _, rfl, t8, f109, ?_⟩, ⟨o9, 110, _, rfl, t9, f110, ?_⟩, ⟨o10, 111, _, rfl, t10, f111, ?_⟩, trivial⟩
    · intro W hW
      have kF := (hW.cell (p := ⟨r, 2, none⟩) (gcell_lt c2)).trans c2
      clear fin haf hput htk hns hok fsz hsz hQ rn rA rB rE h2 hK c2 fz HS hs1 hs2 src1 src2 hl1 hlast xl1 xo1 xl2 xo2
      obtain ⟨d, op, ty, pos, aft, gd⟩ := o1
      simp only at p1
      subst p1
      go_simp
    · intro W hW
      have kF := (hW.cell (p := ⟨r, 2, none⟩) (gcell_lt c2)).trans c2
      clear fin haf hput htk hns hok fsz hsz hQ rn rA rB rE h2 hK c2 fz HS hs1 hs2 src1 src2 hl1 hlast xl1 xo1 xl2 xo2
      obtain ⟨d, op, ty, pos, aft, gd⟩ := o2
      simp only at p2
      subst p2
      go_simp
    · intro W hW
      have kF := (hW.cell (p := ⟨r, 2, none⟩) (gcell_lt c2)).trans c2
      clear fin haf hput htk hns hok fsz hsz hQ rn rA rB rE h2 hK c2 fz HS hs1 hs2 src1 src2 hl1 hlast xl1 xo1 xl2 xo2
      obtain ⟨d, op, ty, pos, aft, gd⟩ := o3
      simp only at p3
      subst p3
      go_simp
    · intro W hW
      have kF := (hW.cell (p := ⟨r, 2, none⟩) (gcell_lt c2)).trans c2
      exact hs1 af W f103 f104
    · intro W hW
      have kF := (hW.cell (p := ⟨r, 2, none⟩) (gcell_lt c2)).trans c2
      clear fin haf hput htk hns hok fsz hsz hQ rn rA rB rE h2 hK c2 fz HS hs1 hs2 src1 src2 hl1 hlast xl1 xo1 xl2 xo2
      obtain ⟨d, op, ty, pos, aft, gd⟩ := o6
      simp only at p6
      subst p6
      go_simp
    · intro W hW
      have kF := (hW.cell (p := ⟨r, 2, none⟩) (gcell_lt c2)).trans c2
      clear fin haf hput htk hns hok fsz hsz hQ rn rA rB rE h2 hK c2 fz HS hs1 hs2 src1 src2 hl1 hlast xl1 xo1 xl2 xo2
      obtain ⟨d, op, ty, pos, aft, gd⟩ := o7
      simp only at p7
      subst p7
      go_simp
    · intro W hW
      have kF := (hW.cell (p := ⟨r, 2, none⟩) (gcell_lt c2)).trans c2
      clear fin haf hput htk hns hok fsz hsz hQ rn rA rB rE h2 hK c2 fz HS hs1 hs2 src1 src2 hl1 hlast xl1 xo1 xl2 xo2
      obtain ⟨d, op, ty, pos, aft, gd⟩ := o8
      simp only at p8
      subst p8
      go_simp
    · intro W hW
      have kF := (hW.cell (p := ⟨r, 2, none⟩) (gcell_lt c2)).trans c2
      clear fin haf hput htk hns hok fsz hsz hQ rn rA rB rE h2 hK c2 fz HS hs1 hs2 src1 src2 hl1 hlast xl1 xo1 xl2 xo2
      obtain ⟨d, op, ty, pos, aft, gd⟩ := o9
      simp only at p9
      subst p9
      go_simp
      rw [IntKind.wrap_i64]
      omega
    · intro W hW
      have kF := (hW.cell (p := ⟨r, 2, none⟩) (gcell_lt c2)).trans c2
      exact hs2 af W f108 f110
  have em : markIdx [1, 2, 3, 4, 6, 7, 8, 9, 10] (Array.replicate [o0, o1, o2, o3, o4, o5, o6, o7, o8, o9, o10, o11].length false) = #[false, true, true, true, true, false, true, true, true, true, true, false] := by kernel_rfl
  rw [em]
  refine gtail_row eltC (iA := 0) (iB := 5) (dA := 101) (dB := 106) (dv := 105) (fuel := 1) (m := m1) (xs := xs1) (w0 := w) (oA := o0) (oB := o5) rfl rfl g0 g5 (fun a W => run_c0 p0 a W) p5 t0 t5 rn rA (by decide) (by rw [fsz]; decide) f105 src1 xl1 xo1 (by omega) HS ?_
  intro vA vB W hW hB
  have q1 : ((af.put (some 101) vA).put (some 106) vB).tmps[106]? = some vB := gput_at (by rw [gput_sz, fsz]; decide)
  have q2 : ((af.put (some 101) vA).put (some 106) vB).tmps[111]? = some S2 := by rw [gput_ne (by decide), gput_ne (by decide)]; exact f111
  have q3 : ((af.put (some 101) vA).put (some 106) vB).tmps[2]? = some (.pointer (some ⟨r, 0, none⟩)) := by rw [gput_ne (by decide), gput_ne (by decide)]; exact k2
  have qsz : ((af.put (some 101) vA).put (some 106) vB).tmps.size = 211 := by rw [gput_sz, gput_sz, fsz]
  have fin2 := fin vA vB
  generalize (af.put (some 101) vA).put (some 106) vB = b3 at *
  refine gtail_more eltC (iB := 11) (dA := 106) (dv := 111) (dB := 112) (fuel := 0) (oB := o11) (w0 := w) rfl g11 p11 t11 rB q1 q2 hB src2 xl2 xo2 (by omega) hW ?_
  intro vC W2 hW2 hC
  obtain ⟨ad, c, rfl⟩ := own_form2 hC
  have s3 : (b3.put (some 112) (.slice ad (m1 + m2) c)).tmps[2]? = some (.pointer (some ⟨r, 0, none⟩)) := (gput_ne (by decide)).trans q3
  exact sfin_c rE p12 t12 p13 t13 s3 (gput_at (by rw [qsz]; decide)) (by decide) (by rw [gput_sz, qsz]; decide) ((hW2.cell (p := ⟨r, 2, none⟩) (gcell_lt c2)).trans c2) (fz W2 hW2) (fin2 ad c W2 hC hW2)

set_option maxHeartbeats 2000000 in
theorem cut_t {id : Nat} {Q : Exit → Act → World → Prop} {a : Act} {w : World} {l1 : List Oper} {o0 o1 o2 o3 o4 o5 o6 o7 o8 o9 o10 o11 o12 o13 : Oper} {r N cv k m1 m2 : Nat} {av : Option Addr} {S1 S2 : Value} {xs1 xs2 : List Value} (hl1 : l1.take 12 = [o0, o1, o2, o3, o4, o5, o6, o7, o8, o9, o10, o11]) (hlast : l1.drop 12 = [o12, o13])
    (hok : tailOk (l1.take 12) (l1.drop 12) = true) (hns : Region.noSelect [o0, o1, o2, o3, o4, o5, o6, o7, o8, o9, o10, o11].toArray = true) (htk : takesOk [o0, o1, o2, o3, o4, o5, o6, o7, o8, o9, o10, o11].toArray [1, 2, 3, 4, 6, 7, 8, 9, 10] (Array.replicate 12 false) = true)
    (p0 : o0.op = .buildSlice 23 0 #[]) (p1 : o1.op = .fieldAddr 54 (.tmp 2) 3) (p2 : o2.op = .load 23 (.tmp 198)) (p3 : o3.op = .move (.tmp 15)) (p5 : o5.op = .call { callee := .builtin .append, args := #[.tmp 197, .tmp 201], argTypes := #[23, 23] }) (p6 : o6.op = .fieldAddr 54 (.tmp 2) 3) (p7 : o7.op = .load 23 (.tmp 203)) (p8 : o8.op = .move (.tmp 15)) (p9 : o9.op = .binOp .add 3 (.tmp 205) (.const (.int .i64 1)) 3) (p11 : o11.op = .call { callee := .builtin .append, args := #[.tmp 202, .tmp 207], argTypes := #[23, 23] }) (p12 : o12.op = .fieldAddr 54 (.tmp 2) 3) (p13 : o13.op = .store 23 (.tmp 209) (.tmp 208))
    (g0 : o0.guard = none) (g5 : o5.guard = none) (g11 : o11.guard = none)
    (t0 : o0.dst = some 197) (t1 : o1.dst = some 198) (t2 : o2.dst = some 199) (t3 : o3.dst = some 200) (t4 : o4.dst = some 201) (t5 : o5.dst = some 202) (t6 : o6.dst = some 203) (t7 : o7.dst = some 204) (t8 : o8.dst = some 205) (t9 : o9.dst = some 206) (t10 : o10.dst = some 207) (t11 : o11.dst = some 208) (t12 : o12.dst = some 209) (t13 : o13.dst = none)
    (hsz : a.tmps.size = 211)
    (h2 : a.tmps[2]? = some (.pointer (some ⟨r, 0, none⟩))) (hK : a.tmps[15]? = some (.int .i64 (k : Int))) (hk : k < 1000) (c2 : w.cell? ⟨r, 4, none⟩ = some (.slice av N cv)) (fz : ∀ W, Below w.heap.size w W → W.frozen? ⟨r, 4, none⟩ = false)
    (hs1 : ∀ (b : Act) W, b.tmps[199]? = some (.slice av N cv) → b.tmps[200]? = some (.int .i64 (k : Int)) → (execOp b.eval o4).run Try.prog W = .ok (.value S1) W)
    (hs2 : ∀ (b : Act) W, b.tmps[204]? = some (.slice av N cv) → b.tmps[206]? = some (.int .i64 ((k : Int) + 1)) → (execOp b.eval o10).run Try.prog W = .ok (.value S2) W)
    (src1 : Src w S1 m1 xs1) (xl1 : xs1.length = m1 * 4) (xo1 : ∀ y ∈ xs1, y.oneCell' = true) (src2 : Src w S2 m2 xs2) (xl2 : xs2.length = m2 * 4) (xo2 : ∀ y ∈ xs2, y.oneCell' = true) (hbd : m1 + m2 ≤ 1000)
    (rn : Region.ready .any [o0, o1, o2, o3, o4, o5, o6, o7, o8, o9, o10, o11].toArray (#[false, true, true, true, true, false, true, true, true, true, true, false] : Array Bool) = [0]) (rA : Region.ready .any [o0, o1, o2, o3, o4, o5, o6, o7, o8, o9, o10, o11].toArray ((#[false, true, true, true, true, false, true, true, true, true, true, false] : Array Bool).setIfInBounds 0 true) = [5]) (rB : Region.ready .any [o0, o1, o2, o3, o4, o5, o6, o7, o8, o9, o10, o11].toArray (((#[false, true, true, true, true, false, true, true, true, true, true, false] : Array Bool).setIfInBounds 0 true).setIfInBounds 5 true) = [11]) (rE : Region.ready .any [o0, o1, o2, o3, o4, o5, o6, o7, o8, o9, o10, o11].toArray ((((#[false, true, true, true, true, false, true, true, true, true, true, false] : Array Bool).setIfInBounds 0 true).setIfInBounds 5 true).setIfInBounds 11 true) = [])
    (hQ : ∀ c a d v w, Q (.panic c) (Act.put a d v) w → Q (.panic c) a w)
    (fin : ∀ vA vB ad c W', W'.ownsRow w.heap.size 40 4 (.slice ad (m1 + m2) c) (m1 + m2) (xs1 ++ xs2) → Below w.heap.size w W' → Q .normal (((((((((((((a.put (some 198) (.pointer (some ⟨r, 4, none⟩))).put (some 199) (.slice av N cv)).put (some 200) (.int .i64 (k : Int))).put (some 201) (S1)).put (some 203) (.pointer (some ⟨r, 4, none⟩))).put (some 204) (.slice av N cv)).put (some 205) (.int .i64 (k : Int))).put (some 206) (.int .i64 ((k : Int) + 1))).put (some 207) (S2)).put (some 197) vA).put (some 202) vB).put (some 208) (.slice ad (m1 + m2) c)).put (some 209) (.pointer (some ⟨r, 4, none⟩))) (W'.setCell ⟨r, 4, none⟩ (.slice ad (m1 + m2) c))) :
    (Code.region id l1.toArray true).wp Try.prog Q a w := by
  obtain ⟨af, haf⟩ : ∃ af, af = (((((((((a.put (some 198) (.pointer (some ⟨r, 4, none⟩))).put (some 199) (.slice av N cv)).put (some 200) (.int .i64 (k : Int))).put (some 201) (S1)).put (some 203) (.pointer (some ⟨r, 4, none⟩))).put (some 204) (.slice av N cv)).put (some 205) (.int .i64 (k : Int))).put (some 206) (.int .i64 ((k : Int) + 1))).put (some 207) (S2)) := ⟨_, rfl⟩
  rw [← haf] at fin
  have fsz : af.tmps.size = 211 := by rw [haf]; simp only [gput_sz]; exact hsz
  have k2 : af.tmps[2]? = some (.pointer (some ⟨r, 0, none⟩)) := by rw [haf]; rw [gput_ne (by decide), gput_ne (by decide), gput_ne (by decide), gput_ne (by decide), gput_ne (by decide), gput_ne (by decide), gput_ne (by decide), gput_ne (by decide), gput_ne (by decide)]; exact h2
  have k8 : af.tmps[15]? = some (.int .i64 (k : Int)) := by rw [haf]; rw [gput_ne (by decide), gput_ne (by decide), gput_ne (by decide), gput_ne (by decide), gput_ne (by decide), gput_ne (by decide), gput_ne (by decide), gput_ne (by decide), gput_ne (by decide)]; exact hK
  have f198 : af.tmps[198]? = some (.pointer (some ⟨r, 4, none⟩)) := by rw [haf]; rw [gput_ne (by decide), gput_ne (by decide), gput_ne (by decide), gput_ne (by decide), gput_ne (by decide), gput_ne (by decide), gput_ne (by decide), gput_ne (by decide), gput_at (by first | (rw [hsz]; decide) | (simp only [gput_sz]; rw [hsz]; decide))]
  have f199 : af.tmps[199]? = some (.slice av N cv) := by rw [haf]; rw [gput_ne (by decide), gput_ne (by decide), gput_ne (by decide), gput_ne (by decide), gput_ne (by decide), gput_ne (by decide), gput_ne (by decide), gput_at (by first | (rw [hsz]; decide) | (simp only [gput_sz]; rw [hsz]; decide))]
  have f200 : af.tmps[200]? = some (.int .i64 (k : Int)) := by rw [haf]; rw [gput_ne (by decide), gput_ne (by decide), gput_ne (by decide), gput_ne (by decide), gput_ne (by decide), gput_ne (by decide), gput_at (by first | (rw [hsz]; decide) | (simp only [gput_sz]; rw [hsz]; decide))]
  have f201 : af.tmps[201]? = some (S1) := by rw [haf]; rw [gput_ne (by decide), gput_ne (by decide), gput_ne (by decide), gput_ne (by decide), gput_ne (by decide), gput_at (by first | (rw [hsz]; decide) | (simp only [gput_sz]; rw [hsz]; decide))]
  have f203 : af.tmps[203]? = some (.pointer (some ⟨r, 4, none⟩)) := by rw [haf]; rw [gput_ne (by decide), gput_ne (by decide), gput_ne (by decide), gput_ne (by decide), gput_at (by first | (rw [hsz]; decide) | (simp only [gput_sz]; rw [hsz]; decide))]
  have f204 : af.tmps[204]? = some (.slice av N cv) := by rw [haf]; rw [gput_ne (by decide), gput_ne (by decide), gput_ne (by decide), gput_at (by first | (rw [hsz]; decide) | (simp only [gput_sz]; rw [hsz]; decide))]
  have f205 : af.tmps[205]? = some (.int .i64 (k : Int)) := by rw [haf]; rw [gput_ne (by decide), gput_ne (by decide), gput_at (by first | (rw [hsz]; decide) | (simp only [gput_sz]; rw [hsz]; decide))]
  have f206 : af.tmps[206]? = some (.int .i64 ((k : Int) + 1)) := by rw [haf]; rw [gput_ne (by decide), gput_at (by first | (rw [hsz]; decide) | (simp only [gput_sz]; rw [hsz]; decide))]
  have f207 : af.tmps[207]? = some (S2) := by rw [haf]; rw [gput_at (by first | (rw [hsz]; decide) | (simp only [gput_sz]; rw [hsz]; decide))]
  have HS : Below w.heap.size w w.drew := (Below.refl _ _).drew
  refine wp_region_tail 12 (fun W => Below w.heap.size w W) (by kernel_rfl) hok ?_
  rw [hl1, hlast]
  have hput : putIdx af [o0, o1, o2, o3, o4, o5, o6, o7, o8, o9, o10, o11].toArray [1, 2, 3, 4, 6, 7, 8, 9, 10] a = af := by
    have e : putIdx af [o0, o1, o2, o3, o4, o5, o6, o7, o8, o9, o10, o11].toArray [1, 2, 3, 4, 6, 7, 8, 9, 10] a = (((((((((a.put (some 198) (.pointer (some ⟨r, 4, none⟩))).put (some 199) (.slice av N cv)).put (some 200) (.int .i64 (k : Int))).put (some 201) (S1)).put (some 203) (.pointer (some ⟨r, 4, none⟩))).put (some 204) (.slice av N cv)).put (some 205) (.int .i64 (k : Int))).put (some 206) (.int .i64 ((k : Int) + 1))).put (some 207) (S2)) := by
      simp only [putIdx, List.getElem?_toArray, List.getElem?_cons_succ, List.getElem?_cons_zero, Option.bind_some, t1, t2, t3, t4, t6, t7, t8, t9, t10, ggetD f198, ggetD f199, ggetD f200, ggetD f201, ggetD f203, ggetD f204, ggetD f205, ggetD f206, ggetD f207]
    rw [e, haf]
  refine takes (P := Try.prog) (Q := tailQ Try.prog Q [o12, o13]) (S := fun W => Below w.heap.size w W) (idx := [1, 2, 3, 4, 6, 7, 8, 9, 10]) (af := af) (fuel := 3) hns (fun c a d v w h => hQ c a d v w h) HS _ _ htk hput ?_ ?_
  · refine ⟨⟨o1, 198, _, rfl, t1, f198, ?_⟩, ⟨o2, 199, _, rfl, t2, f199, ?_⟩, ⟨o3, 200, _, rfl, t3, f200, ?_⟩, ⟨o4, 201, _, rfl, t4, f201, ?_⟩, ⟨o6, 203, _, rfl, t6, f203, ?_⟩, ⟨o7, 204, _, rfl, t7, f204, ?_⟩, ⟨o8, 205, _, rfl, t8, f205, ?_⟩, ⟨o9, 206, _, rfl, t9, f206, ?_⟩, ⟨o10, 207, _, rfl, t10, f207, ?_⟩, trivial⟩
    · intro W hW
      have kF := (hW.cell (p := ⟨r, 4, none⟩) (gcell_lt c2)).trans c2
      clear fin haf hput htk hns hok fsz hsz hQ rn rA rB rE h2 hK c2 fz HS hs1 hs2 src1 src2 hl1 hlast xl1 xo1 xl2 xo2
      obtain ⟨d, op, ty, pos, aft, gd⟩ := o1
      simp only at p1
      subst p1
      go_simp
    · intro W hW
      have kF := (hW.cell (p := ⟨r, 4, none⟩) (gcell_lt c2)).trans c2
      clear fin haf hput htk hns hok fsz hsz hQ rn rA rB rE h2 hK c2 fz HS hs1 hs2 src1 src2 hl1 hlast xl1 xo1 xl2 xo2
      obtain ⟨d, op, ty, pos, aft, gd⟩ := o2
      simp only at p2
      subst p2
      go_simp
    · intro W hW
      have kF := (hW.cell (p := ⟨r, 4, none⟩) (gcell_lt c2)).trans c2
      clear fin haf hput htk hns hok fsz hsz hQ rn rA rB rE h2 hK c2 fz HS hs1 hs2 src1 src2 hl1 hlast xl1 xo1 xl2 xo2
      obtain ⟨d, op, ty, pos, aft, gd⟩ := o3
      simp only at p3
      subst p3
      go_simp
    · intro W hW
      have kF := (hW.cell (p := ⟨r, 4, none⟩) (gcell_lt c2)).trans c2
      exact hs1 af W f199 f200
    · intro W hW
      have kF := (hW.cell (p := ⟨r, 4, none⟩) (gcell_lt c2)).trans c2
      clear fin haf hput htk hns hok fsz hsz hQ rn rA rB rE h2 hK c2 fz HS hs1 hs2 src1 src2 hl1 hlast xl1 xo1 xl2 xo2
      obtain ⟨d, op, ty, pos, aft, gd⟩ := o6
      simp only at p6
      subst p6
      go_simp
    · intro W hW
      have kF := (hW.cell (p := ⟨r, 4, none⟩) (gcell_lt c2)).trans c2
      clear fin haf hput htk hns hok fsz hsz hQ rn rA rB rE h2 hK c2 fz HS hs1 hs2 src1 src2 hl1 hlast xl1 xo1 xl2 xo2
      obtain ⟨d, op, ty, pos, aft, gd⟩ := o7
      simp only at p7
      subst p7
      go_simp
    · intro W hW
      have kF := (hW.cell (p := ⟨r, 4, none⟩) (gcell_lt c2)).trans c2
      clear fin haf hput htk hns hok fsz hsz hQ rn rA rB rE h2 hK c2 fz HS hs1 hs2 src1 src2 hl1 hlast xl1 xo1 xl2 xo2
      obtain ⟨d, op, ty, pos, aft, gd⟩ := o8
      simp only at p8
      subst p8
      go_simp
    · intro W hW
      have kF := (hW.cell (p := ⟨r, 4, none⟩) (gcell_lt c2)).trans c2
      clear fin haf hput htk hns hok fsz hsz hQ rn rA rB rE h2 hK c2 fz HS hs1 hs2 src1 src2 hl1 hlast xl1 xo1 xl2 xo2
      obtain ⟨d, op, ty, pos, aft, gd⟩ := o9
      simp only at p9
      subst p9
      go_simp
      rw [IntKind.wrap_i64]
      omega
    · intro W hW
      have kF := (hW.cell (p := ⟨r, 4, none⟩) (gcell_lt c2)).trans c2
      exact hs2 af W f204 f206
  have em : markIdx [1, 2, 3, 4, 6, 7, 8, 9, 10] (Array.replicate [o0, o1, o2, o3, o4, o5, o6, o7, o8, o9, o10, o11].length false) = #[false, true, true, true, true, false, true, true, true, true, true, false] := by kernel_rfl
  rw [em]
  refine gtail_row eltM (iA := 0) (iB := 5) (dA := 197) (dB := 202) (dv := 201) (fuel := 1) (m := m1) (xs := xs1) (w0 := w) (oA := o0) (oB := o5) rfl rfl g0 g5 (fun a W => run_p0 p0 a W) p5 t0 t5 rn rA (by decide) (by rw [fsz]; decide) f201 src1 xl1 xo1 (by omega) HS ?_
  intro vA vB W hW hB
  have q1 : ((af.put (some 197) vA).put (some 202) vB).tmps[202]? = some vB := gput_at (by rw [gput_sz, fsz]; decide)
  have q2 : ((af.put (some 197) vA).put (some 202) vB).tmps[207]? = some S2 := by rw [gput_ne (by decide), gput_ne (by decide)]; exact f207
  have q3 : ((af.put (some 197) vA).put (some 202) vB).tmps[2]? = some (.pointer (some ⟨r, 0, none⟩)) := by rw [gput_ne (by decide), gput_ne (by decide)]; exact k2
  have qsz : ((af.put (some 197) vA).put (some 202) vB).tmps.size = 211 := by rw [gput_sz, gput_sz, fsz]
  have fin2 := fin vA vB
  generalize (af.put (some 197) vA).put (some 202) vB = b3 at *
  refine gtail_more eltM (iB := 11) (dA := 202) (dv := 207) (dB := 208) (fuel := 0) (oB := o11) (w0 := w) rfl g11 p11 t11 rB q1 q2 hB src2 xl2 xo2 (by omega) hW ?_
  intro vC W2 hW2 hC
  obtain ⟨ad, c, rfl⟩ := own_form2 hC
  have s3 : (b3.put (some 208) (.slice ad (m1 + m2) c)).tmps[2]? = some (.pointer (some ⟨r, 0, none⟩)) := (gput_ne (by decide)).trans q3
  exact sfin_t rE p12 t12 p13 t13 s3 (gput_at (by rw [qsz]; decide)) (by decide) (by rw [gput_sz, qsz]; decide) ((hW2.cell (p := ⟨r, 4, none⟩) (gcell_lt c2)).trans c2) (fz W2 hW2) (fin2 ad c W2 hC hW2)


end Go.Proofs.Ytimmjhegeagofab
