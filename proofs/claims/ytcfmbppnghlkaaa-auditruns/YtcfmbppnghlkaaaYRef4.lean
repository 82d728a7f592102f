/- The document's New. -/
import Derived.Test.YtcfmbppnghlkaaaYRef2
import Derived.Test.YtcfmbppnghlkaaaKTakes
import Derived.Test.YtcfmbppnghlkaaaJQuiet
namespace Go.Proofs.Ytcfmbppnghlkaaa
open Go.RowKit Go.Sort
set_option maxRecDepth 100000

theorem eltRR : Elt 23 38 4 32 (recV rec0) := ⟨Try.underlying23, infoRc, rfl, by decide, by decide⟩
theorem run_r0 {o : Oper} (hop : o.op = .buildSlice 23 0 #[]) (a : Act) (W : World) : (execOp a.eval o).run Try.prog W = .ok (.value (.slice (some ⟨W.heap.size, 0, none⟩) 0 0)) (W.alloc (.cells #[] 38)) := by
  obtain ⟨d, op, ty, pos, aft, gd⟩ := o
  simp only at hop
  subst hop
  go_simp
theorem run_r1 {o : Oper} {r : Rc} (hop : o.op = .buildSlice 23 1 #[(0, .tmp 45)]) (a : Act) (W : World) (h : a.tmps[45]? = some (recV r)) : (execOp a.eval o).run Try.prog W = .ok (.value (.slice (some ⟨W.heap.size, 0, none⟩) 1 1)) (W.alloc (.cells (encR r).toArray 38)) := by
  obtain ⟨d, op, ty, pos, aft, gd⟩ := o
  simp only at hop
  subst hop
  go_simp
  rfl
/-- the last ones wait for all before them, one behind the other -/
theorem wp_region_tail {P : Program} {id : Nat} {Q : Exit → Act → World → Prop} {a : Act} {w : World} {l1 : List Oper} (n : Nat) (S : World → Prop) (hm : P.follows .mixedOrders = true) (hok : tailOk (l1.take n) (l1.drop n) = true)
    (h : wpAnyH P .any (l1.take n).toArray (tailQ P Q (l1.drop n)) S (l1.take n).length (Array.replicate (l1.take n).length false) a w.drew) : (Code.region id l1.toArray true).wp P Q a w := by
  refine wp_region_any hm ?_
  have h1 := split_tail (l1.drop n) (l1.take n) a w.drew hok (wpAny_of_held _ _ _ _ h)
  rw [List.take_append_drop] at h1
  simpa using h1
set_option maxHeartbeats 2000000 in
theorem radd_region {id : Nat} {Q : Exit → Act → World → Prop} {a : Act} {w : World} {l1 : List Oper} {o0 o1 o2 o3 o4 o5 o6 o7 o8 o9 o10 o11 o12 : Oper} {q rb m : Nat} {lv : Value} {r : Rc} {xs : List Value} (hl1 : l1.take 10 = [o0, o1, o2, o3, o4, o5, o6, o7, o8, o9]) (hlast : l1.drop 10 = [o10, o11, o12])
    (hok : tailOk (l1.take 10) (l1.drop 10) = true) (hns : Region.noSelect [o0, o1, o2, o3, o4, o5, o6, o7, o8, o9].toArray = true) (htk : takesOk [o0, o1, o2, o3, o4, o5, o6, o7, o8, o9].toArray [0, 2, 3, 4, 5, 7] (Array.replicate 10 false) = true)
    (p0 : o0.op = .move (.tmp 0)) (p1 : o1.op = .buildSlice 23 0 #[]) (p2 : o2.op = .move (.tmp 0)) (p3 : o3.op = .nilCheck (.tmp 40)) (p4 : o4.op = .fieldAddr 65 (.tmp 41) 1) (p5 : o5.op = .load 23 (.tmp 42)) (p6 : o6.op = .call { callee := .builtin .append, args := #[.tmp 39, .tmp 43], argTypes := #[23, 23] }) (p7 : o7.op = .load 38 (.tmp 3)) (p8 : o8.op = .buildSlice 23 1 #[(0, .tmp 45)]) (p9 : o9.op = .call { callee := .builtin .append, args := #[.tmp 44, .tmp 46], argTypes := #[23, 23] }) (p10 : o10.op = .nilCheck (.tmp 38)) (p11 : o11.op = .fieldAddr 65 (.tmp 48) 1) (p12 : o12.op = .store 23 (.tmp 49) (.tmp 47))
    (g1 : o1.guard = none) (g6 : o6.guard = none) (g8 : o8.guard = none) (g9 : o9.guard = none)
    (t0 : o0.dst = some 38) (t1 : o1.dst = some 39) (t2 : o2.dst = some 40) (t3 : o3.dst = some 41) (t4 : o4.dst = some 42) (t5 : o5.dst = some 43) (t6 : o6.dst = some 44) (t7 : o7.dst = some 45) (t8 : o8.dst = some 46) (t9 : o9.dst = some 47) (t10 : o10.dst = some 48) (t11 : o11.dst = some 49) (t12 : o12.dst = none)
    (hsz : a.tmps.size = 50)
    (h0 : a.tmps[0]? = some (.pointer (some ⟨q, 0, none⟩))) (h3 : a.tmps[3]? = some (.pointer (some ⟨rb, 0, none⟩))) (cL : w.cell? ⟨q, 1, none⟩ = some lv) (k0 : w.cell? ⟨rb, 0, none⟩ = some (.int .i64 r.t)) (k1 : w.cell? ⟨rb, 1, none⟩ = some (.int .i64 r.s)) (k2 : w.cell? ⟨rb, 2, none⟩ = some (.int .i64 r.g)) (k3 : w.cell? ⟨rb, 3, none⟩ = some (.int .u64 r.p)) (fz : ∀ W, Below w.heap.size w W → W.frozen? ⟨q, 1, none⟩ = false)
    (src1 : Src w lv m xs) (xl1 : xs.length = m * 4) (xo1 : ∀ y ∈ xs, y.oneCell' = true) (hbd : m ≤ 900000)
    (rn : Region.ready .any [o0, o1, o2, o3, o4, o5, o6, o7, o8, o9].toArray (#[true, false, true, true, true, true, false, true, false, false] : Array Bool) = [1, 8]) (rA : Region.ready .any [o0, o1, o2, o3, o4, o5, o6, o7, o8, o9].toArray ((#[true, false, true, true, true, true, false, true, false, false] : Array Bool).setIfInBounds 1 true) = [6, 8]) (rC : Region.ready .any [o0, o1, o2, o3, o4, o5, o6, o7, o8, o9].toArray ((#[true, false, true, true, true, true, false, true, false, false] : Array Bool).setIfInBounds 8 true) = [1]) (rAB : Region.ready .any [o0, o1, o2, o3, o4, o5, o6, o7, o8, o9].toArray (((#[true, false, true, true, true, true, false, true, false, false] : Array Bool).setIfInBounds 1 true).setIfInBounds 6 true) = [8]) (rAC : Region.ready .any [o0, o1, o2, o3, o4, o5, o6, o7, o8, o9].toArray (((#[true, false, true, true, true, true, false, true, false, false] : Array Bool).setIfInBounds 1 true).setIfInBounds 8 true) = [6]) (rCA : Region.ready .any [o0, o1, o2, o3, o4, o5, o6, o7, o8, o9].toArray (((#[true, false, true, true, true, true, false, true, false, false] : Array Bool).setIfInBounds 8 true).setIfInBounds 1 true) = [6]) (rABC : Region.ready .any [o0, o1, o2, o3, o4, o5, o6, o7, o8, o9].toArray ((((#[true, false, true, true, true, true, false, true, false, false] : Array Bool).setIfInBounds 1 true).setIfInBounds 6 true).setIfInBounds 8 true) = [9]) (rE : Region.ready .any [o0, o1, o2, o3, o4, o5, o6, o7, o8, o9].toArray (((((#[true, false, true, true, true, true, false, true, false, false] : Array Bool).setIfInBounds 1 true).setIfInBounds 6 true).setIfInBounds 8 true).setIfInBounds 9 true) = [])
    (hQ : ∀ c a d v w, Q (.panic c) (Act.put a d v) w → Q (.panic c) a w)
    (fin : ∀ vA vB vC vD W', W'.ownsRow w.heap.size 38 4 vD (m + 1) (xs ++ encR r) → Below w.heap.size w W' → Q .normal ((((((((((((a.put (some 38) (.pointer (some ⟨q, 0, none⟩))).put (some 40) (.pointer (some ⟨q, 0, none⟩))).put (some 41) (.pointer (some ⟨q, 0, none⟩))).put (some 42) (.pointer (some ⟨q, 1, none⟩))).put (some 43) (lv)).put (some 45) (recV r)).put (some 39) vA).put (some 44) vB).put (some 46) vC).put (some 47) vD).put (some 48) (.pointer (some ⟨q, 0, none⟩))).put (some 49) (.pointer (some ⟨q, 1, none⟩))) (W'.setCell ⟨q, 1, none⟩ vD)) :
    (Code.region id l1.toArray true).wp Try.prog Q a w := by
  obtain ⟨af, haf⟩ : ∃ af, af = ((((((a.put (some 38) (.pointer (some ⟨q, 0, none⟩))).put (some 40) (.pointer (some ⟨q, 0, none⟩))).put (some 41) (.pointer (some ⟨q, 0, none⟩))).put (some 42) (.pointer (some ⟨q, 1, none⟩))).put (some 43) (lv)).put (some 45) (recV r)) := ⟨_, rfl⟩
  rw [← haf] at fin
  have fsz : af.tmps.size = 50 := by rw [haf]; simp only [gput_sz]; exact hsz
  have f0 : af.tmps[0]? = some (.pointer (some ⟨q, 0, none⟩)) := by rw [haf]; rw [gput_ne (by decide), gput_ne (by decide), gput_ne (by decide), gput_ne (by decide), gput_ne (by decide), gput_ne (by decide)]; exact h0
  have f3 : af.tmps[3]? = some (.pointer (some ⟨rb, 0, none⟩)) := by rw [haf]; rw [gput_ne (by decide), gput_ne (by decide), gput_ne (by decide), gput_ne (by decide), gput_ne (by decide), gput_ne (by decide)]; exact h3
  have f38 : af.tmps[38]? = some (.pointer (some ⟨q, 0, none⟩)) := by rw [haf]; rw [gput_ne (by decide), gput_ne (by decide), gput_ne (by decide), gput_ne (by decide), gput_ne (by decide), gput_at (by first | (rw [hsz]; decide) | (simp only [gput_sz]; rw [hsz]; decide))]
  have f40 : af.tmps[40]? = some (.pointer (some ⟨q, 0, none⟩)) := by rw [haf]; rw [gput_ne (by decide), gput_ne (by decide), gput_ne (by decide), gput_ne (by decide), gput_at (by first | (rw [hsz]; decide) | (simp only [gput_sz]; rw [hsz]; decide))]
  have f41 : af.tmps[41]? = some (.pointer (some ⟨q, 0, none⟩)) := by rw [haf]; rw [gput_ne (by decide), gput_ne (by decide), gput_ne (by decide), gput_at (by first | (rw [hsz]; decide) | (simp only [gput_sz]; rw [hsz]; decide))]
  have f42 : af.tmps[42]? = some (.pointer (some ⟨q, 1, none⟩)) := by rw [haf]; rw [gput_ne (by decide), gput_ne (by decide), gput_at (by first | (rw [hsz]; decide) | (simp only [gput_sz]; rw [hsz]; decide))]
  have f43 : af.tmps[43]? = some (lv) := by rw [haf]; rw [gput_ne (by decide), gput_at (by first | (rw [hsz]; decide) | (simp only [gput_sz]; rw [hsz]; decide))]
  have f45 : af.tmps[45]? = some (recV r) := by rw [haf]; rw [gput_at (by first | (rw [hsz]; decide) | (simp only [gput_sz]; rw [hsz]; decide))]
  have HS : Below w.heap.size w w.drew := (Below.refl _ _).drew
  refine wp_region_tail 10 (fun W => Below w.heap.size w W) (by kernel_rfl) hok ?_
  rw [hl1, hlast]
  have hput : putIdx af [o0, o1, o2, o3, o4, o5, o6, o7, o8, o9].toArray [0, 2, 3, 4, 5, 7] a = af := by
    have e : putIdx af [o0, o1, o2, o3, o4, o5, o6, o7, o8, o9].toArray [0, 2, 3, 4, 5, 7] a = ((((((a.put (some 38) (.pointer (some ⟨q, 0, none⟩))).put (some 40) (.pointer (some ⟨q, 0, none⟩))).put (some 41) (.pointer (some ⟨q, 0, none⟩))).put (some 42) (.pointer (some ⟨q, 1, none⟩))).put (some 43) (lv)).put (some 45) (recV r)) := by
      simp only [putIdx, List.getElem?_toArray, List.getElem?_cons_succ, List.getElem?_cons_zero, Option.bind_some, t0, t2, t3, t4, t5, t7, ggetD f38, ggetD f40, ggetD f41, ggetD f42, ggetD f43, ggetD f45]
    rw [e, haf]
  refine takes (P := Try.prog) (Q := tailQ Try.prog Q [o10, o11, o12]) (S := fun W => Below w.heap.size w W) (idx := [0, 2, 3, 4, 5, 7]) (af := af) (fuel := 4) hns (fun c a d v w h => hQ c a d v w h) HS _ _ htk hput ?_ ?_
  · refine ⟨⟨o0, 38, _, rfl, t0, f38, ?_⟩, ⟨o2, 40, _, rfl, t2, f40, ?_⟩, ⟨o3, 41, _, rfl, t3, f41, ?_⟩, ⟨o4, 42, _, rfl, t4, f42, ?_⟩, ⟨o5, 43, _, rfl, t5, f43, ?_⟩, ⟨o7, 45, _, rfl, t7, f45, ?_⟩, trivial⟩
    · intro W hW
      have kL := (hW.cell (p := ⟨q, 1, none⟩) (gcell_lt cL)).trans cL
      have j0 := (hW.cell (p := ⟨rb, 0, none⟩) (gcell_lt k0)).trans k0
      have j1 := (hW.cell (p := ⟨rb, 1, none⟩) (gcell_lt k1)).trans k1
      have j2 := (hW.cell (p := ⟨rb, 2, none⟩) (gcell_lt k2)).trans k2
      have j3 := (hW.cell (p := ⟨rb, 3, none⟩) (gcell_lt k3)).trans k3
      clear fin haf hput htk hns hok fsz hsz hQ hl1 hlast fz src1 xl1 xo1 hbd cL k0 k1 k2 k3
      obtain ⟨d, op, ty, pos, aft, gd⟩ := o0
      simp only at p0
      subst p0
      go_simp
    · intro W hW
      have kL := (hW.cell (p := ⟨q, 1, none⟩) (gcell_lt cL)).trans cL
      have j0 := (hW.cell (p := ⟨rb, 0, none⟩) (gcell_lt k0)).trans k0
      have j1 := (hW.cell (p := ⟨rb, 1, none⟩) (gcell_lt k1)).trans k1
      have j2 := (hW.cell (p := ⟨rb, 2, none⟩) (gcell_lt k2)).trans k2
      have j3 := (hW.cell (p := ⟨rb, 3, none⟩) (gcell_lt k3)).trans k3
      clear fin haf hput htk hns hok fsz hsz hQ hl1 hlast fz src1 xl1 xo1 hbd cL k0 k1 k2 k3
      obtain ⟨d, op, ty, pos, aft, gd⟩ := o2
      simp only at p2
      subst p2
      go_simp
    · intro W hW
      have kL := (hW.cell (p := ⟨q, 1, none⟩) (gcell_lt cL)).trans cL
      have j0 := (hW.cell (p := ⟨rb, 0, none⟩) (gcell_lt k0)).trans k0
      have j1 := (hW.cell (p := ⟨rb, 1, none⟩) (gcell_lt k1)).trans k1
      have j2 := (hW.cell (p := ⟨rb, 2, none⟩) (gcell_lt k2)).trans k2
      have j3 := (hW.cell (p := ⟨rb, 3, none⟩) (gcell_lt k3)).trans k3
      clear fin haf hput htk hns hok fsz hsz hQ hl1 hlast fz src1 xl1 xo1 hbd cL k0 k1 k2 k3
      obtain ⟨d, op, ty, pos, aft, gd⟩ := o3
      simp only at p3
      subst p3
      go_simp
    · intro W hW
      have kL := (hW.cell (p := ⟨q, 1, none⟩) (gcell_lt cL)).trans cL
      have j0 := (hW.cell (p := ⟨rb, 0, none⟩) (gcell_lt k0)).trans k0
      have j1 := (hW.cell (p := ⟨rb, 1, none⟩) (gcell_lt k1)).trans k1
      have j2 := (hW.cell (p := ⟨rb, 2, none⟩) (gcell_lt k2)).trans k2
      have j3 := (hW.cell (p := ⟨rb, 3, none⟩) (gcell_lt k3)).trans k3
      clear fin haf hput htk hns hok fsz hsz hQ hl1 hlast fz src1 xl1 xo1 hbd cL k0 k1 k2 k3
      obtain ⟨d, op, ty, pos, aft, gd⟩ := o4
      simp only at p4
      subst p4
      go_simp
    · intro W hW
      have kL := (hW.cell (p := ⟨q, 1, none⟩) (gcell_lt cL)).trans cL
      have j0 := (hW.cell (p := ⟨rb, 0, none⟩) (gcell_lt k0)).trans k0
      have j1 := (hW.cell (p := ⟨rb, 1, none⟩) (gcell_lt k1)).trans k1
      have j2 := (hW.cell (p := ⟨rb, 2, none⟩) (gcell_lt k2)).trans k2
      have j3 := (hW.cell (p := ⟨rb, 3, none⟩) (gcell_lt k3)).trans k3
      clear fin haf hput htk hns hok fsz hsz hQ hl1 hlast fz src1 xl1 xo1 hbd cL k0 k1 k2 k3
      obtain ⟨d, op, ty, pos, aft, gd⟩ := o5
      simp only at p5
      subst p5
      go_simp
    · intro W hW
      have kL := (hW.cell (p := ⟨q, 1, none⟩) (gcell_lt cL)).trans cL
      have j0 := (hW.cell (p := ⟨rb, 0, none⟩) (gcell_lt k0)).trans k0
      have j1 := (hW.cell (p := ⟨rb, 1, none⟩) (gcell_lt k1)).trans k1
      have j2 := (hW.cell (p := ⟨rb, 2, none⟩) (gcell_lt k2)).trans k2
      have j3 := (hW.cell (p := ⟨rb, 3, none⟩) (gcell_lt k3)).trans k3
      clear fin haf hput htk hns hok fsz hsz hQ hl1 hlast fz src1 xl1 xo1 hbd cL k0 k1 k2 k3
      obtain ⟨d, op, ty, pos, aft, gd⟩ := o7
      simp only at p7
      subst p7
      go_simp
  have em : markIdx [0, 2, 3, 4, 5, 7] (Array.replicate [o0, o1, o2, o3, o4, o5, o6, o7, o8, o9].length false) = #[true, false, true, true, true, true, false, true, false, false] := by kernel_rfl
  rw [em]
  refine gtail_snoc eltRR (iA := 1) (iB := 6) (iC := 8) (iD := 9) (dA := 39) (dB := 44) (dC := 46) (dD := 47) (dv := 43) (dx := 45) (fuel := 0) (m := m) (xs := xs) (ys := encR r) (X := recV r) (w0 := w) (oA := o1) (oB := o6) (oC := o8) (oD := o9) rfl rfl rfl rfl g1 g6 g8 g9 (fun a W => run_r0 p1 a W) p6 (fun a W h => run_r1 p8 a W h) p9 t1 t6 t8 t9 rn rA rC rAB rAC rCA rABC (by decide) (by decide) (by rw [fsz]; decide) f43 f45 src1 xl1 xo1 rfl (by rw [← encRs_one]; exact encRs_one1 _) hbd HS ?_
  intro vA vB vC vD W hW hD
  obtain ⟨ua, uc, hvD, _⟩ := own_at hD
  have q47 : (((((af.put (some 39) vA).put (some 44) vB).put (some 46) vC).put (some 47) vD)).tmps[47]? = some vD := gput_at (by simp only [gput_sz]; rw [fsz]; decide)
  have q38 : (((((af.put (some 39) vA).put (some 44) vB).put (some 46) vC).put (some 47) vD)).tmps[38]? = some (.pointer (some ⟨q, 0, none⟩)) := by rw [gput_ne (by decide), gput_ne (by decide), gput_ne (by decide), gput_ne (by decide)]; exact f38
  have qsz : (((((af.put (some 39) vA).put (some 44) vB).put (some 46) vC).put (some 47) vD)).tmps.size = 50 := by simp only [gput_sz]; exact fsz
  have hfin := fin vA vB vC vD W hD hW
  have hcell := (hW.cell (p := ⟨q, 1, none⟩) (gcell_lt cL)).trans cL
  have hfz := fz W hW
  generalize ((((af.put (some 39) vA).put (some 44) vB).put (some 46) vC).put (some 47) vD) = a1 at *
  clear fin haf hput htk hns hok hl1 hlast src1 xl1 xo1 hsz
  refine wpAnyH_done rE ?_ _
  refine tailQ_of _ _ _ ?_
  unfold tailWp
  intro K hK
  have hrun : (execOp a1.eval o10).run Try.prog W = .ok (.value (.pointer (some ⟨q, 0, none⟩))) W := by
    obtain ⟨dd, op, ty, pos, aft, g⟩ := o10
    simp only at p10
    subst p10
    clear hfin hK qsz
    go_simp
  unfold Oper.wp
  rw [hrun]
  refine hK _ _ ?_
  clear hK hrun
  rw [t10]
  have y48 : (a1.put (some 48) (.pointer (some ⟨q, 0, none⟩))).tmps[48]? = some (.pointer (some ⟨q, 0, none⟩)) := gput_at (by rw [qsz]; decide)
  have y47 : (a1.put (some 48) (.pointer (some ⟨q, 0, none⟩))).tmps[47]? = some vD := (gput_ne (by decide)).trans q47
  have ysz : (a1.put (some 48) (.pointer (some ⟨q, 0, none⟩))).tmps.size = 50 := gput_sz.trans qsz
  generalize a1.put (some 48) (.pointer (some ⟨q, 0, none⟩)) = a2 at *
  unfold tailWp
  intro K hK
  have hrun : (execOp a2.eval o11).run Try.prog W = .ok (.value (.pointer (some ⟨q, 1, none⟩))) W := by
    obtain ⟨dd, op, ty, pos, aft, g⟩ := o11
    simp only at p11
    subst p11
    clear hfin hK qsz ysz
    go_simp
  unfold Oper.wp
  rw [hrun]
  refine hK _ _ ?_
  clear hK hrun
  rw [t11]
  have z49 : (a2.put (some 49) (.pointer (some ⟨q, 1, none⟩))).tmps[49]? = some (.pointer (some ⟨q, 1, none⟩)) := gput_at (by rw [ysz]; decide)
  have z47 : (a2.put (some 49) (.pointer (some ⟨q, 1, none⟩))).tmps[47]? = some vD := (gput_ne (by decide)).trans y47
  generalize a2.put (some 49) (.pointer (some ⟨q, 1, none⟩)) = a3 at *
  unfold tailWp
  intro K hK
  have hrun : (execOp a3.eval o12).run Try.prog W = .ok .skip (W.setCell ⟨q, 1, none⟩ vD) := by
    obtain ⟨dd, op, ty, pos, aft, g⟩ := o12
    simp only at p12
    subst p12
    subst hvD
    clear hfin hK qsz ysz
    go_simp
  unfold Oper.wp
  rw [hrun]
  refine hK _ _ ?_
  unfold tailWp
  show Q .normal (a3.put o12.dst undef) _
  rw [t12]
  exact hfin

end Go.Proofs.Ytcfmbppnghlkaaa
namespace Go.Proofs.Ytcfmbppnghlkaaa
open Go.RowKit Go.Sort Go.Shelf
set_option maxRecDepth 100000

theorem Rg.added {w W : World} {q : Nat} {rv lv vD : Value} {R : List Int} {L : List Rc} {r : Rc} (x : Rg w q rv lv R L) (ho : W.ownsRow w.heap.size 38 4 vD (L.length + 1) (encRs L ++ encR r)) (hb : Below w.heap.size w W) : Rg (W.setCell ⟨q, 1, none⟩ vD) q rv vD R (L ++ [r]) ∧ But (fun b => b = q) w (W.setCell ⟨q, 1, none⟩ vD) := by
  have hq := x.pb.lt
  have n1 : rv.ownBlock ≠ some q := fun e => by
    obtain ⟨cur, h⟩ := own_cells x.rr e
    have h1 : w.heap[q]? = _ := x.pb
    rw [h] at h1; injection h1 with h1; injection h1 with _ h1; cases h1
  have n2 : vD.ownBlock ≠ some q := fun e => by have := (ho.lt q e).1; omega
  refine ⟨⟨(x.pb.below hb).set 1 vD, own_setO (eown_block x.rr fun b h => hb.block b (x.rr.lt b h).2) n1 _, ?_⟩, (But.of (S := fun b => b = q) hb).setCell (p := ⟨q, 1, none⟩) rfl _⟩
  rw [encRs_app, encRs_one, List.length_append]
  exact own_setO (own_mono2 ho (Nat.zero_le _)) n2 _
set_option maxHeartbeats 4000000 in
theorem rAdd15_no (w : World) (q : Nat) (rv lv : Value) (R : List Int) (L : List Rc) (x : Rg w q rv lv R L) (lo : Lo R L) (r : Rc) (hg : ¬ inG R r.g) : Calls Try.prog 13 #[ptr q, recV r] w fun e w' => e = .returned (.int .i64 5) ∧ Below w.heap.size w w' := by
  have hb := bxQ_below w r
  have x1 := x.below hb
  have cL := rLeft15_no (bxQ w r) q rv lv R L x1 r.g hg
  have HX : Hid (Rg (bxQ w r) q rv lv R L ∧ Below w.heap.size w (bxQ w r) ∧ L.length ≤ 100000) := ⟨x1, hb, by have := lo.total; omega⟩
  have q2 := (bxQ_blk w r).cell (i := 2) rfl
  clear x x1 hb hg lo
  unfold recV
  generalize hw1 : bxQ w r = w1 at *
  unfold bxQ at hw1
  go_enter Try.func13, Try.ntmps13
  go_wp2_with fail
  refine cL.mono ?_
  rintro e w2 ⟨rfl, hb2⟩
  have cS := rLast15 w2 q rv lv R L (HX.out.1.below hb2) HX.out.2.2
  have H2 : Hid (Below w.heap.size w w2) := Below.onto HX.out.2.1 hb2
  clear cL hb2 hw1
  unfold recV at cS
  generalize (!L.isEmpty) = bl at *
  generalize lastR L = l at *
  go_wp2_with fail
  refine cS.mono ?_
  rintro e w3 ⟨rfl, hb3⟩
  have z0 := bxZ_blk w3
  have zz0 := z0.cell (i := 0) rfl
  have zz1 := z0.cell (i := 1) rfl
  have zz2 := z0.cell (i := 2) rfl
  have zz3 := z0.cell (i := 3) rfl
  have zzf := z0.fz
  have H3 : Hid (Below w.heap.size w (w3.alloc (.cells #[.int .i64 l.t, .int .i64 l.s, .int .i64 l.g, .int .u64 l.p] 38))) := (Below.onto H2.out hb3).alloc (Below.onto H2.out hb3).size _
  clear cS hb3 z0
  unfold bxZ at *
  go_wp2_with fail
  go_ret
  exact ⟨rfl, H3.out⟩
set_option maxHeartbeats 8000000 in
theorem rAdd15 (w : World) (q : Nat) (rv lv : Value) (R : List Int) (L : List Rc) (x : Rg w q rv lv R L) (lo : Lo R L) (r : Rc) (hr : r.Ok) (hg : inG R r.g) : Calls Try.prog 13 #[ptr q, recV r] w fun e w' => e = .returned (.int .i64 (addE R L r)) ∧ ∃ lv', Rg w' q rv lv' R (addL R L r) ∧ But (fun b => b = q) w w' ∧ ∀ b, lv'.ownBlock = some b → lv.ownBlock = some b ∨ w.heap.size ≤ b := by
  have hb := bxQ_below w r
  have x1 := x.below hb
  have cL := rLeft15 (bxQ w r) q rv lv R L x1 lo r.g hg
  have HX : Hid (Rg (bxQ w r) q rv lv R L ∧ Below w.heap.size w (bxQ w r) ∧ L.length ≤ 100000) := ⟨x1, hb, by have := lo.total; omega⟩
  have q2 := (bxQ_blk w r).cell (i := 2) rfl
  have HQ : Hid (Blk (bxQ w r) w.heap.size 38 [.int .i64 r.t, .int .i64 r.s, .int .i64 r.g, .int .u64 r.p]) := bxQ_blk w r
  obtain ⟨nl, hnl⟩ : ∃ nl : Int, atR R r.g.toNat - ((ownR L r.g.toNat).length : Int) = nl := ⟨_, rfl⟩
  rw [hnl] at cL
  obtain ⟨ci, hci⟩ : ∃ ci : Int, cmpI (lastR L).t (lastR L).s r.t r.s = ci := ⟨_, rfl⟩
  obtain ⟨bl, hbl⟩ : ∃ bl : Bool, (!L.isEmpty) = bl := ⟨_, rfl⟩
  obtain ⟨eA, heA⟩ : ∃ eA, addE R L r = eA := ⟨_, rfl⟩
  obtain ⟨LA, hLA⟩ : ∃ LA, addL R L r = LA := ⟨_, rfl⟩
  have hb1 : bl = true ↔ L ≠ [] := by rw [← hbl]; cases L <;> simp
  have hE : addE R L r = if L ≠ [] ∧ ¬ (lastR L).key < r.key then 151 else if ((ownR L r.g.toNat).length : Int) < atR R r.g.toNat then 0 else 150 := by
    unfold addE
    rw [if_neg (fun h => h hg)]
  have hky : bl = true → (0 ≤ ci ↔ ¬ (lastR L).key < r.key) := fun h => by
    have := cmpI_key (lo.rok _ (lo.rise.last (List.head_mem (hb1.1 h))).1) hr
    rw [decide_eq_decide, hci] at this
    omega
  have HE : Hid ((bl = false → 0 < nl → eA = 0 ∧ LA = L ++ [r]) ∧ (bl = false → nl ≤ 0 → eA = 150 ∧ LA = L) ∧ (bl = true → 0 ≤ ci → eA = 151 ∧ LA = L) ∧ (bl = true → ci < 0 → 0 < nl → eA = 0 ∧ LA = L ++ [r]) ∧ (bl = true → ci < 0 → nl ≤ 0 → eA = 150 ∧ LA = L)) := by
    have nof : bl = false → ¬ (L ≠ [] ∧ ¬ (lastR L).key < r.key) := fun h h2 => by have := hb1.2 h2.1; rw [h] at this; cases this
    have noc : bl = true → ci < 0 → ¬ (L ≠ [] ∧ ¬ (lastR L).key < r.key) := fun h h1 h2 => by have := (hky h).2 h2.2; omega
    have z0 : ¬ (L ≠ [] ∧ ¬ (lastR L).key < r.key) → 0 < nl → eA = 0 ∧ LA = L ++ [r] := fun h h2 => by
      have e : addE R L r = 0 := by rw [hE, if_neg h, if_pos (by omega)]
      exact ⟨by rw [← heA]; exact e, by rw [← hLA]; exact addL_ok e⟩
    have z1 : ¬ (L ≠ [] ∧ ¬ (lastR L).key < r.key) → nl ≤ 0 → eA = 150 ∧ LA = L := fun h h2 => by
      have e : addE R L r = 150 := by rw [hE, if_neg h, if_neg (by omega)]
      exact ⟨by rw [← heA]; exact e, by rw [← hLA]; exact addL_no (by rw [e]; decide)⟩
    refine ⟨fun h => z0 (nof h), fun h => z1 (nof h), fun h h2 => ?_, fun h h2 => z0 (noc h h2), fun h h2 => z1 (noc h h2)⟩
    have e : addE R L r = 151 := by rw [hE, if_pos ⟨hb1.1 h, (hky h).1 h2⟩]
    exact ⟨by rw [← heA]; exact e, by rw [← hLA]; exact addL_no (by rw [e]; decide)⟩
  rw [heA, hLA]
  have HBL : Hid ((!L.isEmpty) = bl ∧ cmpI (lastR L).t (lastR L).s r.t r.s = ci) := ⟨hbl, hci⟩
  clear x x1 hb hg lo hnl hci hbl heA hLA hb1 hE hky
  unfold recV
  generalize hw1 : bxQ w r = w1 at *
  unfold bxQ at hw1
  go_enter Try.func13, Try.ntmps13
  go_wp2_with fail
  refine cL.mono ?_
  rintro e w2 ⟨rfl, hb2⟩
  have cS := rLast15 w2 q rv lv R L (HX.out.1.below hb2) HX.out.2.2
  have H2 : Hid (Below w.heap.size w w2 ∧ Below w1.heap.size w1 w2) := ⟨Below.onto HX.out.2.1 hb2, hb2⟩
  clear cL hb2 hw1 q2
  unfold recV at cS
  rw [HBL.out.1] at cS
  have hcl := HBL.out.2
  clear HBL
  generalize lastR L = l at *
  go_wp2_with fail
  refine cS.mono ?_
  rintro e w3 ⟨rfl, hb3⟩
  have z0 := bxZ_blk w3
  have zz0 := z0.cell (i := 0) rfl
  have zz1 := z0.cell (i := 1) rfl
  have zz2 := z0.cell (i := 2) rfl
  have zz3 := z0.cell (i := 3) rfl
  have zzf := z0.fz
  have hb4 : Below w3.heap.size w3 (w3.alloc (.cells #[.int .i64 l.t, .int .i64 l.s, .int .i64 l.g, .int .u64 l.p] 38)) := (Below.refl _ w3).alloc (Nat.le_refl _) _
  have l4 := blk_new w3 [.int .i64 l.t, .int .i64 l.s, .int .i64 l.g, .int .u64 l.p] 38
  have H4 : Hid (Below w.heap.size w (w3.alloc (.cells #[.int .i64 l.t, .int .i64 l.s, .int .i64 l.g, .int .u64 l.p] 38)) ∧ Rg (w3.alloc (.cells #[.int .i64 l.t, .int .i64 l.s, .int .i64 l.g, .int .u64 l.p] 38)) q rv lv R L ∧ Blk (w3.alloc (.cells #[.int .i64 l.t, .int .i64 l.s, .int .i64 l.g, .int .u64 l.p] 38)) w.heap.size 38 [.int .i64 r.t, .int .i64 r.s, .int .i64 r.g, .int .u64 r.p]) := by
    have e13 := Below.onto H2.out.2 hb3
    exact ⟨Below.onto (Below.onto H2.out.1 hb3) hb4, (HX.out.1.below e13).below hb4, (HQ.out.below e13).below hb4⟩
  have l0 := l4.cell (i := 0) rfl
  have l1 := l4.cell (i := 1) rfl
  have r0 := H4.out.2.2.cell (i := 0) rfl
  have r1 := H4.out.2.2.cell (i := 1) rfl
  clear cS hb3 z0 hb4 l4
  unfold bxZ at *
  cases bl
  · have RG : Hid (Rg _ q rv lv R L) := H4.out.2.1
    have RB : Hid (Blk _ w.heap.size 38 [.int .i64 r.t, .int .i64 r.s, .int .i64 r.g, .int .u64 r.p]) := H4.out.2.2
    have BW : Hid (Below w.heap.size w _) := H4.out.1
    clear H4 l0 l1 r0 r1 hcl
    by_cases hn : 0 < nl
    · have hn' : ¬ nl ≤ 0 := by omega
      have EQ := HE.out.1 rfl hn
      clear HE
      obtain ⟨rfl, rfl⟩ := EQ
      go_wp2_with fail
      refine radd_region (q := q) (rb := w.heap.size) (m := L.length) (lv := lv) (r := r) (xs := encRs L) rfl rfl (by kernel_rfl) (by kernel_rfl) (by kernel_rfl) rfl rfl rfl rfl rfl rfl rfl rfl rfl rfl rfl rfl rfl rfl rfl rfl rfl rfl rfl rfl rfl rfl rfl rfl rfl rfl rfl rfl rfl rfl rfl rfl rfl (RG.out.pb.cell (i := 1) rfl) (RB.out.cell (i := 0) rfl) (RB.out.cell (i := 1) rfl) (RB.out.cell (i := 2) rfl) (RB.out.cell (i := 3) rfl) (fun W hW => (RG.out.pb.below hW).fz 1) (gsrc_own RG.out.ll) (encRs_len L) (encRs_one1 L) (by have := HX.out.2.2; omega) (by kernel_rfl) (by kernel_rfl) (by kernel_rfl) (by kernel_rfl) (by kernel_rfl) (by kernel_rfl) (by kernel_rfl) (by kernel_rfl) (fun _ _ d _ _ h => by cases d <;> exact h) ?_
      intro vA vB vC vD W' hown hbw
      obtain ⟨f1, f2⟩ := RG.out.added hown hbw
      have HF : Hid (Rg (W'.setCell ⟨q, 1, none⟩ vD) q rv vD R (L ++ [r]) ∧ But (fun b => b = q) w (W'.setCell ⟨q, 1, none⟩ vD) ∧ ∀ b, vD.ownBlock = some b → lv.ownBlock = some b ∨ w.heap.size ≤ b) := ⟨f1, (But.of BW.out).trans f2, fun b h => .inr (Nat.le_trans BW.out.size (hown.lt b h).1)⟩
      clear hown hbw f1 f2
      generalize W'.setCell ⟨q, 1, none⟩ vD = W9 at *
      go_wp2_with fail
      go_ret
      exact ⟨rfl, vD, HF.out⟩
    · have hn' : nl ≤ 0 := by omega
      have EQ := HE.out.2.1 rfl hn'
      clear HE
      obtain ⟨rfl, rfl⟩ := EQ
      go_wp2_with fail
      go_ret
      exact ⟨rfl, lv, RG.out, But.of BW.out, fun b h => .inl h⟩
  · have cq := rcmp_any l.t l.s r.t r.s (w3.alloc (.cells #[.int .i64 l.t, .int .i64 l.s, .int .i64 l.g, .int .u64 l.p] 38))
    rw [hcl] at cq
    clear hcl
    go_wp2_with fail
    refine cq.mono ?_
    rintro e w5 ⟨rfl, hb5⟩
    have RG : Hid (Rg w5 q rv lv R L) := H4.out.2.1.below hb5
    have RB : Hid (Blk w5 w.heap.size 38 [.int .i64 r.t, .int .i64 r.s, .int .i64 r.g, .int .u64 r.p]) := H4.out.2.2.below hb5
    have BW : Hid (Below w.heap.size w w5) := Below.onto H4.out.1 hb5
    clear cq hb5 H4 l0 l1 r0 r1
    by_cases hc : 0 ≤ ci
    · have EQ := HE.out.2.2.1 trivial hc
      clear HE
      obtain ⟨rfl, rfl⟩ := EQ
      go_wp2_with fail
      go_ret
      exact ⟨rfl, lv, RG.out, But.of BW.out, fun b h => .inl h⟩
    · have hc' : ci < 0 := by omega
      by_cases hn : 0 < nl
      · have hn' : ¬ nl ≤ 0 := by omega
        have EQ := HE.out.2.2.2.1 trivial hc' hn
        clear HE
        obtain ⟨rfl, rfl⟩ := EQ
        go_wp2_with fail
        refine radd_region (q := q) (rb := w.heap.size) (m := L.length) (lv := lv) (r := r) (xs := encRs L) rfl rfl (by kernel_rfl) (by kernel_rfl) (by kernel_rfl) rfl rfl rfl rfl rfl rfl rfl rfl rfl rfl rfl rfl rfl rfl rfl rfl rfl rfl rfl rfl rfl rfl rfl rfl rfl rfl rfl rfl rfl rfl rfl rfl rfl (RG.out.pb.cell (i := 1) rfl) (RB.out.cell (i := 0) rfl) (RB.out.cell (i := 1) rfl) (RB.out.cell (i := 2) rfl) (RB.out.cell (i := 3) rfl) (fun W hW => (RG.out.pb.below hW).fz 1) (gsrc_own RG.out.ll) (encRs_len L) (encRs_one1 L) (by have := HX.out.2.2; omega) (by kernel_rfl) (by kernel_rfl) (by kernel_rfl) (by kernel_rfl) (by kernel_rfl) (by kernel_rfl) (by kernel_rfl) (by kernel_rfl) (fun _ _ d _ _ h => by cases d <;> exact h) ?_
        intro vA vB vC vD W' hown hbw
        obtain ⟨f1, f2⟩ := RG.out.added hown hbw
        have HF : Hid (Rg (W'.setCell ⟨q, 1, none⟩ vD) q rv vD R (L ++ [r]) ∧ But (fun b => b = q) w (W'.setCell ⟨q, 1, none⟩ vD) ∧ ∀ b, vD.ownBlock = some b → lv.ownBlock = some b ∨ w.heap.size ≤ b) := ⟨f1, (But.of BW.out).trans f2, fun b h => .inr (Nat.le_trans BW.out.size (hown.lt b h).1)⟩
        clear hown hbw f1 f2
        generalize W'.setCell ⟨q, 1, none⟩ vD = W9 at *
        go_wp2_with fail
        go_ret
        exact ⟨rfl, vD, HF.out⟩
      · have hn' : nl ≤ 0 := by omega
        have EQ := HE.out.2.2.2.2 trivial hc' hn'
        clear HE
        obtain ⟨rfl, rfl⟩ := EQ
        go_wp2_with fail
        go_ret
        exact ⟨rfl, lv, RG.out, But.of BW.out, fun b h => .inl h⟩
end Go.Proofs.Ytcfmbppnghlkaaa
namespace Go.Proofs.Ytcfmbppnghlkaaa
open Go.RowKit Go.Sort Go.Shelf
set_option maxRecDepth 100000

theorem infoI : (Try.prog.info? 3).map (fun i => (i.zero, i.size, i.bytes)) = some (some (.int .i64 0), 1, 8) := by kernel_rfl
theorem eltI15 : Elt 22 3 1 8 (.int .i64 0) := ⟨Try.underlying22, infoI, rfl, by decide, by decide⟩
theorem encI15_1 (R : List Int) : ∀ y ∈ encI15 R, y.oneCell' = true := by
  intro y hy
  unfold encI15 at hy
  obtain ⟨x, _, rfl⟩ := List.mem_map.1 hy
  rfl
/-- what the document's New makes, or tells -/
def RNewIs (w0 w : World) (R : List Int) (P : Value) (er : Int) : Prop := (er ≠ 0 ∧ P = .pointer none) ∨ (er = 0 ∧ ∃ q rv, P = ptr q ∧ Rg w q rv (.slice none 0 0) R [] ∧ w0.heap.size ≤ q ∧ ∀ b, rv.ownBlock = some b → w0.heap.size ≤ b)
set_option maxHeartbeats 2000000 in
theorem rNew_many (w : World) (a : Option Addr) (n cap : Nat) (h : 16 < n) : Calls Try.prog 10 #[.slice a n cap] w fun e w' => e = .returned (.tuple #[.pointer none, .int .i64 3]) ∧ w' = w := by
  have hn : (16 : Int) < (n : Int) := by omega
  go_enter Try.func10, Try.ntmps10
  go_wp2_with fail
  go_ret2
  exact ⟨rfl, rfl⟩
/-- a copy of the rooms -/
theorem rooms_copy (w : World) (a : Option Addr) (cap : Nat) (R : List Int) (hf : R.length ≤ 16) (hc : Cells w .i64 a R.length (atR R)) (hnil : a = none → cap = 0) :
    ∃ v' w', (Builtin.append_ #[22, 22] 22 #[.slice (some ⟨w.heap.size, 0, none⟩) 0 0, .slice a R.length cap]).run Try.prog (w.alloc (.cells #[] 3)) = .ok v' w' ∧ w'.ownsRow w.heap.size 3 1 v' R.length (encI15 R) ∧ Below w.heap.size w w' := by
  have hb1 : Below w.heap.size w (w.alloc (.cells #[] 3)) := (Below.refl _ w).alloc (Nat.le_refl _) _
  have fin : ∀ v' w', w'.ownsRow w.heap.size 3 1 v' (0 + R.length) ([] ++ encI15 R) → (w.alloc (.cells #[] 3)).grownBy w' (Value.ownBlock (.slice (some ⟨w.heap.size, 0, none⟩) 0 0)) → w'.ownsRow w.heap.size 3 1 v' R.length (encI15 R) ∧ Below w.heap.size w w' := fun v' w' h1 h2 =>
    ⟨by simpa using h1, hb1.grown h2 (by simp) (fun q e => Nat.le_of_eq (Option.some.inj e))⟩
  cases a with
  | none =>
    have h0 : R.length = 0 := by
      rcases Nat.eq_zero_or_pos R.length with h | h
      · exact h
      · obtain ⟨_, _, e, _⟩ := hc 0 h; cases e
    obtain ⟨v', w', h1, h2, h3⟩ := pappend eltI15 22 w.heap.size (.slice (some ⟨w.heap.size, 0, none⟩) 0 0) (.slice none R.length cap) 0 R.length [] (encI15 R) (gown_0 w w.heap.size 3 1 (Nat.le_refl _)) (.inl ⟨by rw [h0, hnil rfl], h0⟩) (by simp [encI15]) (encI15_1 R) (by omega) (by simp)
    exact ⟨v', w', h1, fin v' w' h2 h3⟩
  | some ad =>
    obtain ⟨i0, hi, hz0, hz1, hz2⟩ := info_parts infoI
    obtain ⟨v', w', h1, h2, h3, _⟩ := run_append_own_at (P := Try.prog) (w := w.alloc (.cells #[] 3)) w.heap.size 22 22 3 i0 (.int .i64 0) 1 8 Try.underlying22 hi hz0 hz1 hz2 rfl (by decide) (.slice (some ⟨w.heap.size, 0, none⟩) 0 0) 0 [] (gown_0 w w.heap.size 3 1 (Nat.le_refl _)) ad R.length cap (encI15 R) (by simp [encI15]) (fun j u hj => by
      have hjl : j < R.length := by
        have := (List.getElem?_eq_some_iff.1 hj).1
        simpa [encI15] using this
      obtain ⟨b, off, e, hcell⟩ := hc.below hb1 j hjl
      injection e with e
      subst e
      rw [Go.WideShapes.add_plain]
      show World.cell? _ ⟨b, off + j, none⟩ = _
      rw [hcell, ← hj]
      simp [encI15, atR, List.getD, hjl]) (encI15_1 R) (by unfold maxLen; omega) (by omega) (by simp)
    exact ⟨v', w', h1, fin v' w' h2 h3⟩
set_option maxHeartbeats 4000000 in
theorem rNew15 (w : World) (a : Option Addr) (cap : Nat) (R : List Int) (hf : R.length ≤ 16) (hc : Cells w .i64 a R.length (atR R)) (hnil : a = none → cap = 0) : Calls Try.prog 10 #[.slice a R.length cap] w fun e w' => Below w.heap.size w w' ∧ ((badR R = true ∧ e = .returned (.tuple #[.pointer none, .int .i64 1])) ∨ (badR R = false ∧ ∃ q rv, e = .returned (.tuple #[ptr q, .int .i64 0]) ∧ Rg w' q rv (.slice none 0 0) R [] ∧ w.heap.size ≤ q ∧ ∀ b, rv.ownBlock = some b → w.heap.size ≤ b)) := by
  have HC : Hid (Cells w .i64 a R.length (atR R)) := hc
  have HN : Hid (a = none → cap = 0) := hnil
  clear hc hnil
  have hnot : ¬ (16 : Int) < (R.length : Int) := by omega
  go_enter Try.func10, Try.ntmps10
  go_wp2_with fail
  go_loopw [4] (fun i wr => ∃ (j : Nat), j ≤ R.length ∧ i = .int .i64 j ∧ Hid (wr = w ∧ ∀ k, k < j → 0 ≤ atR R k ∧ atR R k ≤ 1024)) (fun i _ => R.length - (intOf i).toNat)
  case atStart => exact ⟨0, Nat.zero_le _, rfl, rfl, fun k hk => absurd hk (Nat.not_lt_zero _)⟩
  case round =>
    obtain ⟨j, hj, rfl, hM⟩ := hrel
    obtain ⟨hwr, hM2⟩ := hM.out
    subst hwr
    have HM : Hid (∀ k, k < j → 0 ≤ atR R k ∧ atR R k ≤ 1024) := hM2
    clear hM hM2
    by_cases hlt : j < R.length
    · obtain ⟨b, off, rfl, c1⟩ := HC.out j hlt
      have hel : R[j]? = some (atR R j) := by simp [atR, List.getD, hlt]
      by_cases h0 : atR R j < 0
      · have HBad : Hid (badR R = true) := by
          show _ = _
          unfold badR
          rw [List.any_eq_true]
          exact ⟨atR R j, List.mem_of_getElem? hel, by simp [h0]⟩
        generalize atR R j = x at *
        go_wp2_with fail
        go_ret2
        exact ⟨Below.refl _ _, .inl ⟨HBad.out, rfl⟩⟩
      · by_cases h1 : 1024 < atR R j
        · have HBad : Hid (badR R = true) := by
            show _ = _
            unfold badR
            rw [List.any_eq_true]
            exact ⟨atR R j, List.mem_of_getElem? hel, by simp [h1]⟩
          generalize atR R j = x at *
          go_wp2_with fail
          go_ret2
          exact ⟨Below.refl _ _, .inl ⟨HBad.out, rfl⟩⟩
        · have HM2 : Hid (∀ k, k < j + 1 → 0 ≤ atR R k ∧ atR R k ≤ 1024) := fun k hk => by
            by_cases e : k = j
            · rw [e]; omega
            · exact HM.out k (by omega)
          have h1' : atR R j ≤ 1024 := by omega
          clear hel
          generalize atR R j = x at *
          go_wp2_with fail
          go_roundw
          case rel => exact ⟨j + 1, by omega, by go_num, trivial, HM2.out⟩
          case measure => simp [intOf]; omega
    · obtain rfl : j = R.length := by omega
      have HG : Hid (badR R = false) := by
        show _ = _
        unfold badR
        rw [Bool.eq_false_iff]
        intro h
        rw [List.any_eq_true] at h
        obtain ⟨x, hx, hb⟩ := h
        obtain ⟨k, hk⟩ := List.getElem?_of_mem hx
        have hkl := (List.getElem?_eq_some_iff.1 hk).1
        have h2 := HM.out k hkl
        have : atR R k = x := by simp [atR, List.getD, hk]
        rw [this] at h2
        simp at hb
        omega
      obtain ⟨rv, w2, hrun, hown, hb2⟩ := rooms_copy wr a cap R hf HC.out HN.out
      obtain ⟨ra, rc, hrv, _⟩ := own_at hown
      have HF : Hid (Rg (w2.alloc (.cells #[rv, .slice none 0 0] 65)) w2.heap.size rv (.slice none 0 0) R [] ∧ Below wr.heap.size wr (w2.alloc (.cells #[rv, .slice none 0 0] 65)) ∧ wr.heap.size ≤ w2.heap.size ∧ ∀ b, rv.ownBlock = some b → wr.heap.size ≤ b) := by
        have hb3 : Below w2.heap.size w2 (w2.alloc (.cells #[rv, .slice none 0 0] 65)) := (Below.refl _ w2).alloc (Nat.le_refl _) _
        exact ⟨⟨blk_new w2 [rv, .slice none 0 0] _, own_mono2 (eown_block hown fun b h => hb3.block b (hown.lt b h).2) (Nat.zero_le _), World.ownsRow_nil _ _ _ _⟩, Below.onto hb2 hb3, hb2.size, fun b h => (hown.lt b h).1⟩
      subst hrv
      clear hown hb2
      go_wp2_with (at_builtin; refine wpList_append_run rfl (.tmp 26) (.tmp 27) 22 rfl _ _ _ rfl rfl hrun ?_)
      clear hrun
      go_ret2
      exact ⟨HF.out.2.1, .inr ⟨HG.out, _, _, rfl, HF.out.1, HF.out.2.2⟩⟩
theorem rNewE (w : World) (a : Option Addr) (n cap : Nat) (z : Nat → Int) (hc : Cells w .i64 a n z) (hnil : a = none → cap = 0) : Calls Try.prog 10 #[.slice a n cap] w fun e w' => ∃ (P : Value) (er : Int), e = .returned (.tuple #[P, .int .i64 er]) ∧ (er = if 16 < n then 3 else if badR (roomsI n z) then 1 else 0) ∧ RNewIs w w' (roomsI n z) P er ∧ Below w.heap.size w w' := by
  by_cases h : 16 < n
  · refine (rNew_many w a n cap h).mono ?_
    rintro e w' ⟨rfl, rfl⟩
    exact ⟨_, 3, rfl, by rw [if_pos h], .inl ⟨by decide, rfl⟩, Below.refl _ _⟩
  · have c := rNew15 w a cap (roomsI n z) (by rw [roomsI_len]; omega) (by rw [roomsI_len]; exact hc.congr fun j hj => (roomsI_at n z hj).symm) hnil
    rw [roomsI_len] at c
    refine c.mono ?_
    rintro e w' ⟨hb, ⟨h1, rfl⟩ | ⟨h1, q, rv, rfl, x, hx⟩⟩
    · exact ⟨_, 1, rfl, by rw [if_neg h, h1]; rfl, .inl ⟨by decide, rfl⟩, hb⟩
    · exact ⟨_, 0, rfl, by rw [if_neg h, h1]; rfl, .inr ⟨rfl, q, rv, rfl, x, hx⟩, hb⟩
theorem yNewE2 (w : World) (a : Option Addr) (n cap : Nat) (z : Nat → Int) (hc : Cells w .i64 a n z) : Calls Try.prog 9 #[.slice a n cap] w fun e w' => ∃ (P : Value) (er : Int), e = .returned (.tuple #[P, .int .i64 er]) ∧ (er = if 16 < n then 3 else if badR (roomsI n z) then 1 else 0) ∧ NewIs w w' (roomsI n z) P er ∧ Below w.heap.size w w' := by
  by_cases h : 16 < n
  · refine (yNew_many w a n cap h).mono ?_
    rintro e w' ⟨rfl, rfl⟩
    exact ⟨_, 3, rfl, by rw [if_pos h], .inl ⟨by decide, rfl⟩, Below.refl _ _⟩
  · have c := yNew w a cap (roomsI n z) (by rw [roomsI_len]; omega) (by rw [roomsI_len]; exact hc.congr fun j hj => (roomsI_at n z hj).symm)
    rw [roomsI_len] at c
    refine c.mono ?_
    rintro e w' ⟨hb, ⟨h1, rfl⟩ | ⟨h1, p, o, rfl, x, hx⟩⟩
    · exact ⟨_, 1, rfl, by rw [if_neg h, h1]; rfl, .inl ⟨by decide, rfl⟩, hb⟩
    · exact ⟨_, 0, rfl, by rw [if_neg h, h1]; rfl, .inr ⟨rfl, p, o, rfl, x, hx⟩, hb⟩
end Go.Proofs.Ytcfmbppnghlkaaa
