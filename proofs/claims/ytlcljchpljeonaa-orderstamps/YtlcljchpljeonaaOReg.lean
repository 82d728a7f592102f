/- The document's Sorted: a stamp is laid into the row, in whatever order the operations come. -/
import Derived.Test.YtlcljchpljeonaaGRows
import Derived.Test.YtlcljchpljeonaaOMath
namespace Go.Proofs.Ytlcljchpljeonaa
open Go.RowKit
set_option maxRecDepth 100000

theorem eltSt : Elt 35 37 2 16 (.agg #[.int .i64 0, .int .i64 0]) := ⟨Try.underlying35, by kernel_rfl, rfl, by decide, by decide⟩
theorem run_b0 {o : Oper} (hop : o.op = .buildSlice 35 0 #[]) (a : Act) (W : World) : (execOp a.eval o).run Try.prog W = .ok (.value (.slice (some ⟨W.heap.size, 0, none⟩) 0 0)) (W.alloc (.cells #[] 37)) := by
  obtain ⟨d, op, ty, pos, aft, gd⟩ := o
  simp only at hop
  subst hop
  go_simp
theorem run_b1 {o : Oper} {t : Nat} {x1 x2 : Int} (hop : o.op = .buildSlice 35 1 #[(0, .tmp t)]) (a : Act) (W : World) (hx : a.tmps[t]? = some (.agg #[.int .i64 x1, .int .i64 x2])) : (execOp a.eval o).run Try.prog W = .ok (.value (.slice (some ⟨W.heap.size, 0, none⟩) 1 1)) (W.alloc (.cells [.int .i64 x1, .int .i64 x2].toArray 37)) := by
  obtain ⟨d, op, ty, pos, aft, gd⟩ := o
  simp only at hop
  subst hop
  go_simp

set_option maxHeartbeats 2000000 in
theorem ins_region {id : Nat} {Q : Exit → Act → World → Prop} {a : Act} {w : World} {l1 : List Oper} {o0 o1 o2 o3 o4 o5 o6 o7 o8 o9 o10 o11 o12 o13 o14 o15 : Oper} {bl ol ln lc i k m : Nat} {x1 x2 : Int} {A S1 S2 : Value} {xs1 xs2 : List Value} (hne : l1 ≠ []) (hl1 : l1.dropLast = [o0, o1, o2, o3, o4, o5, o6, o7, o8, o9, o10, o11, o12, o13, o14]) (hlast : l1.getLast hne = o15)
    (hok : lastOk l1.dropLast (l1.getLast hne) = true) (hns : Region.noSelect [o0, o1, o2, o3, o4, o5, o6, o7, o8, o9, o10, o11, o12, o13, o14].toArray = true) (htk : takesOk [o0, o1, o2, o3, o4, o5, o6, o7, o8, o9, o10, o11, o12, o13, o14].toArray [1, 2, 3, 5, 6, 7, 8, 11, 12, 13] (Array.replicate 15 false) = true)
    (p0 : o0.op = .buildSlice 35 0 #[]) (p1 : o1.op = .move (.tmp 3)) (p2 : o2.op = .move (.tmp 5)) (p4 : o4.op = .call { callee := .builtin .append, args := #[.tmp 45, .tmp 48], argTypes := #[35, 35] }) (p5 : o5.op = .move (.tmp 0)) (p6 : o6.op = .move (.tmp 4)) (p7 : o7.op = .indexAddr 35 (.tmp 50) (.tmp 51)) (p8 : o8.op = .load 37 (.tmp 52)) (p9 : o9.op = .buildSlice 35 1 #[(0, .tmp 53)]) (p10 : o10.op = .call { callee := .builtin .append, args := #[.tmp 49, .tmp 54], argTypes := #[35, 35] }) (p11 : o11.op = .move (.tmp 3)) (p12 : o12.op = .move (.tmp 5)) (p14 : o14.op = .call { callee := .builtin .append, args := #[.tmp 55, .tmp 58], argTypes := #[35, 35] }) (p15 : o15.op = .assign (.tmp 59))
    (g0 : o0.guard = none) (g4 : o4.guard = none) (g9 : o9.guard = none) (g10 : o10.guard = none) (g14 : o14.guard = none)
    (t0 : o0.dst = some 45) (t1 : o1.dst = some 46) (t2 : o2.dst = some 47) (t3 : o3.dst = some 48) (t4 : o4.dst = some 49) (t5 : o5.dst = some 50) (t6 : o6.dst = some 51) (t7 : o7.dst = some 52) (t8 : o8.dst = some 53) (t9 : o9.dst = some 54) (t10 : o10.dst = some 55) (t11 : o11.dst = some 56) (t12 : o12.dst = some 57) (t13 : o13.dst = some 58) (t14 : o14.dst = some 59) (t15 : o15.dst = some 3)
    (hsz : a.tmps.size = 61)
    (h3 : a.tmps[3]? = some A) (h5 : a.tmps[5]? = some (.int .i64 (k : Int))) (h0 : a.tmps[0]? = some (.slice (some ⟨bl, ol, none⟩) ln lc)) (h4 : a.tmps[4]? = some (.int .i64 (i : Int))) (hi : i < ln)
    (cl0 : w.cell? ⟨bl, ol + i * 2, none⟩ = some (.int .i64 x1)) (cl1 : w.cell? ⟨bl, ol + i * 2 + 1, none⟩ = some (.int .i64 x2))
    (hs1 : ∀ (b : Act) W, b.tmps[46]? = some A → b.tmps[47]? = some (.int .i64 (k : Int)) → (execOp b.eval o3).run Try.prog W = .ok (.value S1) W)
    (hs2 : ∀ (b : Act) W, b.tmps[56]? = some A → b.tmps[57]? = some (.int .i64 (k : Int)) → (execOp b.eval o13).run Try.prog W = .ok (.value S2) W)
    (src1 : Src w S1 k xs1) (xl1 : xs1.length = k * 2) (xo1 : ∀ y ∈ xs1, y.oneCell' = true) (src2 : Src w S2 m xs2) (xl2 : xs2.length = m * 2) (xo2 : ∀ y ∈ xs2, y.oneCell' = true) (hbd : k + 1 + m ≤ 1000)
    (rn : Region.ready .any [o0, o1, o2, o3, o4, o5, o6, o7, o8, o9, o10, o11, o12, o13, o14].toArray (#[false, true, true, true, false, true, true, true, true, false, false, true, true, true, false] : Array Bool) = [0, 9]) (rA : Region.ready .any [o0, o1, o2, o3, o4, o5, o6, o7, o8, o9, o10, o11, o12, o13, o14].toArray ((#[false, true, true, true, false, true, true, true, true, false, false, true, true, true, false] : Array Bool).setIfInBounds 0 true) = [4, 9]) (rC : Region.ready .any [o0, o1, o2, o3, o4, o5, o6, o7, o8, o9, o10, o11, o12, o13, o14].toArray ((#[false, true, true, true, false, true, true, true, true, false, false, true, true, true, false] : Array Bool).setIfInBounds 9 true) = [0]) (rAB : Region.ready .any [o0, o1, o2, o3, o4, o5, o6, o7, o8, o9, o10, o11, o12, o13, o14].toArray (((#[false, true, true, true, false, true, true, true, true, false, false, true, true, true, false] : Array Bool).setIfInBounds 0 true).setIfInBounds 4 true) = [9]) (rAC : Region.ready .any [o0, o1, o2, o3, o4, o5, o6, o7, o8, o9, o10, o11, o12, o13, o14].toArray (((#[false, true, true, true, false, true, true, true, true, false, false, true, true, true, false] : Array Bool).setIfInBounds 0 true).setIfInBounds 9 true) = [4]) (rCA : Region.ready .any [o0, o1, o2, o3, o4, o5, o6, o7, o8, o9, o10, o11, o12, o13, o14].toArray (((#[false, true, true, true, false, true, true, true, true, false, false, true, true, true, false] : Array Bool).setIfInBounds 9 true).setIfInBounds 0 true) = [4]) (rABC : Region.ready .any [o0, o1, o2, o3, o4, o5, o6, o7, o8, o9, o10, o11, o12, o13, o14].toArray ((((#[false, true, true, true, false, true, true, true, true, false, false, true, true, true, false] : Array Bool).setIfInBounds 0 true).setIfInBounds 4 true).setIfInBounds 9 true) = [10]) (rD : Region.ready .any [o0, o1, o2, o3, o4, o5, o6, o7, o8, o9, o10, o11, o12, o13, o14].toArray (((((#[false, true, true, true, false, true, true, true, true, false, false, true, true, true, false] : Array Bool).setIfInBounds 0 true).setIfInBounds 4 true).setIfInBounds 9 true).setIfInBounds 10 true) = [14]) (rE : Region.ready .any [o0, o1, o2, o3, o4, o5, o6, o7, o8, o9, o10, o11, o12, o13, o14].toArray ((((((#[false, true, true, true, false, true, true, true, true, false, false, true, true, true, false] : Array Bool).setIfInBounds 0 true).setIfInBounds 4 true).setIfInBounds 9 true).setIfInBounds 10 true).setIfInBounds 14 true) = [])
    (hQ : ∀ c a d v w, Q (.panic c) (Act.put a d v) w → Q (.panic c) a w)
    (fin : ∀ vA vB vC vD vE W', W'.ownsRow w.heap.size 37 2 vE (k + 1 + m) (xs1 ++ [.int .i64 x1, .int .i64 x2] ++ xs2) → Below w.heap.size w W' → Q .normal ((((((((((((((((a.put (some 46) (A)).put (some 47) (.int .i64 (k : Int))).put (some 48) (S1)).put (some 50) (.slice (some ⟨bl, ol, none⟩) ln lc)).put (some 51) (.int .i64 (i : Int))).put (some 52) (.pointer (some ⟨bl, ol + i * 2, none⟩))).put (some 53) (.agg #[.int .i64 x1, .int .i64 x2])).put (some 56) (A)).put (some 57) (.int .i64 (k : Int))).put (some 58) (S2)).put (some 45) vA).put (some 49) vB).put (some 54) vC).put (some 55) vD).put (some 59) vE).put (some 3) vE) W') :
    (Code.region id l1.toArray true).wp Try.prog Q a w := by
  obtain ⟨af, haf⟩ : ∃ af, af = ((((((((((a.put (some 46) (A)).put (some 47) (.int .i64 (k : Int))).put (some 48) (S1)).put (some 50) (.slice (some ⟨bl, ol, none⟩) ln lc)).put (some 51) (.int .i64 (i : Int))).put (some 52) (.pointer (some ⟨bl, ol + i * 2, none⟩))).put (some 53) (.agg #[.int .i64 x1, .int .i64 x2])).put (some 56) (A)).put (some 57) (.int .i64 (k : Int))).put (some 58) (S2)) := ⟨_, rfl⟩
  rw [← haf] at fin
  have fsz : af.tmps.size = 61 := by rw [haf]; simp only [gput_sz]; exact hsz
  have f3 : af.tmps[3]? = some (A) := by rw [haf]; rw [gput_ne (by decide), gput_ne (by decide), gput_ne (by decide), gput_ne (by decide), gput_ne (by decide), gput_ne (by decide), gput_ne (by decide), gput_ne (by decide), gput_ne (by decide), gput_ne (by decide)]; exact h3
  have f5 : af.tmps[5]? = some (.int .i64 (k : Int)) := by rw [haf]; rw [gput_ne (by decide), gput_ne (by decide), gput_ne (by decide), gput_ne (by decide), gput_ne (by decide), gput_ne (by decide), gput_ne (by decide), gput_ne (by decide), gput_ne (by decide), gput_ne (by decide)]; exact h5
  have f0 : af.tmps[0]? = some (.slice (some ⟨bl, ol, none⟩) ln lc) := by rw [haf]; rw [gput_ne (by decide), gput_ne (by decide), gput_ne (by decide), gput_ne (by decide), gput_ne (by decide), gput_ne (by decide), gput_ne (by decide), gput_ne (by decide), gput_ne (by decide), gput_ne (by decide)]; exact h0
  have f4 : af.tmps[4]? = some (.int .i64 (i : Int)) := by rw [haf]; rw [gput_ne (by decide), gput_ne (by decide), gput_ne (by decide), gput_ne (by decide), gput_ne (by decide), gput_ne (by decide), gput_ne (by decide), gput_ne (by decide), gput_ne (by decide), gput_ne (by decide)]; exact h4
  have f46 : af.tmps[46]? = some (A) := by rw [haf]; rw [gput_ne (by decide), gput_ne (by decide), gput_ne (by decide), gput_ne (by decide), gput_ne (by decide), gput_ne (by decide), gput_ne (by decide), gput_ne (by decide), gput_ne (by decide), gput_at (by first | (rw [hsz]; decide) | (simp only [gput_sz]; rw [hsz]; decide))]
  have f47 : af.tmps[47]? = some (.int .i64 (k : Int)) := by rw [haf]; rw [gput_ne (by decide), gput_ne (by decide), gput_ne (by decide), gput_ne (by decide), gput_ne (by decide), gput_ne (by decide), gput_ne (by decide), gput_ne (by decide), gput_at (by first | (rw [hsz]; decide) | (simp only [gput_sz]; rw [hsz]; decide))]
  have f48 : af.tmps[48]? = some (S1) := by rw [haf]; rw [gput_ne (by decide), gput_ne (by decide), gput_ne (by decide), gput_ne (by decide), gput_ne (by decide), gput_ne (by decide), gput_ne (by decide), gput_at (by first | (rw [hsz]; decide) | (simp only [gput_sz]; rw [hsz]; decide))]
  have f50 : af.tmps[50]? = some (.slice (some ⟨bl, ol, none⟩) ln lc) := by rw [haf]; rw [gput_ne (by decide), gput_ne (by decide), gput_ne (by decide), gput_ne (by decide), gput_ne (by decide), gput_ne (by decide), gput_at (by first | (rw [hsz]; decide) | (simp only [gput_sz]; rw [hsz]; decide))]
  have f51 : af.tmps[51]? = some (.int .i64 (i : Int)) := by rw [haf]; rw [gput_ne (by decide), gput_ne (by decide), gput_ne (by decide), gput_ne (by decide), gput_ne (by decide), gput_at (by first | (rw [hsz]; decide) | (simp only [gput_sz]; rw [hsz]; decide))]
  have f52 : af.tmps[52]? = some (.pointer (some ⟨bl, ol + i * 2, none⟩)) := by rw [haf]; rw [gput_ne (by decide), gput_ne (by decide), gput_ne (by decide), gput_ne (by decide), gput_at (by first | (rw [hsz]; decide) | (simp only [gput_sz]; rw [hsz]; decide))]
  have f53 : af.tmps[53]? = some (.agg #[.int .i64 x1, .int .i64 x2]) := by rw [haf]; rw [gput_ne (by decide), gput_ne (by decide), gput_ne (by decide), gput_at (by first | (rw [hsz]; decide) | (simp only [gput_sz]; rw [hsz]; decide))]
  have f56 : af.tmps[56]? = some (A) := by rw [haf]; rw [gput_ne (by decide), gput_ne (by decide), gput_at (by first | (rw [hsz]; decide) | (simp only [gput_sz]; rw [hsz]; decide))]
  have f57 : af.tmps[57]? = some (.int .i64 (k : Int)) := by rw [haf]; rw [gput_ne (by decide), gput_at (by first | (rw [hsz]; decide) | (simp only [gput_sz]; rw [hsz]; decide))]
  have f58 : af.tmps[58]? = some (S2) := by rw [haf]; rw [gput_at (by first | (rw [hsz]; decide) | (simp only [gput_sz]; rw [hsz]; decide))]
  have HS : Below w.heap.size w w.drew := (Below.refl _ _).drew
  refine wp_region_last2 hne (fun W => Below w.heap.size w W) (by kernel_rfl) hok ?_
  rw [hl1, hlast]
  have hput : putIdx af [o0, o1, o2, o3, o4, o5, o6, o7, o8, o9, o10, o11, o12, o13, o14].toArray [1, 2, 3, 5, 6, 7, 8, 11, 12, 13] a = af := by
    have e : putIdx af [o0, o1, o2, o3, o4, o5, o6, o7, o8, o9, o10, o11, o12, o13, o14].toArray [1, 2, 3, 5, 6, 7, 8, 11, 12, 13] a = ((((((((((a.put (some 46) (A)).put (some 47) (.int .i64 (k : Int))).put (some 48) (S1)).put (some 50) (.slice (some ⟨bl, ol, none⟩) ln lc)).put (some 51) (.int .i64 (i : Int))).put (some 52) (.pointer (some ⟨bl, ol + i * 2, none⟩))).put (some 53) (.agg #[.int .i64 x1, .int .i64 x2])).put (some 56) (A)).put (some 57) (.int .i64 (k : Int))).put (some 58) (S2)) := by
      simp only [putIdx, List.getElem?_toArray, List.getElem?_cons_succ, List.getElem?_cons_zero, Option.bind_some, t1, t2, t3, t5, t6, t7, t8, t11, t12, t13, ggetD f46, ggetD f47, ggetD f48, ggetD f50, ggetD f51, ggetD f52, ggetD f53, ggetD f56, ggetD f57, ggetD f58]
    rw [e, haf]
  refine takes (P := Try.prog) (Q := lastQ Try.prog o15 Q) (S := fun W => Below w.heap.size w W) (idx := [1, 2, 3, 5, 6, 7, 8, 11, 12, 13]) (af := af) (fuel := 5) hns (fun c a d v w h => hQ c a d v w h) HS _ _ htk hput ?_ ?_
  · refine ⟨⟨o1, 46, _, rfl, t1, f46, ?_⟩, ⟨o2, 47, _, rfl, t2, f47, ?_⟩, ⟨o3, 48, _, rfl, t3, f48, ?_⟩, ⟨o5, 50, _, rfl, t5, f50, ?_⟩, ⟨o6, 51, _, rfl, t6, f51, ?_⟩, ⟨o7, 52, _, rfl, t7, f52, ?_⟩, ⟨o8, 53, _, rfl, t8, f53, ?_⟩, ⟨o11, 56, _, rfl, t11, f56, ?_⟩, ⟨o12, 57, _, rfl, t12, f57, ?_⟩, ⟨o13, 58, _, rfl, t13, f58, ?_⟩, trivial⟩
    · intro W hW
      have i3 : (0 : Int) ≤ (i : Int) := by omega
      have i4 : (i : Int) < (ln : Int) := by omega
      have c2 := (hW.cell (p := ⟨bl, ol + i * 2, none⟩) (gcell_lt cl0)).trans cl0
      have c3 := (hW.cell (p := ⟨bl, ol + i * 2 + 1, none⟩) (gcell_lt cl0)).trans cl1
      clear fin haf hput htk hns hok fsz hsz hQ rn rA rC rAB rAC rCA rABC rD rE h3 h5 h0 h4 cl0 cl1 HS hs1 hs2 src1 src2
      obtain ⟨d, op, ty, pos, aft, gd⟩ := o1
      simp only at p1
      subst p1
      go_simp
    · intro W hW
      have i3 : (0 : Int) ≤ (i : Int) := by omega
      have i4 : (i : Int) < (ln : Int) := by omega
      have c2 := (hW.cell (p := ⟨bl, ol + i * 2, none⟩) (gcell_lt cl0)).trans cl0
      have c3 := (hW.cell (p := ⟨bl, ol + i * 2 + 1, none⟩) (gcell_lt cl0)).trans cl1
      clear fin haf hput htk hns hok fsz hsz hQ rn rA rC rAB rAC rCA rABC rD rE h3 h5 h0 h4 cl0 cl1 HS hs1 hs2 src1 src2
      obtain ⟨d, op, ty, pos, aft, gd⟩ := o2
      simp only at p2
      subst p2
      go_simp
    · intro W hW
      have i3 : (0 : Int) ≤ (i : Int) := by omega
      have i4 : (i : Int) < (ln : Int) := by omega
      have c2 := (hW.cell (p := ⟨bl, ol + i * 2, none⟩) (gcell_lt cl0)).trans cl0
      have c3 := (hW.cell (p := ⟨bl, ol + i * 2 + 1, none⟩) (gcell_lt cl0)).trans cl1
      exact hs1 af W f46 f47
    · intro W hW
      have i3 : (0 : Int) ≤ (i : Int) := by omega
      have i4 : (i : Int) < (ln : Int) := by omega
      have c2 := (hW.cell (p := ⟨bl, ol + i * 2, none⟩) (gcell_lt cl0)).trans cl0
      have c3 := (hW.cell (p := ⟨bl, ol + i * 2 + 1, none⟩) (gcell_lt cl0)).trans cl1
      clear fin haf hput htk hns hok fsz hsz hQ rn rA rC rAB rAC rCA rABC rD rE h3 h5 h0 h4 cl0 cl1 HS hs1 hs2 src1 src2
      obtain ⟨d, op, ty, pos, aft, gd⟩ := o5
      simp only at p5
      subst p5
      go_simp
    · intro W hW
      have i3 : (0 : Int) ≤ (i : Int) := by omega
      have i4 : (i : Int) < (ln : Int) := by omega
      have c2 := (hW.cell (p := ⟨bl, ol + i * 2, none⟩) (gcell_lt cl0)).trans cl0
      have c3 := (hW.cell (p := ⟨bl, ol + i * 2 + 1, none⟩) (gcell_lt cl0)).trans cl1
      clear fin haf hput htk hns hok fsz hsz hQ rn rA rC rAB rAC rCA rABC rD rE h3 h5 h0 h4 cl0 cl1 HS hs1 hs2 src1 src2
      obtain ⟨d, op, ty, pos, aft, gd⟩ := o6
      simp only at p6
      subst p6
      go_simp
    · intro W hW
      have i3 : (0 : Int) ≤ (i : Int) := by omega
      have i4 : (i : Int) < (ln : Int) := by omega
      have c2 := (hW.cell (p := ⟨bl, ol + i * 2, none⟩) (gcell_lt cl0)).trans cl0
      have c3 := (hW.cell (p := ⟨bl, ol + i * 2 + 1, none⟩) (gcell_lt cl0)).trans cl1
      clear fin haf hput htk hns hok fsz hsz hQ rn rA rC rAB rAC rCA rABC rD rE h3 h5 h0 h4 cl0 cl1 HS hs1 hs2 src1 src2
      obtain ⟨d, op, ty, pos, aft, gd⟩ := o7
      simp only at p7
      subst p7
      go_simp
    · intro W hW
      have i3 : (0 : Int) ≤ (i : Int) := by omega
      have i4 : (i : Int) < (ln : Int) := by omega
      have c2 := (hW.cell (p := ⟨bl, ol + i * 2, none⟩) (gcell_lt cl0)).trans cl0
      have c3 := (hW.cell (p := ⟨bl, ol + i * 2 + 1, none⟩) (gcell_lt cl0)).trans cl1
      clear fin haf hput htk hns hok fsz hsz hQ rn rA rC rAB rAC rCA rABC rD rE h3 h5 h0 h4 cl0 cl1 HS hs1 hs2 src1 src2
      obtain ⟨d, op, ty, pos, aft, gd⟩ := o8
      simp only at p8
      subst p8
      go_simp
    · intro W hW
      have i3 : (0 : Int) ≤ (i : Int) := by omega
      have i4 : (i : Int) < (ln : Int) := by omega
      have c2 := (hW.cell (p := ⟨bl, ol + i * 2, none⟩) (gcell_lt cl0)).trans cl0
      have c3 := (hW.cell (p := ⟨bl, ol + i * 2 + 1, none⟩) (gcell_lt cl0)).trans cl1
      clear fin haf hput htk hns hok fsz hsz hQ rn rA rC rAB rAC rCA rABC rD rE h3 h5 h0 h4 cl0 cl1 HS hs1 hs2 src1 src2
      obtain ⟨d, op, ty, pos, aft, gd⟩ := o11
      simp only at p11
      subst p11
      go_simp
    · intro W hW
      have i3 : (0 : Int) ≤ (i : Int) := by omega
      have i4 : (i : Int) < (ln : Int) := by omega
      have c2 := (hW.cell (p := ⟨bl, ol + i * 2, none⟩) (gcell_lt cl0)).trans cl0
      have c3 := (hW.cell (p := ⟨bl, ol + i * 2 + 1, none⟩) (gcell_lt cl0)).trans cl1
      clear fin haf hput htk hns hok fsz hsz hQ rn rA rC rAB rAC rCA rABC rD rE h3 h5 h0 h4 cl0 cl1 HS hs1 hs2 src1 src2
      obtain ⟨d, op, ty, pos, aft, gd⟩ := o12
      simp only at p12
      subst p12
      go_simp
    · intro W hW
      have i3 : (0 : Int) ≤ (i : Int) := by omega
      have i4 : (i : Int) < (ln : Int) := by omega
      have c2 := (hW.cell (p := ⟨bl, ol + i * 2, none⟩) (gcell_lt cl0)).trans cl0
      have c3 := (hW.cell (p := ⟨bl, ol + i * 2 + 1, none⟩) (gcell_lt cl0)).trans cl1
      exact hs2 af W f56 f57
  have em : markIdx [1, 2, 3, 5, 6, 7, 8, 11, 12, 13] (Array.replicate [o0, o1, o2, o3, o4, o5, o6, o7, o8, o9, o10, o11, o12, o13, o14].length false) = #[false, true, true, true, false, true, true, true, true, false, false, true, true, true, false] := by kernel_rfl
  rw [em]
  refine gtail_snoc eltSt (iA := 0) (iB := 4) (iC := 9) (iD := 10) (dA := 45) (dB := 49) (dC := 54) (dD := 55) (dv := 48) (dx := 53) (fuel := 1) (m := k) (xs := xs1) (ys := [.int .i64 x1, .int .i64 x2]) (w0 := w) (oA := o0) (oB := o4) (oC := o9) (oD := o10) rfl rfl rfl rfl g0 g4 g9 g10 (run_b0 p0) p4 (run_b1 p9) p10 t0 t4 t9 t10 rn rA rC rAB rAC rCA rABC (by decide) (by decide) (by rw [fsz]; decide) f48 f53 src1 xl1 xo1 rfl (by simp [Value.oneCell']) (by omega) HS ?_
  intro vA vB vC vD W hW hD
  have q55 : ((((af.put (some 45) vA).put (some 49) vB).put (some 54) vC).put (some 55) vD).tmps[55]? = some vD := gput_at (by rw [gput_sz, gput_sz, gput_sz, fsz]; decide)
  have q58 : ((((af.put (some 45) vA).put (some 49) vB).put (some 54) vC).put (some 55) vD).tmps[58]? = some S2 := by rw [gput_ne (by decide), gput_ne (by decide), gput_ne (by decide), gput_ne (by decide)]; exact f58
  have qsz : ((((af.put (some 45) vA).put (some 49) vB).put (some 54) vC).put (some 55) vD).tmps.size = 61 := by rw [gput_sz, gput_sz, gput_sz, gput_sz, fsz]
  have fin2 := fin vA vB vC vD
  generalize (((af.put (some 45) vA).put (some 49) vB).put (some 54) vC).put (some 55) vD = b3 at *
  refine gtail_more eltSt (iB := 14) (dA := 55) (dv := 58) (dB := 59) (fuel := 0) (oB := o14) (w0 := w) rfl g14 p14 t14 rD q55 q58 hD src2 xl2 xo2 (by omega) hW ?_
  intro vE W2 hW2 hE
  refine gfin_assign rE p15 t15 (gput_at (by rw [qsz]; decide)) ?_
  exact fin2 vE W2 hE hW2


end Go.Proofs.Ytlcljchpljeonaa
