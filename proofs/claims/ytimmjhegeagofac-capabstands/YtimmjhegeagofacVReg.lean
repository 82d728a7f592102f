/- CapabStands: a handle is taken out of the row, in whatever order the operations come. -/
import Derived.Test.YtimmjhegeagofacVRow
import Derived.Test.YtimmjhegeagofacVStM
namespace Go.Proofs.Ytimmjhegeagofac
open Go.RowKit
set_option maxRecDepth 100000

theorem eltHd : Elt 40 42 3 24 (.agg #[.int .u32 0, .int .i64 0, .int .u8 0]) := ⟨Try.underlying40, by kernel_rfl, rfl, by decide, by decide⟩
theorem run_hd0 {o : Oper} (hop : o.op = .buildSlice 40 0 #[]) (a : Act) (W : World) : (execOp a.eval o).run Try.prog W = .ok (.value (.slice (some ⟨W.heap.size, 0, none⟩) 0 0)) (W.alloc (.cells #[] 42)) := by
  obtain ⟨d, op, ty, pos, aft, gd⟩ := o
  simp only at hop
  subst hop
  go_simp
theorem hd_lo {o : Oper} {g N cv k t1 t2 : Nat} (hop : o.op = .slice 40 (.tmp t1) none (some (.tmp t2)) none) (hk : k ≤ N) (hN : N ≤ cv) (b : Act) (W : World) (h1 : b.tmps[t1]? = some (.slice (some ⟨g, 0, none⟩) N cv)) (h2 : b.tmps[t2]? = some (.int .i64 (k : Int))) : (execOp b.eval o).run Try.prog W = .ok (.value (.slice (some ⟨g, 0, none⟩) k cv)) W := by
  obtain ⟨d, op, ty, pos, aft, gd⟩ := o
  simp only at hop
  subst hop
  have i1 : (0 : Int) ≤ (k : Int) := by omega
  have i2 : (k : Int) ≤ (cv : Int) := by omega
  go_simp
theorem hd_hi {o : Oper} {g N cv k t1 t2 : Nat} (hop : o.op = .slice 40 (.tmp t1) (some (.tmp t2)) none none) (hk : k + 1 ≤ N) (b : Act) (W : World) (h1 : b.tmps[t1]? = some (.slice (some ⟨g, 0, none⟩) N cv)) (h2 : b.tmps[t2]? = some (.int .i64 ((k : Int) + 1))) : (execOp b.eval o).run Try.prog W = .ok (.value (.slice (some ⟨g, if cv = k + 1 then 0 else (k + 1) * 3, none⟩) (N - (k + 1)) (cv - (k + 1)))) W := by
  obtain ⟨d, op, ty, pos, aft, gd⟩ := o
  simp only at hop
  subst hop
  have i1 : (0 : Int) ≤ (k : Int) + 1 := by omega
  have i2 : (k : Int) + 1 ≤ (N : Int) := by omega
  have i3 : ((k : Int) + 1).toNat = k + 1 := by omega
  by_cases hcc : cv = k + 1
  · rw [if_pos hcc]
    go_simp
  · rw [if_neg hcc]
    go_simp
set_option maxHeartbeats 2000000 in
theorem hd_region {id : Nat} {Q : Exit → Act → World → Prop} {a : Act} {w : World} {l1 : List Oper} {o0 o1 o2 o3 o4 o5 o6 o7 o8 o9 o10 o11 o12 : Oper} {g ob N cv k m1 m2 : Nat} {S1 S2 : Value} {xs1 xs2 : List Value} (hne : l1 ≠ []) (hl1 : l1.dropLast = [o0, o1, o2, o3, o4, o5, o6, o7, o8, o9, o10, o11]) (hlast : l1.getLast hne = o12)
    (hok : lastOk l1.dropLast (l1.getLast hne) = true) (hns : Region.noSelect [o0, o1, o2, o3, o4, o5, o6, o7, o8, o9, o10, o11].toArray = true) (htk : takesOk [o0, o1, o2, o3, o4, o5, o6, o7, o8, o9, o10, o11].toArray [1, 2, 3, 4, 6, 7, 8, 9, 10] (Array.replicate 12 false) = true)
    (p0 : o0.op = .buildSlice 40 0 #[]) (p1 : o1.op = .move (.tmp 7)) (p2 : o2.op = .fieldAddr 33 (.tmp 9) 3) (p3 : o3.op = .load 3 (.tmp 82)) (p5 : o5.op = .call { callee := .builtin .append, args := #[.tmp 80, .tmp 84], argTypes := #[40, 40] }) (p6 : o6.op = .move (.tmp 7)) (p7 : o7.op = .fieldAddr 33 (.tmp 9) 3) (p8 : o8.op = .load 3 (.tmp 87)) (p9 : o9.op = .binOp .add 3 (.tmp 88) (.const (.int .i64 1)) 3) (p11 : o11.op = .call { callee := .builtin .append, args := #[.tmp 85, .tmp 90], argTypes := #[40, 40] }) (p12 : o12.op = .assign (.tmp 91))
    (g0 : o0.guard = none) (g5 : o5.guard = none) (g11 : o11.guard = none)
    (t0 : o0.dst = some 80) (t1 : o1.dst = some 81) (t2 : o2.dst = some 82) (t3 : o3.dst = some 83) (t4 : o4.dst = some 84) (t5 : o5.dst = some 85) (t6 : o6.dst = some 86) (t7 : o7.dst = some 87) (t8 : o8.dst = some 88) (t9 : o9.dst = some 89) (t10 : o10.dst = some 90) (t11 : o11.dst = some 91) (t12 : o12.dst = some 7)
    (hsz : a.tmps.size = 149)
    (h7 : a.tmps[7]? = some (.slice (some ⟨g, 0, none⟩) N cv)) (h9 : a.tmps[9]? = some (.pointer (some ⟨ob, 0, none⟩))) (hk : k < 1000) (ck : w.cell? ⟨ob, 4, none⟩ = some (.int .i64 (k : Int)))
    (hs1 : ∀ (b : Act) W, b.tmps[81]? = some (.slice (some ⟨g, 0, none⟩) N cv) → b.tmps[83]? = some (.int .i64 (k : Int)) → (execOp b.eval o4).run Try.prog W = .ok (.value S1) W)
    (hs2 : ∀ (b : Act) W, b.tmps[86]? = some (.slice (some ⟨g, 0, none⟩) N cv) → b.tmps[89]? = some (.int .i64 ((k : Int) + 1)) → (execOp b.eval o10).run Try.prog W = .ok (.value S2) W)
    (src1 : Src w S1 m1 xs1) (xl1 : xs1.length = m1 * 3) (xo1 : ∀ y ∈ xs1, y.oneCell' = true) (src2 : Src w S2 m2 xs2) (xl2 : xs2.length = m2 * 3) (xo2 : ∀ y ∈ xs2, y.oneCell' = true) (hbd : m1 + m2 ≤ 1000)
    (rn : Region.ready .any [o0, o1, o2, o3, o4, o5, o6, o7, o8, o9, o10, o11].toArray (#[false, true, true, true, true, false, true, true, true, true, true, false] : Array Bool) = [0]) (rA : Region.ready .any [o0, o1, o2, o3, o4, o5, o6, o7, o8, o9, o10, o11].toArray ((#[false, true, true, true, true, false, true, true, true, true, true, false] : Array Bool).setIfInBounds 0 true) = [5]) (rB : Region.ready .any [o0, o1, o2, o3, o4, o5, o6, o7, o8, o9, o10, o11].toArray (((#[false, true, true, true, true, false, true, true, true, true, true, false] : Array Bool).setIfInBounds 0 true).setIfInBounds 5 true) = [11]) (rE : Region.ready .any [o0, o1, o2, o3, o4, o5, o6, o7, o8, o9, o10, o11].toArray ((((#[false, true, true, true, true, false, true, true, true, true, true, false] : Array Bool).setIfInBounds 0 true).setIfInBounds 5 true).setIfInBounds 11 true) = [])
    (hQ : ∀ c a d v w, Q (.panic c) (Act.put a d v) w → Q (.panic c) a w)
    (fin : ∀ vA vB vC W', W'.ownsRow w.heap.size 42 3 vC (m1 + m2) (xs1 ++ xs2) → Below w.heap.size w W' → Q .normal (((((((((((((a.put (some 81) (.slice (some ⟨g, 0, none⟩) N cv)).put (some 82) (.pointer (some ⟨ob, 4, none⟩))).put (some 83) (.int .i64 (k : Int))).put (some 84) (S1)).put (some 86) (.slice (some ⟨g, 0, none⟩) N cv)).put (some 87) (.pointer (some ⟨ob, 4, none⟩))).put (some 88) (.int .i64 (k : Int))).put (some 89) (.int .i64 ((k : Int) + 1))).put (some 90) (S2)).put (some 80) vA).put (some 85) vB).put (some 91) vC).put (some 7) vC) W') :
    (Code.region id l1.toArray true).wp Try.prog Q a w := by
  obtain ⟨af, haf⟩ : ∃ af, af = (((((((((a.put (some 81) (.slice (some ⟨g, 0, none⟩) N cv)).put (some 82) (.pointer (some ⟨ob, 4, none⟩))).put (some 83) (.int .i64 (k : Int))).put (some 84) (S1)).put (some 86) (.slice (some ⟨g, 0, none⟩) N cv)).put (some 87) (.pointer (some ⟨ob, 4, none⟩))).put (some 88) (.int .i64 (k : Int))).put (some 89) (.int .i64 ((k : Int) + 1))).put (some 90) (S2)) := ⟨_, rfl⟩
  rw [← haf] at fin
  have fsz : af.tmps.size = 149 := by rw [haf]; simp only [gput_sz]; exact hsz
  have f7 : af.tmps[7]? = some (.slice (some ⟨g, 0, none⟩) N cv) := by rw [haf]; rw [gput_ne (by decide), gput_ne (by decide), gput_ne (by decide), gput_ne (by decide), gput_ne (by decide), gput_ne (by decide), gput_ne (by decide), gput_ne (by decide), gput_ne (by decide)]; exact h7
  have f9 : af.tmps[9]? = some (.pointer (some ⟨ob, 0, none⟩)) := by rw [haf]; rw [gput_ne (by decide), gput_ne (by decide), gput_ne (by decide), gput_ne (by decide), gput_ne (by decide), gput_ne (by decide), gput_ne (by decide), gput_ne (by decide), gput_ne (by decide)]; exact h9
  have f81 : af.tmps[81]? = some (.slice (some ⟨g, 0, none⟩) N cv) := by rw [haf]; rw [gput_ne (by decide), gput_ne (by decide), gput_ne (by decide), gput_ne (by decide), gput_ne (by decide), gput_ne (by decide), gput_ne (by decide), gput_ne (by decide), gput_at (by first | (rw [hsz]; decide) | (simp only [gput_sz]; rw [hsz]; decide))]
  have f82 : af.tmps[82]? = some (.pointer (some ⟨ob, 4, none⟩)) := by rw [haf]; rw [gput_ne (by decide), gput_ne (by decide), gput_ne (by decide), gput_ne (by decide), gput_ne (by decide), gput_ne (by decide), gput_ne (by decide), gput_at (by first | (rw [hsz]; decide) | (simp only [gput_sz]; rw [hsz]; decide))]
  have f83 : af.tmps[83]? = some (.int .i64 (k : Int)) := by rw [haf]; rw [gput_ne (by decide), gput_ne (by decide), gput_ne (by decide), gput_ne (by decide), gput_ne (by decide), gput_ne (by decide), gput_at (by first | (rw [hsz]; decide) | (simp only [gput_sz]; rw [hsz]; decide))]
  have f84 : af.tmps[84]? = some (S1) := by rw [haf]; rw [gput_ne (by decide), gput_ne (by decide), gput_ne (by decide), gput_ne (by decide), gput_ne (by decide), gput_at (by first | (rw [hsz]; decide) | (simp only [gput_sz]; rw [hsz]; decide))]
  have f86 : af.tmps[86]? = some (.slice (some ⟨g, 0, none⟩) N cv) := by rw [haf]; rw [gput_ne (by decide), gput_ne (by decide), gput_ne (by decide), gput_ne (by decide), gput_at (by first | (rw [hsz]; decide) | (simp only [gput_sz]; rw [hsz]; decide))]
  have f87 : af.tmps[87]? = some (.pointer (some ⟨ob, 4, none⟩)) := by rw [haf]; rw [gput_ne (by decide), gput_ne (by decide), gput_ne (by decide), gput_at (by first | (rw [hsz]; decide) | (simp only [gput_sz]; rw [hsz]; decide))]
  have f88 : af.tmps[88]? = some (.int .i64 (k : Int)) := by rw [haf]; rw [gput_ne (by decide), gput_ne (by decide), gput_at (by first | (rw [hsz]; decide) | (simp only [gput_sz]; rw [hsz]; decide))]
  have f89 : af.tmps[89]? = some (.int .i64 ((k : Int) + 1)) := by rw [haf]; rw [gput_ne (by decide), gput_at (by first | (rw [hsz]; decide) | (simp only [gput_sz]; rw [hsz]; decide))]
  have f90 : af.tmps[90]? = some (S2) := by rw [haf]; rw [gput_at (by first | (rw [hsz]; decide) | (simp only [gput_sz]; rw [hsz]; decide))]
  have HS : Below w.heap.size w w.drew := (Below.refl _ _).drew
  refine wp_region_last2 hne (fun W => Below w.heap.size w W) (by kernel_rfl) hok ?_
  rw [hl1, hlast]
  have hput : putIdx af [o0, o1, o2, o3, o4, o5, o6, o7, o8, o9, o10, o11].toArray [1, 2, 3, 4, 6, 7, 8, 9, 10] a = af := by
    have e : putIdx af [o0, o1, o2, o3, o4, o5, o6, o7, o8, o9, o10, o11].toArray [1, 2, 3, 4, 6, 7, 8, 9, 10] a = (((((((((a.put (some 81) (.slice (some ⟨g, 0, none⟩) N cv)).put (some 82) (.pointer (some ⟨ob, 4, none⟩))).put (some 83) (.int .i64 (k : Int))).put (some 84) (S1)).put (some 86) (.slice (some ⟨g, 0, none⟩) N cv)).put (some 87) (.pointer (some ⟨ob, 4, none⟩))).put (some 88) (.int .i64 (k : Int))).put (some 89) (.int .i64 ((k : Int) + 1))).put (some 90) (S2)) := by
      simp only [putIdx, List.getElem?_toArray, List.getElem?_cons_succ, List.getElem?_cons_zero, Option.bind_some, t1, t2, t3, t4, t6, t7, t8, t9, t10, ggetD f81, ggetD f82, ggetD f83, ggetD f84, ggetD f86, ggetD f87, ggetD f88, ggetD f89, ggetD f90]
    rw [e, haf]
  refine takes (P := Try.prog) (Q := lastQ Try.prog o12 Q) (S := fun W => Below w.heap.size w W) (idx := [1, 2, 3, 4, 6, 7, 8, 9, 10]) (af := af) (fuel := 3) hns (fun c a d v w h => hQ c a d v w h) HS _ _ htk hput ?_ ?_
  · refine ⟨⟨o1, 81, _, rfl, t1, f81, ?_⟩, ⟨o2, 82, _, rfl, t2, f82, ?_⟩, ⟨o3, 83, _, rfl, t3, f83, ?_⟩, ⟨o4, 84, _, rfl, t4, f84, ?_⟩, ⟨o6, 86, _, rfl, t6, f86, ?_⟩, ⟨o7, 87, _, rfl, t7, f87, ?_⟩, ⟨o8, 88, _, rfl, t8, f88, ?_⟩, ⟨o9, 89, _, rfl, t9, f89, ?_⟩, ⟨o10, 90, _, rfl, t10, f90, ?_⟩, trivial⟩
    · intro W hW
      have kF := (hW.cell (p := ⟨ob, 4, none⟩) (gcell_lt ck)).trans ck
      clear fin haf hput htk hns hok fsz hsz hQ rn rA rB rE h7 h9 ck HS hs1 hs2 src1 src2 xl1 xo1 xl2 xo2
      obtain ⟨d, op, ty, pos, aft, gd⟩ := o1
      simp only at p1
      subst p1
      go_simp
    · intro W hW
      have kF := (hW.cell (p := ⟨ob, 4, none⟩) (gcell_lt ck)).trans ck
      clear fin haf hput htk hns hok fsz hsz hQ rn rA rB rE h7 h9 ck HS hs1 hs2 src1 src2 xl1 xo1 xl2 xo2
      obtain ⟨d, op, ty, pos, aft, gd⟩ := o2
      simp only at p2
      subst p2
      go_simp
    · intro W hW
      have kF := (hW.cell (p := ⟨ob, 4, none⟩) (gcell_lt ck)).trans ck
      clear fin haf hput htk hns hok fsz hsz hQ rn rA rB rE h7 h9 ck HS hs1 hs2 src1 src2 xl1 xo1 xl2 xo2
      obtain ⟨d, op, ty, pos, aft, gd⟩ := o3
      simp only at p3
      subst p3
      go_simp
    · intro W hW
      have kF := (hW.cell (p := ⟨ob, 4, none⟩) (gcell_lt ck)).trans ck
      exact hs1 af W f81 f83
    · intro W hW
      have kF := (hW.cell (p := ⟨ob, 4, none⟩) (gcell_lt ck)).trans ck
      clear fin haf hput htk hns hok fsz hsz hQ rn rA rB rE h7 h9 ck HS hs1 hs2 src1 src2 xl1 xo1 xl2 xo2
      obtain ⟨d, op, ty, pos, aft, gd⟩ := o6
      simp only at p6
      subst p6
      go_simp
    · intro W hW
      have kF := (hW.cell (p := ⟨ob, 4, none⟩) (gcell_lt ck)).trans ck
      clear fin haf hput htk hns hok fsz hsz hQ rn rA rB rE h7 h9 ck HS hs1 hs2 src1 src2 xl1 xo1 xl2 xo2
      obtain ⟨d, op, ty, pos, aft, gd⟩ := o7
      simp only at p7
      subst p7
      go_simp
    · intro W hW
      have kF := (hW.cell (p := ⟨ob, 4, none⟩) (gcell_lt ck)).trans ck
      clear fin haf hput htk hns hok fsz hsz hQ rn rA rB rE h7 h9 ck HS hs1 hs2 src1 src2 xl1 xo1 xl2 xo2
      obtain ⟨d, op, ty, pos, aft, gd⟩ := o8
      simp only at p8
      subst p8
      go_simp
    · intro W hW
      have kF := (hW.cell (p := ⟨ob, 4, none⟩) (gcell_lt ck)).trans ck
      clear fin haf hput htk hns hok fsz hsz hQ rn rA rB rE h7 h9 ck HS hs1 hs2 src1 src2 xl1 xo1 xl2 xo2
      obtain ⟨d, op, ty, pos, aft, gd⟩ := o9
      simp only at p9
      subst p9
      go_simp
      rw [IntKind.wrap_i64]
      omega
    · intro W hW
      have kF := (hW.cell (p := ⟨ob, 4, none⟩) (gcell_lt ck)).trans ck
      exact hs2 af W f86 f89
  have em : markIdx [1, 2, 3, 4, 6, 7, 8, 9, 10] (Array.replicate [o0, o1, o2, o3, o4, o5, o6, o7, o8, o9, o10, o11].length false) = #[false, true, true, true, true, false, true, true, true, true, true, false] := by kernel_rfl
  rw [em]
  refine gtail_row eltHd (iA := 0) (iB := 5) (dA := 80) (dB := 85) (dv := 84) (fuel := 1) (m := m1) (xs := xs1) (w0 := w) (oA := o0) (oB := o5) rfl rfl g0 g5 (fun a W => run_hd0 p0 a W) p5 t0 t5 rn rA (by decide) (by rw [fsz]; decide) f84 src1 xl1 xo1 (by omega) HS ?_
  intro vA vB W hW hB
  have q1 : ((af.put (some 80) vA).put (some 85) vB).tmps[85]? = some vB := gput_at (by rw [gput_sz, fsz]; decide)
  have q2 : ((af.put (some 80) vA).put (some 85) vB).tmps[90]? = some S2 := by rw [gput_ne (by decide), gput_ne (by decide)]; exact f90
  have qsz : ((af.put (some 80) vA).put (some 85) vB).tmps.size = 149 := by rw [gput_sz, gput_sz, fsz]
  have fin2 := fin vA vB
  generalize (af.put (some 80) vA).put (some 85) vB = b3 at *
  refine gtail_more eltHd (iB := 11) (dA := 85) (dv := 90) (dB := 91) (fuel := 0) (oB := o11) (w0 := w) rfl g11 p11 t11 rB q1 q2 hB src2 xl2 xo2 (by omega) hW ?_
  intro vC W2 hW2 hC
  refine gfin_assign rE p12 t12 (gput_at (by rw [qsz]; decide)) ?_
  exact fin2 vC W2 hC hW2


end Go.Proofs.Ytimmjhegeagofac
