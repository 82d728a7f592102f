/- AgendaAll: an entry is taken out of a row, in whatever order the operations come. (Written by wip/tools/ereg2.py.) -/
import Derived.Test.YtimmjhegeagofaaEReg
import Derived.Test.YtimmjhegeagofaaKLast
namespace Go.Proofs.Ytimmjhegeagofaa
open Go.RowKit
set_option maxRecDepth 100000

set_option maxHeartbeats 2000000 in
theorem eall_region {id : Nat} {Q : Exit → Act → World → Prop} {a : Act} {w : World} {l1 : List Oper} {o0 o1 o2 o3 o4 o5 o6 o7 o8 o9 o10 : Oper} {k m1 m2 : Nat} {A S1 S2 : Value} {xs1 xs2 : List Value} (hne : l1 ≠ []) (hl1 : l1.dropLast = [o0, o1, o2, o3, o4, o5, o6, o7, o8, o9]) (hlast : l1.getLast hne = o10)
    (hok : lastOk l1.dropLast (l1.getLast hne) = true) (hns : Region.noSelect [o0, o1, o2, o3, o4, o5, o6, o7, o8, o9].toArray = true) (htk : takesOk [o0, o1, o2, o3, o4, o5, o6, o7, o8, o9].toArray [1, 2, 3, 5, 6, 7, 8] (Array.replicate 10 false) = true)
    (p0 : o0.op = .buildSlice 30 0 #[]) (p1 : o1.op = .move (.tmp 6)) (p2 : o2.op = .move (.tmp 9)) (p4 : o4.op = .call { callee := .builtin .append, args := #[.tmp 79, .tmp 82], argTypes := #[30, 30] }) (p5 : o5.op = .move (.tmp 6)) (p6 : o6.op = .move (.tmp 9)) (p7 : o7.op = .binOp .add 3 (.tmp 85) (.const (.int .i64 1)) 3) (p9 : o9.op = .call { callee := .builtin .append, args := #[.tmp 83, .tmp 87], argTypes := #[30, 30] }) (p10 : o10.op = .assign (.tmp 88))
    (g0 : o0.guard = none) (g4 : o4.guard = none) (g9 : o9.guard = none)
    (t0 : o0.dst = some 79) (t1 : o1.dst = some 80) (t2 : o2.dst = some 81) (t3 : o3.dst = some 82) (t4 : o4.dst = some 83) (t5 : o5.dst = some 84) (t6 : o6.dst = some 85) (t7 : o7.dst = some 86) (t8 : o8.dst = some 87) (t9 : o9.dst = some 88) (t10 : o10.dst = some 6)
    (hsz : a.tmps.size = 90)
    (h6 : a.tmps[6]? = some A) (h9 : a.tmps[9]? = some (.int .i64 (k : Int))) (hk : k < 100000)
    (hs1 : ∀ (b : Act) W, b.tmps[80]? = some A → b.tmps[81]? = some (.int .i64 (k : Int)) → (execOp b.eval o3).run Try.prog W = .ok (.value S1) W)
    (hs2 : ∀ (b : Act) W, b.tmps[84]? = some A → b.tmps[86]? = some (.int .i64 ((k : Int) + 1)) → (execOp b.eval o8).run Try.prog W = .ok (.value S2) W)
    (src1 : Src w S1 m1 xs1) (xl1 : xs1.length = m1 * 3) (xo1 : ∀ y ∈ xs1, y.oneCell' = true) (src2 : Src w S2 m2 xs2) (xl2 : xs2.length = m2 * 3) (xo2 : ∀ y ∈ xs2, y.oneCell' = true) (hbd : m1 + m2 ≤ 100000)
    (rn : Region.ready .any [o0, o1, o2, o3, o4, o5, o6, o7, o8, o9].toArray (#[false, true, true, true, false, true, true, true, true, false] : Array Bool) = [0]) (rA : Region.ready .any [o0, o1, o2, o3, o4, o5, o6, o7, o8, o9].toArray ((#[false, true, true, true, false, true, true, true, true, false] : Array Bool).setIfInBounds 0 true) = [4]) (rB : Region.ready .any [o0, o1, o2, o3, o4, o5, o6, o7, o8, o9].toArray (((#[false, true, true, true, false, true, true, true, true, false] : Array Bool).setIfInBounds 0 true).setIfInBounds 4 true) = [9]) (rE : Region.ready .any [o0, o1, o2, o3, o4, o5, o6, o7, o8, o9].toArray ((((#[false, true, true, true, false, true, true, true, true, false] : Array Bool).setIfInBounds 0 true).setIfInBounds 4 true).setIfInBounds 9 true) = [])
    (hQ : ∀ c a d v w, Q (.panic c) (Act.put a d v) w → Q (.panic c) a w)
    (fin : ∀ vA vB vC W', W'.ownsRow w.heap.size 50 3 vC (m1 + m2) (xs1 ++ xs2) → Below w.heap.size w W' → Q .normal (((((((((((a.put (some 80) (A)).put (some 81) (.int .i64 (k : Int))).put (some 82) (S1)).put (some 84) (A)).put (some 85) (.int .i64 (k : Int))).put (some 86) (.int .i64 ((k : Int) + 1))).put (some 87) (S2)).put (some 79) vA).put (some 83) vB).put (some 88) vC).put (some 6) vC) W') :
    (Code.region id l1.toArray true).wp Try.prog Q a w := by
  obtain ⟨af, haf⟩ : ∃ af, af = (((((((a.put (some 80) (A)).put (some 81) (.int .i64 (k : Int))).put (some 82) (S1)).put (some 84) (A)).put (some 85) (.int .i64 (k : Int))).put (some 86) (.int .i64 ((k : Int) + 1))).put (some 87) (S2)) := ⟨_, rfl⟩
  rw [← haf] at fin
  have fsz : af.tmps.size = 90 := by rw [haf]; simp only [gput_sz]; exact hsz
  have f6 : af.tmps[6]? = some (A) := by rw [haf]; rw [gput_ne (by decide), gput_ne (by decide), gput_ne (by decide), gput_ne (by decide), gput_ne (by decide), gput_ne (by decide), gput_ne (by decide)]; exact h6
  have f9 : af.tmps[9]? = some (.int .i64 (k : Int)) := by rw [haf]; rw [gput_ne (by decide), gput_ne (by decide), gput_ne (by decide), gput_ne (by decide), gput_ne (by decide), gput_ne (by decide), gput_ne (by decide)]; exact h9
  have f80 : af.tmps[80]? = some (A) := by rw [haf]; rw [gput_ne (by decide), gput_ne (by decide), gput_ne (by decide), gput_ne (by decide), gput_ne (by decide), gput_ne (by decide), gput_at (by first | (rw [hsz]; decide) | (simp only [gput_sz]; rw [hsz]; decide))]
  have f81 : af.tmps[81]? = some (.int .i64 (k : Int)) := by rw [haf]; rw [gput_ne (by decide), gput_ne (by decide), gput_ne (by decide), gput_ne (by decide), gput_ne (by decide), gput_at (by first | (rw [hsz]; decide) | (simp only [gput_sz]; rw [hsz]; decide))]
  have f82 : af.tmps[82]? = some (S1) := by rw [haf]; rw [gput_ne (by decide), gput_ne (by decide), gput_ne (by decide), gput_ne (by decide), gput_at (by first | (rw [hsz]; decide) | (simp only [gput_sz]; rw [hsz]; decide))]
  have f84 : af.tmps[84]? = some (A) := by rw [haf]; rw [gput_ne (by decide), gput_ne (by decide), gput_ne (by decide), gput_at (by first | (rw [hsz]; decide) | (simp only [gput_sz]; rw [hsz]; decide))]
  have f85 : af.tmps[85]? = some (.int .i64 (k : Int)) := by rw [haf]; rw [gput_ne (by decide), gput_ne (by decide), gput_at (by first | (rw [hsz]; decide) | (simp only [gput_sz]; rw [hsz]; decide))]
  have f86 : af.tmps[86]? = some (.int .i64 ((k : Int) + 1)) := by rw [haf]; rw [gput_ne (by decide), gput_at (by first | (rw [hsz]; decide) | (simp only [gput_sz]; rw [hsz]; decide))]
  have f87 : af.tmps[87]? = some (S2) := by rw [haf]; rw [gput_at (by first | (rw [hsz]; decide) | (simp only [gput_sz]; rw [hsz]; decide))]
  have HS : Below w.heap.size w w.drew := (Below.refl _ _).drew
  refine wp_region_last2 hne (fun W => Below w.heap.size w W) (by kernel_rfl) hok ?_
  rw [hl1, hlast]
  have hput : putIdx af [o0, o1, o2, o3, o4, o5, o6, o7, o8, o9].toArray [1, 2, 3, 5, 6, 7, 8] a = af := by
    have e : putIdx af [o0, o1, o2, o3, o4, o5, o6, o7, o8, o9].toArray [1, 2, 3, 5, 6, 7, 8] a = (((((((a.put (some 80) (A)).put (some 81) (.int .i64 (k : Int))).put (some 82) (S1)).put (some 84) (A)).put (some 85) (.int .i64 (k : Int))).put (some 86) (.int .i64 ((k : Int) + 1))).put (some 87) (S2)) := by
      simp only [putIdx, List.getElem?_toArray, List.getElem?_cons_succ, List.getElem?_cons_zero, Option.bind_some, t1, t2, t3, t5, t6, t7, t8, ggetD f80, ggetD f81, ggetD f82, ggetD f84, ggetD f85, ggetD f86, ggetD f87]
    rw [e, haf]
  refine takes (P := Try.prog) (Q := lastQ Try.prog o10 Q) (S := fun W => Below w.heap.size w W) (idx := [1, 2, 3, 5, 6, 7, 8]) (af := af) (fuel := 3) hns (fun c a d v w h => hQ c a d v w h) HS _ _ htk hput ?_ ?_
  · refine ⟨⟨o1, 80, _, rfl, t1, f80, ?_⟩, ⟨o2, 81, _, rfl, t2, f81, ?_⟩, ⟨o3, 82, _, rfl, t3, f82, ?_⟩, ⟨o5, 84, _, rfl, t5, f84, ?_⟩, ⟨o6, 85, _, rfl, t6, f85, ?_⟩, ⟨o7, 86, _, rfl, t7, f86, ?_⟩, ⟨o8, 87, _, rfl, t8, f87, ?_⟩, trivial⟩
    · intro W hW
      clear fin haf hput htk hns hok fsz hsz hQ rn rA rB rE h6 h9 HS hs1 hs2 src1 src2
      obtain ⟨d, op, ty, pos, aft, gd⟩ := o1
      simp only at p1
      subst p1
      go_simp
    · intro W hW
      clear fin haf hput htk hns hok fsz hsz hQ rn rA rB rE h6 h9 HS hs1 hs2 src1 src2
      obtain ⟨d, op, ty, pos, aft, gd⟩ := o2
      simp only at p2
      subst p2
      go_simp
    · intro W hW
      exact hs1 af W f80 f81
    · intro W hW
      clear fin haf hput htk hns hok fsz hsz hQ rn rA rB rE h6 h9 HS hs1 hs2 src1 src2
      obtain ⟨d, op, ty, pos, aft, gd⟩ := o5
      simp only at p5
      subst p5
      go_simp
    · intro W hW
      clear fin haf hput htk hns hok fsz hsz hQ rn rA rB rE h6 h9 HS hs1 hs2 src1 src2
      obtain ⟨d, op, ty, pos, aft, gd⟩ := o6
      simp only at p6
      subst p6
      go_simp
    · intro W hW
      clear fin haf hput htk hns hok fsz hsz hQ rn rA rB rE h6 h9 HS hs1 hs2 src1 src2
      obtain ⟨d, op, ty, pos, aft, gd⟩ := o7
      simp only at p7
      subst p7
      go_simp
      rw [IntKind.wrap_i64]
      omega
    · intro W hW
      exact hs2 af W f84 f86
  have em : markIdx [1, 2, 3, 5, 6, 7, 8] (Array.replicate [o0, o1, o2, o3, o4, o5, o6, o7, o8, o9].length false) = #[false, true, true, true, false, true, true, true, true, false] := by kernel_rfl
  rw [em]
  refine gtail_row eltEr (iA := 0) (iB := 4) (dA := 79) (dB := 83) (dv := 82) (fuel := 1) (m := m1) (xs := xs1) (w0 := w) (oA := o0) (oB := o4) rfl rfl g0 g4 (run_en0 p0) p4 t0 t4 rn rA (by decide) (by rw [fsz]; decide) f82 src1 xl1 xo1 (by omega) HS ?_
  intro vA vB W hW hB
  have q83 : ((af.put (some 79) vA).put (some 83) vB).tmps[83]? = some vB := gput_at (by rw [gput_sz, fsz]; decide)
  have q87 : ((af.put (some 79) vA).put (some 83) vB).tmps[87]? = some S2 := by rw [gput_ne (by decide), gput_ne (by decide)]; exact f87
  have qsz : ((af.put (some 79) vA).put (some 83) vB).tmps.size = 90 := by rw [gput_sz, gput_sz, fsz]
  have fin2 := fin vA vB
  generalize (af.put (some 79) vA).put (some 83) vB = b3 at *
  refine gtail_more eltEr (iB := 9) (dA := 83) (dv := 87) (dB := 88) (fuel := 0) (oB := o9) (w0 := w) rfl g9 p9 t9 rB q83 q87 hB src2 xl2 xo2 (by omega) hW ?_
  intro vC W2 hW2 hC
  refine gfin_assign rE p10 t10 (gput_at (by rw [qsz]; decide)) ?_
  exact fin2 vC W2 hC hW2


end Go.Proofs.Ytimmjhegeagofaa
