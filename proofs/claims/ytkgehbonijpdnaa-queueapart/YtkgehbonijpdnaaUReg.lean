/- The document's Publish: a lane's claims without their first one, in whatever order the operations come. (Written by wip/tools/ureg.py.) -/
import Derived.Test.YtkgehbonijpdnaaURefK
import Derived.Test.YtkgehbonijpdnaaKTakes
import Derived.Test.YtkgehbonijpdnaaKLast
namespace Go.Proofs.Ytkgehbonijpdnaa
open Go.RowKit
set_option maxRecDepth 100000

theorem run_i0 {o : Oper} (hop : o.op = .buildSlice 25 0 #[]) (a : Act) (W : World) : (execOp a.eval o).run Try.prog W = .ok (.value (.slice (some ⟨W.heap.size, 0, none⟩) 0 0)) (W.alloc (.cells #[] 3)) := by
  obtain ⟨d, op, ty, pos, aft, gd⟩ := o
  simp only at hop
  subst hop
  go_simp
/-- the last ones wait for all before them, one behind the other -/
theorem wp_region_tail {P : Program} {id : Nat} {Q : Exit → Act → World → Prop} {a : Act} {w : World} {l1 : List Oper} (n : Nat) (S : World → Prop) (hm : P.follows .mixedOrders = true) (hok : tailOk (l1.take n) (l1.drop n) = true)
    (h : wpAnyH P .any (l1.take n).toArray (tailQ P Q (l1.drop n)) S (l1.take n).length (Array.replicate (l1.take n).length false) a w.drew) : (Code.region id l1.toArray true).wp P Q a w := by
  refine wp_region_any hm ?_
  have h1 := split_tail (l1.drop n) (l1.take n) a w.drew hok (wpAny_of_held _ _ _ _ h)
  rw [List.take_append_drop] at h1
  simpa using h1
/-- all are done: the last ones store a slice of ints -/
theorem ufin_store3 {ops : Array Oper} {Q : Exit → Act → World → Prop} {S : World → Prop} {oX oY oL : Oper} {dl dj dx dp d fuel b o N lc j l c : Nat} {listed : Array Bool} {a : Act} {W : World} {ad : Option Addr} {u : Value}
    (rE : Region.ready .any ops listed = []) (pX : oX.op = .indexAddr 27 (.tmp dl) (.tmp dj)) (tX : oX.dst = some dx) (pY : oY.op = .fieldAddr 57 (.tmp dx) 3) (tY : oY.dst = some dp) (pL : oL.op = .store 25 (.tmp dp) (.tmp d)) (tL : oL.dst = none) (hp : a.tmps[dl]? = some (.slice (some ⟨b, o, none⟩) N lc)) (hq : a.tmps[dj]? = some (.int .i64 (j : Int))) (hjN : j < N) (hD : a.tmps[d]? = some (.slice ad l c)) (n1 : dx ≠ d) (n2 : dp ≠ d) (s1 : dx < a.tmps.size) (s2 : dp < a.tmps.size) (hc : W.cell? ⟨b, o + j * 6 + 3, none⟩ = some u) (hf : W.frozen? ⟨b, o + j * 6 + 3, none⟩ = false)
    (h : Q .normal ((a.put (some dx) (.pointer (some ⟨b, o + j * 6, none⟩))).put (some dp) (.pointer (some ⟨b, o + j * 6 + 3, none⟩))) (W.setCell ⟨b, o + j * 6 + 3, none⟩ (.slice ad l c))) :
    wpAnyH Try.prog .any ops (tailQ Try.prog Q [oX, oY, oL]) S fuel listed a W := by
  refine wpAnyH_done rE ?_ _
  refine tailQ_of _ _ _ ?_
  unfold tailWp
  intro K hK
  have hrun : (execOp a.eval oX).run Try.prog W = .ok (.value (.pointer (some ⟨b, o + j * 6, none⟩))) W := by
    obtain ⟨dd, op, ty, pos, aft, g⟩ := oX
    simp only at pX
    subst pX
    have i1 : (0 : Int) ≤ (j : Int) := by omega
    have i2 : (j : Int) < (N : Int) := by omega
    clear h rE tL hK
    go_simp
  unfold Oper.wp
  rw [hrun]
  refine hK _ _ ?_
  clear hK hrun
  rw [tX]
  have z1 : (a.put (some dx) (.pointer (some ⟨b, o + j * 6, none⟩))).tmps[dx]? = some (.pointer (some ⟨b, o + j * 6, none⟩)) := gput_at s1
  have z2 : (a.put (some dx) (.pointer (some ⟨b, o + j * 6, none⟩))).tmps[d]? = some (.slice ad l c) := (gput_ne n1).trans hD
  have z3 : (a.put (some dx) (.pointer (some ⟨b, o + j * 6, none⟩))).tmps.size = a.tmps.size := gput_sz
  generalize a.put (some dx) (.pointer (some ⟨b, o + j * 6, none⟩)) = a1 at *
  unfold tailWp
  intro K hK
  have hrun : (execOp a1.eval oY).run Try.prog W = .ok (.value (.pointer (some ⟨b, o + j * 6 + 3, none⟩))) W := by
    obtain ⟨dd, op, ty, pos, aft, g⟩ := oY
    simp only at pY
    subst pY
    clear h rE tL hK hp hq hD s1 s2 z3
    go_simp
  unfold Oper.wp
  rw [hrun]
  refine hK _ _ ?_
  clear hK hrun
  rw [tY]
  have y1 : (a1.put (some dp) (.pointer (some ⟨b, o + j * 6 + 3, none⟩))).tmps[dp]? = some (.pointer (some ⟨b, o + j * 6 + 3, none⟩)) := gput_at (by rw [z3]; exact s2)
  have y2 : (a1.put (some dp) (.pointer (some ⟨b, o + j * 6 + 3, none⟩))).tmps[d]? = some (.slice ad l c) := (gput_ne n2).trans z2
  generalize a1.put (some dp) (.pointer (some ⟨b, o + j * 6 + 3, none⟩)) = a2 at *
  unfold tailWp
  intro K hK
  have hrun : (execOp a2.eval oL).run Try.prog W = .ok .skip (W.setCell ⟨b, o + j * 6 + 3, none⟩ (.slice ad l c)) := by
    obtain ⟨dd, op, ty, pos, aft, g⟩ := oL
    simp only at pL
    subst pL
    clear h rE tL hK hp hD z1 z2 s1 s2 z3
    go_simp
  unfold Oper.wp
  rw [hrun]
  refine hK _ _ ?_
  unfold tailWp
  show Q .normal (a2.put oL.dst undef) _
  rw [tL]
  exact h
set_option maxHeartbeats 2000000 in
theorem pub_region {id : Nat} {Q : Exit → Act → World → Prop} {a : Act} {w : World} {l1 : List Oper} {o0 o1 o2 o3 o4 o5 o6 o7 o8 o9 o10 o11 o12 o13 o14 o15 o16 : Oper} {D C bl ol N lc j g m cc : Nat} {xs1 : List Value} (hl1 : l1.take 14 = [o0, o1, o2, o3, o4, o5, o6, o7, o8, o9, o10, o11, o12, o13]) (hlast : l1.drop 14 = [o14, o15, o16])
    (hok : tailOk (l1.take 14) (l1.drop 14) = true) (hns : Region.noSelect [o0, o1, o2, o3, o4, o5, o6, o7, o8, o9, o10, o11, o12, o13].toArray = true) (htk : takesOk [o0, o1, o2, o3, o4, o5, o6, o7, o8, o9, o10, o11, o12, o13].toArray [0, 1, 2, 3, 5, 6, 7, 8, 9, 10, 11, 12] (Array.replicate 14 false) = true)
    (p0 : o0.op = .fieldAddr 30 (.tmp 10) 0) (p1 : o1.op = .load 27 (.tmp 30)) (p2 : o2.op = .fieldAddr 47 (.tmp 4) 0) (p3 : o3.op = .load 3 (.tmp 32)) (p4 : o4.op = .buildSlice 25 0 #[]) (p5 : o5.op = .fieldAddr 30 (.tmp 10) 0) (p6 : o6.op = .load 27 (.tmp 35)) (p7 : o7.op = .fieldAddr 47 (.tmp 4) 0) (p8 : o8.op = .load 3 (.tmp 37)) (p9 : o9.op = .indexAddr 27 (.tmp 36) (.tmp 38)) (p10 : o10.op = .fieldAddr 57 (.tmp 39) 3) (p11 : o11.op = .load 25 (.tmp 40)) (p12 : o12.op = .slice 25 (.tmp 41) (some (.const (.int .i64 1))) none none) (p13 : o13.op = .call { callee := .builtin .append, args := #[.tmp 34, .tmp 42], argTypes := #[25, 25] }) (p14 : o14.op = .indexAddr 27 (.tmp 31) (.tmp 33)) (p15 : o15.op = .fieldAddr 57 (.tmp 44) 3) (p16 : o16.op = .store 25 (.tmp 45) (.tmp 43))
    (g4 : o4.guard = none) (g13 : o13.guard = none)
    (t0 : o0.dst = some 30) (t1 : o1.dst = some 31) (t2 : o2.dst = some 32) (t3 : o3.dst = some 33) (t4 : o4.dst = some 34) (t5 : o5.dst = some 35) (t6 : o6.dst = some 36) (t7 : o7.dst = some 37) (t8 : o8.dst = some 38) (t9 : o9.dst = some 39) (t10 : o10.dst = some 40) (t11 : o11.dst = some 41) (t12 : o12.dst = some 42) (t13 : o13.dst = some 43) (t14 : o14.dst = some 44) (t15 : o15.dst = some 45) (t16 : o16.dst = none)
    (hsz : a.tmps.size = 60)
    (h10 : a.tmps[10]? = some (.pointer (some ⟨D, 0, none⟩))) (h4 : a.tmps[4]? = some (.pointer (some ⟨C, 0, none⟩))) (cD : w.cell? ⟨D, 0, none⟩ = some (.slice (some ⟨bl, ol, none⟩) N lc)) (cC : w.cell? ⟨C, 0, none⟩ = some (.int .i64 (j : Int))) (c3 : w.cell? ⟨bl, ol + j * 6 + 3, none⟩ = some (.slice (some ⟨g, 0, none⟩) m cc)) (fz : ∀ W, Below w.heap.size w W → W.frozen? ⟨bl, ol + j * 6 + 3, none⟩ = false)
    (hj : j < N) (hm : 1 ≤ m) (src1 : Src w (.slice (if cc = 1 then some ⟨g, 0, none⟩ else some ⟨g, 1, none⟩) (m - 1) (cc - 1)) (m - 1) xs1) (xl1 : xs1.length = (m - 1) * 1) (xo1 : ∀ y ∈ xs1, y.oneCell' = true) (hbd : m ≤ 1000)
    (rn : Region.ready .any [o0, o1, o2, o3, o4, o5, o6, o7, o8, o9, o10, o11, o12, o13].toArray (#[true, true, true, true, false, true, true, true, true, true, true, true, true, false] : Array Bool) = [4]) (rA : Region.ready .any [o0, o1, o2, o3, o4, o5, o6, o7, o8, o9, o10, o11, o12, o13].toArray ((#[true, true, true, true, false, true, true, true, true, true, true, true, true, false] : Array Bool).setIfInBounds 4 true) = [13]) (rE : Region.ready .any [o0, o1, o2, o3, o4, o5, o6, o7, o8, o9, o10, o11, o12, o13].toArray (((#[true, true, true, true, false, true, true, true, true, true, true, true, true, false] : Array Bool).setIfInBounds 4 true).setIfInBounds 13 true) = [])
    (hQ : ∀ c a d v w, Q (.panic c) (Act.put a d v) w → Q (.panic c) a w)
    (fin : ∀ vA ad c W', W'.ownsRow w.heap.size 3 1 (.slice ad (m - 1) c) (m - 1) xs1 → Below w.heap.size w W' → Q .normal ((((((((((((((((a.put (some 30) (.pointer (some ⟨D, 0, none⟩))).put (some 31) (.slice (some ⟨bl, ol, none⟩) N lc)).put (some 32) (.pointer (some ⟨C, 0, none⟩))).put (some 33) (.int .i64 (j : Int))).put (some 35) (.pointer (some ⟨D, 0, none⟩))).put (some 36) (.slice (some ⟨bl, ol, none⟩) N lc)).put (some 37) (.pointer (some ⟨C, 0, none⟩))).put (some 38) (.int .i64 (j : Int))).put (some 39) (.pointer (some ⟨bl, ol + j * 6, none⟩))).put (some 40) (.pointer (some ⟨bl, ol + j * 6 + 3, none⟩))).put (some 41) (.slice (some ⟨g, 0, none⟩) m cc)).put (some 42) (.slice (if cc = 1 then some ⟨g, 0, none⟩ else some ⟨g, 1, none⟩) (m - 1) (cc - 1))).put (some 34) vA).put (some 43) (.slice ad (m - 1) c)).put (some 44) (.pointer (some ⟨bl, ol + j * 6, none⟩))).put (some 45) (.pointer (some ⟨bl, ol + j * 6 + 3, none⟩))) (W'.setCell ⟨bl, ol + j * 6 + 3, none⟩ (.slice ad (m - 1) c))) :
    (Code.region id l1.toArray true).wp Try.prog Q a w := by
  obtain ⟨af, haf⟩ : ∃ af, af = ((((((((((((a.put (some 30) (.pointer (some ⟨D, 0, none⟩))).put (some 31) (.slice (some ⟨bl, ol, none⟩) N lc)).put (some 32) (.pointer (some ⟨C, 0, none⟩))).put (some 33) (.int .i64 (j : Int))).put (some 35) (.pointer (some ⟨D, 0, none⟩))).put (some 36) (.slice (some ⟨bl, ol, none⟩) N lc)).put (some 37) (.pointer (some ⟨C, 0, none⟩))).put (some 38) (.int .i64 (j : Int))).put (some 39) (.pointer (some ⟨bl, ol + j * 6, none⟩))).put (some 40) (.pointer (some ⟨bl, ol + j * 6 + 3, none⟩))).put (some 41) (.slice (some ⟨g, 0, none⟩) m cc)).put (some 42) (.slice (if cc = 1 then some ⟨g, 0, none⟩ else some ⟨g, 1, none⟩) (m - 1) (cc - 1))) := ⟨_, rfl⟩
  rw [← haf] at fin
  have fsz : af.tmps.size = 60 := by rw [haf]; simp only [gput_sz]; exact hsz
  have k10 : af.tmps[10]? = some (.pointer (some ⟨D, 0, none⟩)) := by rw [haf]; rw [gput_ne (by decide), gput_ne (by decide), gput_ne (by decide), gput_ne (by decide), gput_ne (by decide), gput_ne (by decide), gput_ne (by decide), gput_ne (by decide), gput_ne (by decide), gput_ne (by decide), gput_ne (by decide), gput_ne (by decide)]; exact h10
  have k4 : af.tmps[4]? = some (.pointer (some ⟨C, 0, none⟩)) := by rw [haf]; rw [gput_ne (by decide), gput_ne (by decide), gput_ne (by decide), gput_ne (by decide), gput_ne (by decide), gput_ne (by decide), gput_ne (by decide), gput_ne (by decide), gput_ne (by decide), gput_ne (by decide), gput_ne (by decide), gput_ne (by decide)]; exact h4
  have f30 : af.tmps[30]? = some (.pointer (some ⟨D, 0, none⟩)) := by rw [haf]; rw [gput_ne (by decide), gput_ne (by decide), gput_ne (by decide), gput_ne (by decide), gput_ne (by decide), gput_ne (by decide), gput_ne (by decide), gput_ne (by decide), gput_ne (by decide), gput_ne (by decide), gput_ne (by decide), gput_at (by first | (rw [hsz]; decide) | (simp only [gput_sz]; rw [hsz]; decide))]
  have f31 : af.tmps[31]? = some (.slice (some ⟨bl, ol, none⟩) N lc) := by rw [haf]; rw [gput_ne (by decide), gput_ne (by decide), gput_ne (by decide), gput_ne (by decide), gput_ne (by decide), gput_ne (by decide), gput_ne (by decide), gput_ne (by decide), gput_ne (by decide), gput_ne (by decide), gput_at (by first | (rw [hsz]; decide) | (simp only [gput_sz]; rw [hsz]; decide))]
  have f32 : af.tmps[32]? = some (.pointer (some ⟨C, 0, none⟩)) := by rw [haf]; rw [gput_ne (by decide), gput_ne (by decide), gput_ne (by decide), gput_ne (by decide), gput_ne (by decide), gput_ne (by decide), gput_ne (by decide), gput_ne (by decide), gput_ne (by decide), gput_at (by first | (rw [hsz]; decide) | (simp only [gput_sz]; rw [hsz]; decide))]
  have f33 : af.tmps[33]? = some (.int .i64 (j : Int)) := by rw [haf]; rw [gput_ne (by decide), gput_ne (by decide), gput_ne (by decide), gput_ne (by decide), gput_ne (by decide), gput_ne (by decide), gput_ne (by decide), gput_ne (by decide), gput_at (by first | (rw [hsz]; decide) | (simp only [gput_sz]; rw [hsz]; decide))]
  have f35 : af.tmps[35]? = some (.pointer (some ⟨D, 0, none⟩)) := by rw [haf]; rw [gput_ne (by decide), gput_ne (by decide), gput_ne (by decide), gput_ne (by decide), gput_ne (by decide), gput_ne (by decide), gput_ne (by decide), gput_at (by first | (rw [hsz]; decide) | (simp only [gput_sz]; rw [hsz]; decide))]
  have f36 : af.tmps[36]? = some (.slice (some ⟨bl, ol, none⟩) N lc) := by rw [haf]; rw [gput_ne (by decide), gput_ne (by decide), gput_ne (by decide), gput_ne (by decide), gput_ne (by decide), gput_ne (by decide), gput_at (by first | (rw [hsz]; decide) | (simp only [gput_sz]; rw [hsz]; decide))]
  have f37 : af.tmps[37]? = some (.pointer (some ⟨C, 0, none⟩)) := by rw [haf]; rw [gput_ne (by decide), gput_ne (by decide), gput_ne (by decide), gput_ne (by decide), gput_ne (by decide), gput_at (by first | (rw [hsz]; decide) | (simp only [gput_sz]; rw [hsz]; decide))]
  have f38 : af.tmps[38]? = some (.int .i64 (j : Int)) := by rw [haf]; rw [gput_ne (by decide), gput_ne (by decide), gput_ne (by decide), gput_ne (by decide), gput_at (by first | (rw [hsz]; decide) | (simp only [gput_sz]; rw [hsz]; decide))]
  have f39 : af.tmps[39]? = some (.pointer (some ⟨bl, ol + j * 6, none⟩)) := by rw [haf]; rw [gput_ne (by decide), gput_ne (by decide), gput_ne (by decide), gput_at (by first | (rw [hsz]; decide) | (simp only [gput_sz]; rw [hsz]; decide))]
  have f40 : af.tmps[40]? = some (.pointer (some ⟨bl, ol + j * 6 + 3, none⟩)) := by rw [haf]; rw [gput_ne (by decide), gput_ne (by decide), gput_at (by first | (rw [hsz]; decide) | (simp only [gput_sz]; rw [hsz]; decide))]
  have f41 : af.tmps[41]? = some (.slice (some ⟨g, 0, none⟩) m cc) := by rw [haf]; rw [gput_ne (by decide), gput_at (by first | (rw [hsz]; decide) | (simp only [gput_sz]; rw [hsz]; decide))]
  have f42 : af.tmps[42]? = some (.slice (if cc = 1 then some ⟨g, 0, none⟩ else some ⟨g, 1, none⟩) (m - 1) (cc - 1)) := by rw [haf]; rw [gput_at (by first | (rw [hsz]; decide) | (simp only [gput_sz]; rw [hsz]; decide))]
  have HS : Below w.heap.size w w.drew := (Below.refl _ _).drew
  refine wp_region_tail 14 (fun W => Below w.heap.size w W) (by kernel_rfl) hok ?_
  rw [hl1, hlast]
  have hput : putIdx af [o0, o1, o2, o3, o4, o5, o6, o7, o8, o9, o10, o11, o12, o13].toArray [0, 1, 2, 3, 5, 6, 7, 8, 9, 10, 11, 12] a = af := by
    have e : putIdx af [o0, o1, o2, o3, o4, o5, o6, o7, o8, o9, o10, o11, o12, o13].toArray [0, 1, 2, 3, 5, 6, 7, 8, 9, 10, 11, 12] a = ((((((((((((a.put (some 30) (.pointer (some ⟨D, 0, none⟩))).put (some 31) (.slice (some ⟨bl, ol, none⟩) N lc)).put (some 32) (.pointer (some ⟨C, 0, none⟩))).put (some 33) (.int .i64 (j : Int))).put (some 35) (.pointer (some ⟨D, 0, none⟩))).put (some 36) (.slice (some ⟨bl, ol, none⟩) N lc)).put (some 37) (.pointer (some ⟨C, 0, none⟩))).put (some 38) (.int .i64 (j : Int))).put (some 39) (.pointer (some ⟨bl, ol + j * 6, none⟩))).put (some 40) (.pointer (some ⟨bl, ol + j * 6 + 3, none⟩))).put (some 41) (.slice (some ⟨g, 0, none⟩) m cc)).put (some 42) (.slice (if cc = 1 then some ⟨g, 0, none⟩ else some ⟨g, 1, none⟩) (m - 1) (cc - 1))) := by
      simp only [putIdx, List.getElem?_toArray, List.getElem?_cons_succ, List.getElem?_cons_zero, Option.bind_some, t0, t1, t2, t3, t5, t6, t7, t8, t9, t10, t11, t12, ggetD f30, ggetD f31, ggetD f32, ggetD f33, ggetD f35, ggetD f36, ggetD f37, ggetD f38, ggetD f39, ggetD f40, ggetD f41, ggetD f42]
    rw [e, haf]
  refine takes (P := Try.prog) (Q := tailQ Try.prog Q [o14, o15, o16]) (S := fun W => Below w.heap.size w W) (idx := [0, 1, 2, 3, 5, 6, 7, 8, 9, 10, 11, 12]) (af := af) (fuel := 2) hns (fun c a d v w h => hQ c a d v w h) HS _ _ htk hput ?_ ?_
  · refine ⟨⟨o0, 30, _, rfl, t0, f30, ?_⟩, ⟨o1, 31, _, rfl, t1, f31, ?_⟩, ⟨o2, 32, _, rfl, t2, f32, ?_⟩, ⟨o3, 33, _, rfl, t3, f33, ?_⟩, ⟨o5, 35, _, rfl, t5, f35, ?_⟩, ⟨o6, 36, _, rfl, t6, f36, ?_⟩, ⟨o7, 37, _, rfl, t7, f37, ?_⟩, ⟨o8, 38, _, rfl, t8, f38, ?_⟩, ⟨o9, 39, _, rfl, t9, f39, ?_⟩, ⟨o10, 40, _, rfl, t10, f40, ?_⟩, ⟨o11, 41, _, rfl, t11, f41, ?_⟩, ⟨o12, 42, _, rfl, t12, f42, ?_⟩, trivial⟩
    · intro W hW
      have kD := (hW.cell (p := ⟨D, 0, none⟩) (gcell_lt cD)).trans cD
      have kC := (hW.cell (p := ⟨C, 0, none⟩) (gcell_lt cC)).trans cC
      have k3 := (hW.cell (p := ⟨bl, ol + j * 6 + 3, none⟩) (gcell_lt c3)).trans c3
      have i1 : (0 : Int) ≤ (j : Int) := by omega
      have i2 : (j : Int) < (N : Int) := by omega
      have i3 : (1 : Int) ≤ (m : Int) := by omega
      clear fin haf hput htk hns hok fsz hsz hQ hl1 hlast fz src1 xl1 xo1 hbd
      obtain ⟨d, op, ty, pos, aft, gd⟩ := o0
      simp only at p0
      subst p0
      go_simp
    · intro W hW
      have kD := (hW.cell (p := ⟨D, 0, none⟩) (gcell_lt cD)).trans cD
      have kC := (hW.cell (p := ⟨C, 0, none⟩) (gcell_lt cC)).trans cC
      have k3 := (hW.cell (p := ⟨bl, ol + j * 6 + 3, none⟩) (gcell_lt c3)).trans c3
      have i1 : (0 : Int) ≤ (j : Int) := by omega
      have i2 : (j : Int) < (N : Int) := by omega
      have i3 : (1 : Int) ≤ (m : Int) := by omega
      clear fin haf hput htk hns hok fsz hsz hQ hl1 hlast fz src1 xl1 xo1 hbd
      obtain ⟨d, op, ty, pos, aft, gd⟩ := o1
      simp only at p1
      subst p1
      go_simp
    · intro W hW
      have kD := (hW.cell (p := ⟨D, 0, none⟩) (gcell_lt cD)).trans cD
      have kC := (hW.cell (p := ⟨C, 0, none⟩) (gcell_lt cC)).trans cC
      have k3 := (hW.cell (p := ⟨bl, ol + j * 6 + 3, none⟩) (gcell_lt c3)).trans c3
      have i1 : (0 : Int) ≤ (j : Int) := by omega
      have i2 : (j : Int) < (N : Int) := by omega
      have i3 : (1 : Int) ≤ (m : Int) := by omega
      clear fin haf hput htk hns hok fsz hsz hQ hl1 hlast fz src1 xl1 xo1 hbd
      obtain ⟨d, op, ty, pos, aft, gd⟩ := o2
      simp only at p2
      subst p2
      go_simp
    · intro W hW
      have kD := (hW.cell (p := ⟨D, 0, none⟩) (gcell_lt cD)).trans cD
      have kC := (hW.cell (p := ⟨C, 0, none⟩) (gcell_lt cC)).trans cC
      have k3 := (hW.cell (p := ⟨bl, ol + j * 6 + 3, none⟩) (gcell_lt c3)).trans c3
      have i1 : (0 : Int) ≤ (j : Int) := by omega
      have i2 : (j : Int) < (N : Int) := by omega
      have i3 : (1 : Int) ≤ (m : Int) := by omega
      clear fin haf hput htk hns hok fsz hsz hQ hl1 hlast fz src1 xl1 xo1 hbd
      obtain ⟨d, op, ty, pos, aft, gd⟩ := o3
      simp only at p3
      subst p3
      go_simp
    · intro W hW
      have kD := (hW.cell (p := ⟨D, 0, none⟩) (gcell_lt cD)).trans cD
      have kC := (hW.cell (p := ⟨C, 0, none⟩) (gcell_lt cC)).trans cC
      have k3 := (hW.cell (p := ⟨bl, ol + j * 6 + 3, none⟩) (gcell_lt c3)).trans c3
      have i1 : (0 : Int) ≤ (j : Int) := by omega
      have i2 : (j : Int) < (N : Int) := by omega
      have i3 : (1 : Int) ≤ (m : Int) := by omega
      clear fin haf hput htk hns hok fsz hsz hQ hl1 hlast fz src1 xl1 xo1 hbd
      obtain ⟨d, op, ty, pos, aft, gd⟩ := o5
      simp only at p5
      subst p5
      go_simp
    · intro W hW
      have kD := (hW.cell (p := ⟨D, 0, none⟩) (gcell_lt cD)).trans cD
      have kC := (hW.cell (p := ⟨C, 0, none⟩) (gcell_lt cC)).trans cC
      have k3 := (hW.cell (p := ⟨bl, ol + j * 6 + 3, none⟩) (gcell_lt c3)).trans c3
      have i1 : (0 : Int) ≤ (j : Int) := by omega
      have i2 : (j : Int) < (N : Int) := by omega
      have i3 : (1 : Int) ≤ (m : Int) := by omega
      clear fin haf hput htk hns hok fsz hsz hQ hl1 hlast fz src1 xl1 xo1 hbd
      obtain ⟨d, op, ty, pos, aft, gd⟩ := o6
      simp only at p6
      subst p6
      go_simp
    · intro W hW
      have kD := (hW.cell (p := ⟨D, 0, none⟩) (gcell_lt cD)).trans cD
      have kC := (hW.cell (p := ⟨C, 0, none⟩) (gcell_lt cC)).trans cC
      have k3 := (hW.cell (p := ⟨bl, ol + j * 6 + 3, none⟩) (gcell_lt c3)).trans c3
      have i1 : (0 : Int) ≤ (j : Int) := by omega
      have i2 : (j : Int) < (N : Int) := by omega
      have i3 : (1 : Int) ≤ (m : Int) := by omega
      clear fin haf hput htk hns hok fsz hsz hQ hl1 hlast fz src1 xl1 xo1 hbd
      obtain ⟨d, op, ty, pos, aft, gd⟩ := o7
      simp only at p7
      subst p7
      go_simp
    · intro W hW
      have kD := (hW.cell (p := ⟨D, 0, none⟩) (gcell_lt cD)).trans cD
      have kC := (hW.cell (p := ⟨C, 0, none⟩) (gcell_lt cC)).trans cC
      have k3 := (hW.cell (p := ⟨bl, ol + j * 6 + 3, none⟩) (gcell_lt c3)).trans c3
      have i1 : (0 : Int) ≤ (j : Int) := by omega
      have i2 : (j : Int) < (N : Int) := by omega
      have i3 : (1 : Int) ≤ (m : Int) := by omega
      clear fin haf hput htk hns hok fsz hsz hQ hl1 hlast fz src1 xl1 xo1 hbd
      obtain ⟨d, op, ty, pos, aft, gd⟩ := o8
      simp only at p8
      subst p8
      go_simp
    · intro W hW
      have kD := (hW.cell (p := ⟨D, 0, none⟩) (gcell_lt cD)).trans cD
      have kC := (hW.cell (p := ⟨C, 0, none⟩) (gcell_lt cC)).trans cC
      have k3 := (hW.cell (p := ⟨bl, ol + j * 6 + 3, none⟩) (gcell_lt c3)).trans c3
      have i1 : (0 : Int) ≤ (j : Int) := by omega
      have i2 : (j : Int) < (N : Int) := by omega
      have i3 : (1 : Int) ≤ (m : Int) := by omega
      clear fin haf hput htk hns hok fsz hsz hQ hl1 hlast fz src1 xl1 xo1 hbd
      obtain ⟨d, op, ty, pos, aft, gd⟩ := o9
      simp only at p9
      subst p9
      go_simp
    · intro W hW
      have kD := (hW.cell (p := ⟨D, 0, none⟩) (gcell_lt cD)).trans cD
      have kC := (hW.cell (p := ⟨C, 0, none⟩) (gcell_lt cC)).trans cC
      have k3 := (hW.cell (p := ⟨bl, ol + j * 6 + 3, none⟩) (gcell_lt c3)).trans c3
      have i1 : (0 : Int) ≤ (j : Int) := by omega
      have i2 : (j : Int) < (N : Int) := by omega
      have i3 : (1 : Int) ≤ (m : Int) := by omega
      clear fin haf hput htk hns hok fsz hsz hQ hl1 hlast fz src1 xl1 xo1 hbd
      obtain ⟨d, op, ty, pos, aft, gd⟩ := o10
      simp only at p10
      subst p10
      go_simp
    · intro W hW
      have kD := (hW.cell (p := ⟨D, 0, none⟩) (gcell_lt cD)).trans cD
      have kC := (hW.cell (p := ⟨C, 0, none⟩) (gcell_lt cC)).trans cC
      have k3 := (hW.cell (p := ⟨bl, ol + j * 6 + 3, none⟩) (gcell_lt c3)).trans c3
      have i1 : (0 : Int) ≤ (j : Int) := by omega
      have i2 : (j : Int) < (N : Int) := by omega
      have i3 : (1 : Int) ≤ (m : Int) := by omega
      clear fin haf hput htk hns hok fsz hsz hQ hl1 hlast fz src1 xl1 xo1 hbd
      obtain ⟨d, op, ty, pos, aft, gd⟩ := o11
      simp only at p11
      subst p11
      go_simp
    · intro W hW
      have kD := (hW.cell (p := ⟨D, 0, none⟩) (gcell_lt cD)).trans cD
      have kC := (hW.cell (p := ⟨C, 0, none⟩) (gcell_lt cC)).trans cC
      have k3 := (hW.cell (p := ⟨bl, ol + j * 6 + 3, none⟩) (gcell_lt c3)).trans c3
      have i1 : (0 : Int) ≤ (j : Int) := by omega
      have i2 : (j : Int) < (N : Int) := by omega
      have i3 : (1 : Int) ≤ (m : Int) := by omega
      clear fin haf hput htk hns hok fsz hsz hQ hl1 hlast fz src1 xl1 xo1 hbd
      obtain ⟨d, op, ty, pos, aft, gd⟩ := o12
      simp only at p12
      subst p12
      by_cases hcc : cc = 1
      · simp only [hcc, if_true] at *
        go_simp
      · rw [if_neg hcc] at *
        go_simp
  have em : markIdx [0, 1, 2, 3, 5, 6, 7, 8, 9, 10, 11, 12] (Array.replicate [o0, o1, o2, o3, o4, o5, o6, o7, o8, o9, o10, o11, o12, o13].length false) = #[true, true, true, true, false, true, true, true, true, true, true, true, true, false] := by kernel_rfl
  rw [em]
  refine gtail_row eltI (iA := 4) (iB := 13) (dA := 34) (dB := 43) (dv := 42) (fuel := 0) (m := m - 1) (xs := xs1) (w0 := w) (oA := o4) (oB := o13) rfl rfl g4 g13 (fun a W => run_i0 p4 a W) p13 t4 t13 rn rA (by decide) (by rw [fsz]; decide) f42 src1 xl1 xo1 (by omega) HS ?_
  intro vA vB W hW hD
  obtain ⟨ad, c, rfl⟩ := own_form2 hD
  have q43 : ((af.put (some 34) vA).put (some 43) (.slice ad (m - 1) c)).tmps[43]? = some (.slice ad (m - 1) c) := gput_at (by rw [gput_sz, fsz]; decide)
  have q31 : ((af.put (some 34) vA).put (some 43) (.slice ad (m - 1) c)).tmps[31]? = some (.slice (some ⟨bl, ol, none⟩) N lc) := by rw [gput_ne (by decide), gput_ne (by decide)]; exact f31
  have q33 : ((af.put (some 34) vA).put (some 43) (.slice ad (m - 1) c)).tmps[33]? = some (.int .i64 (j : Int)) := by rw [gput_ne (by decide), gput_ne (by decide)]; exact f33
  have qsz : ((af.put (some 34) vA).put (some 43) (.slice ad (m - 1) c)).tmps.size = 60 := by rw [gput_sz, gput_sz, fsz]
  exact ufin_store3 rE p14 t14 p15 t15 p16 t16 q31 q33 hj q43 (by decide) (by decide) (by rw [qsz]; decide) (by rw [qsz]; decide) ((hW.cell (p := ⟨bl, ol + j * 6 + 3, none⟩) (gcell_lt c3)).trans c3) (fz W hW) (fin vA ad c W hD hW)


end Go.Proofs.Ytkgehbonijpdnaa
