/- Below's region: what is below goes behind, in whatever order the operations come. (Written by wip/tools/dreg.py.) -/
import Derived.Test.YtlphombjejgbiaaDRefP
import Derived.Test.YtlphombjejgbiaaDAlive
import Derived.Test.YtlphombjejgbiaaJQuiet
import Derived.Test.YtlphombjejgbiaaGRows
namespace Go.Proofs.Ytlphombjejgbiaa
open Go.RowKit
set_option maxRecDepth 100000

theorem eltBe : Elt 35 3 1 8 (.int .i64 0) := ⟨Try.underlying35, by kernel_rfl, rfl, by decide, by decide⟩
theorem run_b1 {o : Oper} {t : Nat} {y : Int} (hop : o.op = .buildSlice 35 1 #[(0, .tmp t)]) (a : Act) (W : World) (hx : a.tmps[t]? = some (.int .i64 y)) : (execOp a.eval o).run Try.prog W = .ok (.value (.slice (some ⟨W.heap.size, 0, none⟩) 1 1)) (W.alloc (.cells [.int .i64 y].toArray 3)) := by
  obtain ⟨d, op, ty, pos, aft, gd⟩ := o
  simp only at hop
  subst hop
  go_simp
theorem run_bc {o : Oper} {r c : Nat} (hop : o.op = .call { callee := .value (.func 11), args := #[.tmp 41, .tmp 49], argTypes := #[28, 3] }) (a : Act) (W : World) (h1 : a.tmps[41]? = some (.pointer (some ⟨r, 0, none⟩))) (h2 : a.tmps[49]? = some (.int .i64 (c : Int))) : (execOp a.eval o).run Try.prog W = .ok (.enter 11 #[.pointer (some ⟨r, 0, none⟩), .int .i64 (c : Int)]) W := by
  obtain ⟨d, op, ty, pos, aft, gd⟩ := o
  simp only at hop
  subst hop
  go_simp
theorem encL_one (T : List Nat) : ∀ y ∈ encL T, y.oneCell' = true := by
  intro y hy
  obtain ⟨x, _, rfl⟩ := List.mem_map.1 hy
  rfl
/-- the last ones wait for all before them, one behind the other -/
theorem wp_region_tail {P : Program} {id : Nat} {Q : Exit → Act → World → Prop} {a : Act} {w : World} {l1 : List Oper} (n : Nat) (S : World → Prop) (hm : P.follows .mixedOrders = true) (hok : tailOk (l1.take n) (l1.drop n) = true)
    (h : wpAnyH P .any (l1.take n).toArray (tailQ P Q (l1.drop n)) S (l1.take n).length (Array.replicate (l1.take n).length false) a w.drew) : (Code.region id l1.toArray true).wp P Q a w := by
  refine wp_region_any hm ?_
  have h1 := split_tail (l1.drop n) (l1.take n) a w.drew hok (wpAny_of_held _ _ _ _ h)
  rw [List.take_append_drop] at h1
  simpa using h1
set_option maxHeartbeats 2000000 in
theorem bel_region {id : Nat} {Q : Exit → Act → World → Prop} {a : Act} {w : World} {l1 : List Oper} {o0 o1 o2 o3 o4 o5 o6 o7 o8 o9 o10 o11 o12 o13 o14 o15 o16 o17 o18 o19 o20 o21 o22 : Oper} {w0 : World} {r g N cv i c : Nat} {V1 : Value} {T1 T2 : List Nat} (hl1 : l1.take 23 = [o0, o1, o2, o3, o4, o5, o6, o7, o8, o9, o10, o11, o12, o13, o14, o15, o16, o17, o18, o19, o20, o21, o22]) (hlast : l1.drop 23 = [])
    (hok : tailOk (l1.take 23) (l1.drop 23) = true) (hns : Region.noSelect [o0, o1, o2, o3, o4, o5, o6, o7, o8, o9, o10, o11, o12, o13, o14, o15, o16, o17, o18, o19, o20, o21, o22].toArray = true) (htk : takesOk [o0, o1, o2, o3, o4, o5, o6, o7, o8, o9, o10, o11, o12, o13, o14, o15, o16, o17, o18, o19, o20, o21, o22].toArray [0, 1, 2, 3, 4, 5, 6, 7, 8, 11, 12, 13, 14, 15, 16, 17, 18, 19] (Array.replicate 23 false) = true)
    (p0 : o0.op = .move (.tmp 5)) (p1 : o1.op = .move (.tmp 0)) (p2 : o2.op = .nilCheck (.tmp 31)) (p3 : o3.op = .fieldAddr 72 (.tmp 32) 1) (p4 : o4.op = .load 70 (.tmp 33)) (p5 : o5.op = .move (.tmp 6)) (p6 : o6.op = .indexAddr 70 (.tmp 34) (.tmp 35)) (p7 : o7.op = .fieldAddr 81 (.tmp 36) 0) (p8 : o8.op = .load 3 (.tmp 37)) (p9 : o9.op = .buildSlice 35 1 #[(0, .tmp 38)]) (p10 : o10.op = .call { callee := .builtin .append, args := #[.tmp 30, .tmp 39], argTypes := #[35, 35] }) (p11 : o11.op = .move (.tmp 0)) (p12 : o12.op = .move (.tmp 0)) (p13 : o13.op = .nilCheck (.tmp 42)) (p14 : o14.op = .fieldAddr 72 (.tmp 43) 1) (p15 : o15.op = .load 70 (.tmp 44)) (p16 : o16.op = .move (.tmp 6)) (p17 : o17.op = .indexAddr 70 (.tmp 45) (.tmp 46)) (p18 : o18.op = .fieldAddr 81 (.tmp 47) 0) (p19 : o19.op = .load 3 (.tmp 48)) (p20 : o20.op = .call { callee := .value (.func 11), args := #[.tmp 41, .tmp 49], argTypes := #[28, 3] }) (p21 : o21.op = .call { callee := .builtin .append, args := #[.tmp 40, .tmp 50], argTypes := #[35, 35] }) (p22 : o22.op = .assign (.tmp 51)) 
    (g9 : o9.guard = none) (g10 : o10.guard = none) (g20 : o20.guard = none) (g21 : o21.guard = none) (g22 : o22.guard = none)
    (t0 : o0.dst = some 30) (t1 : o1.dst = some 31) (t2 : o2.dst = some 32) (t3 : o3.dst = some 33) (t4 : o4.dst = some 34) (t5 : o5.dst = some 35) (t6 : o6.dst = some 36) (t7 : o7.dst = some 37) (t8 : o8.dst = some 38) (t9 : o9.dst = some 39) (t10 : o10.dst = some 40) (t11 : o11.dst = some 41) (t12 : o12.dst = some 42) (t13 : o13.dst = some 43) (t14 : o14.dst = some 44) (t15 : o15.dst = some 45) (t16 : o16.dst = some 46) (t17 : o17.dst = some 47) (t18 : o18.dst = some 48) (t19 : o19.dst = some 49) (t20 : o20.dst = some 50) (t21 : o21.dst = some 51) (t22 : o22.dst = some 5) 
    (hsz : a.tmps.size = 53)
    (h0 : a.tmps[0]? = some (.pointer (some ⟨r, 0, none⟩))) (h5 : a.tmps[5]? = some V1) (h6 : a.tmps[6]? = some (.int .i64 (i : Int))) (hi : i < N) (c1 : w0.cell? ⟨r, 1, none⟩ = some (.slice (some ⟨g, 0, none⟩) N cv)) (cy : w0.cell? ⟨g, i * 2, none⟩ = some (.int .i64 (c : Int)))
    (ow1 : w.ownsRow w0.heap.size 3 1 V1 T1.length (encL T1)) (hbd : T1.length + 1 + T2.length ≤ 100000) (hbw : Below w0.heap.size w0 w)
    (hcall : ∀ W, Below w0.heap.size w0 W → Calls Try.prog 11 #[.pointer (some ⟨r, 0, none⟩), .int .i64 (c : Int)] W fun e w' => ∃ v, e = .returned v ∧ w'.ownsRow W.heap.size 3 1 v T2.length (encL T2) ∧ Below W.heap.size W w')
    (r0 : Region.ready .any [o0, o1, o2, o3, o4, o5, o6, o7, o8, o9, o10, o11, o12, o13, o14, o15, o16, o17, o18, o19, o20, o21, o22].toArray (#[true, true, true, true, true, true, true, true, true, false, false, true, true, true, true, true, true, true, true, true, false, false, false] : Array Bool) = [9]) (r1 : Region.ready .any [o0, o1, o2, o3, o4, o5, o6, o7, o8, o9, o10, o11, o12, o13, o14, o15, o16, o17, o18, o19, o20, o21, o22].toArray ((#[true, true, true, true, true, true, true, true, true, false, false, true, true, true, true, true, true, true, true, true, false, false, false] : Array Bool).setIfInBounds 9 true) = [10]) (r2 : Region.ready .any [o0, o1, o2, o3, o4, o5, o6, o7, o8, o9, o10, o11, o12, o13, o14, o15, o16, o17, o18, o19, o20, o21, o22].toArray (((#[true, true, true, true, true, true, true, true, true, false, false, true, true, true, true, true, true, true, true, true, false, false, false] : Array Bool).setIfInBounds 9 true).setIfInBounds 10 true) = [20]) (r3 : Region.ready .any [o0, o1, o2, o3, o4, o5, o6, o7, o8, o9, o10, o11, o12, o13, o14, o15, o16, o17, o18, o19, o20, o21, o22].toArray ((((#[true, true, true, true, true, true, true, true, true, false, false, true, true, true, true, true, true, true, true, true, false, false, false] : Array Bool).setIfInBounds 9 true).setIfInBounds 10 true).setIfInBounds 20 true) = [21]) (r4 : Region.ready .any [o0, o1, o2, o3, o4, o5, o6, o7, o8, o9, o10, o11, o12, o13, o14, o15, o16, o17, o18, o19, o20, o21, o22].toArray (((((#[true, true, true, true, true, true, true, true, true, false, false, true, true, true, true, true, true, true, true, true, false, false, false] : Array Bool).setIfInBounds 9 true).setIfInBounds 10 true).setIfInBounds 20 true).setIfInBounds 21 true) = [22]) (r5 : Region.ready .any [o0, o1, o2, o3, o4, o5, o6, o7, o8, o9, o10, o11, o12, o13, o14, o15, o16, o17, o18, o19, o20, o21, o22].toArray ((((((#[true, true, true, true, true, true, true, true, true, false, false, true, true, true, true, true, true, true, true, true, false, false, false] : Array Bool).setIfInBounds 9 true).setIfInBounds 10 true).setIfInBounds 20 true).setIfInBounds 21 true).setIfInBounds 22 true) = [])
    (hQ : ∀ c a d v w, Q (.panic c) (Act.put a d v) w → Q (.panic c) a w)
    (fin : ∀ vA vB vC vD W', W'.ownsRow w0.heap.size 3 1 vD (T1.length + 1 + T2.length) (encL (T1 ++ c :: T2)) → Below w0.heap.size w0 W' → Q .normal ((((((((((((((((((((((((a.put (some 30) (V1)).put (some 31) (.pointer (some ⟨r, 0, none⟩))).put (some 32) (.pointer (some ⟨r, 0, none⟩))).put (some 33) (.pointer (some ⟨r, 1, none⟩))).put (some 34) (.slice (some ⟨g, 0, none⟩) N cv)).put (some 35) (.int .i64 (i : Int))).put (some 36) (.pointer (some ⟨g, i * 2, none⟩))).put (some 37) (.pointer (some ⟨g, i * 2, none⟩))).put (some 38) (.int .i64 (c : Int))).put (some 41) (.pointer (some ⟨r, 0, none⟩))).put (some 42) (.pointer (some ⟨r, 0, none⟩))).put (some 43) (.pointer (some ⟨r, 0, none⟩))).put (some 44) (.pointer (some ⟨r, 1, none⟩))).put (some 45) (.slice (some ⟨g, 0, none⟩) N cv)).put (some 46) (.int .i64 (i : Int))).put (some 47) (.pointer (some ⟨g, i * 2, none⟩))).put (some 48) (.pointer (some ⟨g, i * 2, none⟩))).put (some 49) (.int .i64 (c : Int))).put (some 39) vA).put (some 40) vB).put (some 50) vC).put (some 51) vD)).put (some 5) vD) W') :
    (Code.region id l1.toArray true).wp Try.prog Q a w := by
  obtain ⟨af, haf⟩ : ∃ af, af = ((((((((((((((((((a.put (some 30) (V1)).put (some 31) (.pointer (some ⟨r, 0, none⟩))).put (some 32) (.pointer (some ⟨r, 0, none⟩))).put (some 33) (.pointer (some ⟨r, 1, none⟩))).put (some 34) (.slice (some ⟨g, 0, none⟩) N cv)).put (some 35) (.int .i64 (i : Int))).put (some 36) (.pointer (some ⟨g, i * 2, none⟩))).put (some 37) (.pointer (some ⟨g, i * 2, none⟩))).put (some 38) (.int .i64 (c : Int))).put (some 41) (.pointer (some ⟨r, 0, none⟩))).put (some 42) (.pointer (some ⟨r, 0, none⟩))).put (some 43) (.pointer (some ⟨r, 0, none⟩))).put (some 44) (.pointer (some ⟨r, 1, none⟩))).put (some 45) (.slice (some ⟨g, 0, none⟩) N cv)).put (some 46) (.int .i64 (i : Int))).put (some 47) (.pointer (some ⟨g, i * 2, none⟩))).put (some 48) (.pointer (some ⟨g, i * 2, none⟩))).put (some 49) (.int .i64 (c : Int))) := ⟨_, rfl⟩
  rw [← haf] at fin
  have fsz : af.tmps.size = 53 := by rw [haf]; simp only [gput_sz]; exact hsz
  have f5 : af.tmps[5]? = some (V1) := by rw [haf]; rw [gput_ne (by decide), gput_ne (by decide), gput_ne (by decide), gput_ne (by decide), gput_ne (by decide), gput_ne (by decide), gput_ne (by decide), gput_ne (by decide), gput_ne (by decide), gput_ne (by decide), gput_ne (by decide), gput_ne (by decide), gput_ne (by decide), gput_ne (by decide), gput_ne (by decide), gput_ne (by decide), gput_ne (by decide), gput_ne (by decide)]; exact h5
  have f6 : af.tmps[6]? = some (.int .i64 (i : Int)) := by rw [haf]; rw [gput_ne (by decide), gput_ne (by decide), gput_ne (by decide), gput_ne (by decide), gput_ne (by decide), gput_ne (by decide), gput_ne (by decide), gput_ne (by decide), gput_ne (by decide), gput_ne (by decide), gput_ne (by decide), gput_ne (by decide), gput_ne (by decide), gput_ne (by decide), gput_ne (by decide), gput_ne (by decide), gput_ne (by decide), gput_ne (by decide)]; exact h6
  have f0 : af.tmps[0]? = some (.pointer (some ⟨r, 0, none⟩)) := by rw [haf]; rw [gput_ne (by decide), gput_ne (by decide), gput_ne (by decide), gput_ne (by decide), gput_ne (by decide), gput_ne (by decide), gput_ne (by decide), gput_ne (by decide), gput_ne (by decide), gput_ne (by decide), gput_ne (by decide), gput_ne (by decide), gput_ne (by decide), gput_ne (by decide), gput_ne (by decide), gput_ne (by decide), gput_ne (by decide), gput_ne (by decide)]; exact h0
  have f30 : af.tmps[30]? = some (V1) := by rw [haf]; rw [gput_ne (by decide), gput_ne (by decide), gput_ne (by decide), gput_ne (by decide), gput_ne (by decide), gput_ne (by decide), gput_ne (by decide), gput_ne (by decide), gput_ne (by decide), gput_ne (by decide), gput_ne (by decide), gput_ne (by decide), gput_ne (by decide), gput_ne (by decide), gput_ne (by decide), gput_ne (by decide), gput_ne (by decide), gput_at (by first | (rw [hsz]; decide) | (simp only [gput_sz]; rw [hsz]; decide))]
  have f31 : af.tmps[31]? = some (.pointer (some ⟨r, 0, none⟩)) := by rw [haf]; rw [gput_ne (by decide), gput_ne (by decide), gput_ne (by decide), gput_ne (by decide), gput_ne (by decide), gput_ne (by decide), gput_ne (by decide), gput_ne (by decide), gput_ne (by decide), gput_ne (by decide), gput_ne (by decide), gput_ne (by decide), gput_ne (by decide), gput_ne (by decide), gput_ne (by decide), gput_ne (by decide), gput_at (by first | (rw [hsz]; decide) | (simp only [gput_sz]; rw [hsz]; decide))]
  have f32 : af.tmps[32]? = some (.pointer (some ⟨r, 0, none⟩)) := by rw [haf]; rw [gput_ne (by decide), gput_ne (by decide), gput_ne (by decide), gput_ne (by decide), gput_ne (by decide), gput_ne (by decide), gput_ne (by decide), gput_ne (by decide), gput_ne (by decide), gput_ne (by decide), gput_ne (by decide), gput_ne (by decide), gput_ne (by decide), gput_ne (by decide), gput_ne (by decide), gput_at (by first | (rw [hsz]; decide) | (simp only [gput_sz]; rw [hsz]; decide))]
  have f33 : af.tmps[33]? = some (.pointer (some ⟨r, 1, none⟩)) := by rw [haf]; rw [gput_ne (by decide), gput_ne (by decide), gput_ne (by decide), gput_ne (by decide), gput_ne (by decide), gput_ne (by decide), gput_ne (by decide), gput_ne (by decide), gput_ne (by decide), gput_ne (by decide), gput_ne (by decide), gput_ne (by decide), gput_ne (by decide), gput_ne (by decide), gput_at (by first | (rw [hsz]; decide) | (simp only [gput_sz]; rw [hsz]; decide))]
  have f34 : af.tmps[34]? = some (.slice (some ⟨g, 0, none⟩) N cv) := by rw [haf]; rw [gput_ne (by decide), gput_ne (by decide), gput_ne (by decide), gput_ne (by decide), gput_ne (by decide), gput_ne (by decide), gput_ne (by decide), gput_ne (by decide), gput_ne (by decide), gput_ne (by decide), gput_ne (by decide), gput_ne (by decide), gput_ne (by decide), gput_at (by first | (rw [hsz]; decide) | (simp only [gput_sz]; rw [hsz]; decide))]
  have f35 : af.tmps[35]? = some (.int .i64 (i : Int)) := by rw [haf]; rw [gput_ne (by decide), gput_ne (by decide), gput_ne (by decide), gput_ne (by decide), gput_ne (by decide), gput_ne (by decide), gput_ne (by decide), gput_ne (by decide), gput_ne (by decide), gput_ne (by decide), gput_ne (by decide), gput_ne (by decide), gput_at (by first | (rw [hsz]; decide) | (simp only [gput_sz]; rw [hsz]; decide))]
  have f36 : af.tmps[36]? = some (.pointer (some ⟨g, i * 2, none⟩)) := by rw [haf]; rw [gput_ne (by decide), gput_ne (by decide), gput_ne (by decide), gput_ne (by decide), gput_ne (by decide), gput_ne (by decide), gput_ne (by decide), gput_ne (by decide), gput_ne (by decide), gput_ne (by decide), gput_ne (by decide), gput_at (by first | (rw [hsz]; decide) | (simp only [gput_sz]; rw [hsz]; decide))]
  have f37 : af.tmps[37]? = some (.pointer (some ⟨g, i * 2, none⟩)) := by rw [haf]; rw [gput_ne (by decide), gput_ne (by decide), gput_ne (by decide), gput_ne (by decide), gput_ne (by decide), gput_ne (by decide), gput_ne (by decide), gput_ne (by decide), gput_ne (by decide), gput_ne (by decide), gput_at (by first | (rw [hsz]; decide) | (simp only [gput_sz]; rw [hsz]; decide))]
  have f38 : af.tmps[38]? = some (.int .i64 (c : Int)) := by rw [haf]; rw [gput_ne (by decide), gput_ne (by decide), gput_ne (by decide), gput_ne (by decide), gput_ne (by decide), gput_ne (by decide), gput_ne (by decide), gput_ne (by decide), gput_ne (by decide), gput_at (by first | (rw [hsz]; decide) | (simp only [gput_sz]; rw [hsz]; decide))]
  have f41 : af.tmps[41]? = some (.pointer (some ⟨r, 0, none⟩)) := by rw [haf]; rw [gput_ne (by decide), gput_ne (by decide), gput_ne (by decide), gput_ne (by decide), gput_ne (by decide), gput_ne (by decide), gput_ne (by decide), gput_ne (by decide), gput_at (by first | (rw [hsz]; decide) | (simp only [gput_sz]; rw [hsz]; decide))]
  have f42 : af.tmps[42]? = some (.pointer (some ⟨r, 0, none⟩)) := by rw [haf]; rw [gput_ne (by decide), gput_ne (by decide), gput_ne (by decide), gput_ne (by decide), gput_ne (by decide), gput_ne (by decide), gput_ne (by decide), gput_at (by first | (rw [hsz]; decide) | (simp only [gput_sz]; rw [hsz]; decide))]
  have f43 : af.tmps[43]? = some (.pointer (some ⟨r, 0, none⟩)) := by rw [haf]; rw [gput_ne (by decide), gput_ne (by decide), gput_ne (by decide), gput_ne (by decide), gput_ne (by decide), gput_ne (by decide), gput_at (by first | (rw [hsz]; decide) | (simp only [gput_sz]; rw [hsz]; decide))]
  have f44 : af.tmps[44]? = some (.pointer (some ⟨r, 1, none⟩)) := by rw [haf]; rw [gput_ne (by decide), gput_ne (by decide), gput_ne (by decide), gput_ne (by decide), gput_ne (by decide), gput_at (by first | (rw [hsz]; decide) | (simp only [gput_sz]; rw [hsz]; decide))]
  have f45 : af.tmps[45]? = some (.slice (some ⟨g, 0, none⟩) N cv) := by rw [haf]; rw [gput_ne (by decide), gput_ne (by decide), gput_ne (by decide), gput_ne (by decide), gput_at (by first | (rw [hsz]; decide) | (simp only [gput_sz]; rw [hsz]; decide))]
  have f46 : af.tmps[46]? = some (.int .i64 (i : Int)) := by rw [haf]; rw [gput_ne (by decide), gput_ne (by decide), gput_ne (by decide), gput_at (by first | (rw [hsz]; decide) | (simp only [gput_sz]; rw [hsz]; decide))]
  have f47 : af.tmps[47]? = some (.pointer (some ⟨g, i * 2, none⟩)) := by rw [haf]; rw [gput_ne (by decide), gput_ne (by decide), gput_at (by first | (rw [hsz]; decide) | (simp only [gput_sz]; rw [hsz]; decide))]
  have f48 : af.tmps[48]? = some (.pointer (some ⟨g, i * 2, none⟩)) := by rw [haf]; rw [gput_ne (by decide), gput_at (by first | (rw [hsz]; decide) | (simp only [gput_sz]; rw [hsz]; decide))]
  have f49 : af.tmps[49]? = some (.int .i64 (c : Int)) := by rw [haf]; rw [gput_at (by first | (rw [hsz]; decide) | (simp only [gput_sz]; rw [hsz]; decide))]
  have HS : Below w0.heap.size w0 w.drew := hbw.drew
  refine wp_region_tail 23 (fun W => Below w0.heap.size w0 W) (by kernel_rfl) hok ?_
  rw [hl1, hlast]
  have hput : putIdx af [o0, o1, o2, o3, o4, o5, o6, o7, o8, o9, o10, o11, o12, o13, o14, o15, o16, o17, o18, o19, o20, o21, o22].toArray [0, 1, 2, 3, 4, 5, 6, 7, 8, 11, 12, 13, 14, 15, 16, 17, 18, 19] a = af := by
    have e : putIdx af [o0, o1, o2, o3, o4, o5, o6, o7, o8, o9, o10, o11, o12, o13, o14, o15, o16, o17, o18, o19, o20, o21, o22].toArray [0, 1, 2, 3, 4, 5, 6, 7, 8, 11, 12, 13, 14, 15, 16, 17, 18, 19] a = ((((((((((((((((((a.put (some 30) (V1)).put (some 31) (.pointer (some ⟨r, 0, none⟩))).put (some 32) (.pointer (some ⟨r, 0, none⟩))).put (some 33) (.pointer (some ⟨r, 1, none⟩))).put (some 34) (.slice (some ⟨g, 0, none⟩) N cv)).put (some 35) (.int .i64 (i : Int))).put (some 36) (.pointer (some ⟨g, i * 2, none⟩))).put (some 37) (.pointer (some ⟨g, i * 2, none⟩))).put (some 38) (.int .i64 (c : Int))).put (some 41) (.pointer (some ⟨r, 0, none⟩))).put (some 42) (.pointer (some ⟨r, 0, none⟩))).put (some 43) (.pointer (some ⟨r, 0, none⟩))).put (some 44) (.pointer (some ⟨r, 1, none⟩))).put (some 45) (.slice (some ⟨g, 0, none⟩) N cv)).put (some 46) (.int .i64 (i : Int))).put (some 47) (.pointer (some ⟨g, i * 2, none⟩))).put (some 48) (.pointer (some ⟨g, i * 2, none⟩))).put (some 49) (.int .i64 (c : Int))) := by
      simp only [putIdx, List.getElem?_toArray, List.getElem?_cons_succ, List.getElem?_cons_zero, Option.bind_some, t0, t1, t2, t3, t4, t5, t6, t7, t8, t11, t12, t13, t14, t15, t16, t17, t18, t19, ggetD f30, ggetD f31, ggetD f32, ggetD f33, ggetD f34, ggetD f35, ggetD f36, ggetD f37, ggetD f38, ggetD f41, ggetD f42, ggetD f43, ggetD f44, ggetD f45, ggetD f46, ggetD f47, ggetD f48, ggetD f49]
    rw [e, haf]
  refine takes (P := Try.prog) (Q := tailQ Try.prog Q []) (S := fun W => Below w0.heap.size w0 W) (idx := [0, 1, 2, 3, 4, 5, 6, 7, 8, 11, 12, 13, 14, 15, 16, 17, 18, 19]) (af := af) (fuel := 5) hns (fun c a d v w h => hQ c a d v w h) HS _ _ htk hput ?_ ?_
  · refine ⟨⟨o0, 30, _, rfl, t0, f30, ?_⟩, ⟨o1, 31, _, rfl, t1, f31, ?_⟩, ⟨o2, 32, _, rfl, t2, f32, ?_⟩, ⟨o3, 33, _, rfl, t3, f33, ?_⟩, ⟨o4, 34, _, rfl, t4, f34, ?_⟩, ⟨o5, 35, _, rfl, t5, f35, ?_⟩, ⟨o6, 36, _, rfl, t6, f36, ?_⟩, ⟨o7, 37, _, rfl, t7, f37, ?_⟩, ⟨o8, 38, _, rfl, t8, f38, ?_⟩, ⟨o11, 41, _, rfl, t11, f41, ?_⟩, ⟨o12, 42, _, rfl, t12, f42, ?_⟩, ⟨o13, 43, _, rfl, t13, f43, ?_⟩, ⟨o14, 44, _, rfl, t14, f44, ?_⟩, ⟨o15, 45, _, rfl, t15, f45, ?_⟩, ⟨o16, 46, _, rfl, t16, f46, ?_⟩, ⟨o17, 47, _, rfl, t17, f47, ?_⟩, ⟨o18, 48, _, rfl, t18, f48, ?_⟩, ⟨o19, 49, _, rfl, t19, f49, ?_⟩, trivial⟩
    · intro W hW
      have i3 : (0 : Int) ≤ (i : Int) := by omega
      have i4 : (i : Int) < (N : Int) := by omega
      have k1 := (hW.cell (p := ⟨r, 1, none⟩) (gcell_lt c1)).trans c1
      have kF := (hW.cell (p := ⟨g, i * 2, none⟩) (gcell_lt cy)).trans cy
      clear fin haf hput htk hns hok fsz hsz hQ r0 r1 r2 r3 r4 r5 h5 h6 h0 c1 cy HS ow1 hbw hcall
      obtain ⟨d, op, ty, pos, aft, gd⟩ := o0
      simp only at p0
      subst p0
      go_simp
    · intro W hW
      have i3 : (0 : Int) ≤ (i : Int) := by omega
      have i4 : (i : Int) < (N : Int) := by omega
      have k1 := (hW.cell (p := ⟨r, 1, none⟩) (gcell_lt c1)).trans c1
      have kF := (hW.cell (p := ⟨g, i * 2, none⟩) (gcell_lt cy)).trans cy
      clear fin haf hput htk hns hok fsz hsz hQ r0 r1 r2 r3 r4 r5 h5 h6 h0 c1 cy HS ow1 hbw hcall
      obtain ⟨d, op, ty, pos, aft, gd⟩ := o1
      simp only at p1
      subst p1
      go_simp
    · intro W hW
      have i3 : (0 : Int) ≤ (i : Int) := by omega
      have i4 : (i : Int) < (N : Int) := by omega
      have k1 := (hW.cell (p := ⟨r, 1, none⟩) (gcell_lt c1)).trans c1
      have kF := (hW.cell (p := ⟨g, i * 2, none⟩) (gcell_lt cy)).trans cy
      clear fin haf hput htk hns hok fsz hsz hQ r0 r1 r2 r3 r4 r5 h5 h6 h0 c1 cy HS ow1 hbw hcall
      obtain ⟨d, op, ty, pos, aft, gd⟩ := o2
      simp only at p2
      subst p2
      go_simp
    · intro W hW
      have i3 : (0 : Int) ≤ (i : Int) := by omega
      have i4 : (i : Int) < (N : Int) := by omega
      have k1 := (hW.cell (p := ⟨r, 1, none⟩) (gcell_lt c1)).trans c1
      have kF := (hW.cell (p := ⟨g, i * 2, none⟩) (gcell_lt cy)).trans cy
      clear fin haf hput htk hns hok fsz hsz hQ r0 r1 r2 r3 r4 r5 h5 h6 h0 c1 cy HS ow1 hbw hcall
      obtain ⟨d, op, ty, pos, aft, gd⟩ := o3
      simp only at p3
      subst p3
      go_simp
    · intro W hW
      have i3 : (0 : Int) ≤ (i : Int) := by omega
      have i4 : (i : Int) < (N : Int) := by omega
      have k1 := (hW.cell (p := ⟨r, 1, none⟩) (gcell_lt c1)).trans c1
      have kF := (hW.cell (p := ⟨g, i * 2, none⟩) (gcell_lt cy)).trans cy
      clear fin haf hput htk hns hok fsz hsz hQ r0 r1 r2 r3 r4 r5 h5 h6 h0 c1 cy HS ow1 hbw hcall
      obtain ⟨d, op, ty, pos, aft, gd⟩ := o4
      simp only at p4
      subst p4
      go_simp
    · intro W hW
      have i3 : (0 : Int) ≤ (i : Int) := by omega
      have i4 : (i : Int) < (N : Int) := by omega
      have k1 := (hW.cell (p := ⟨r, 1, none⟩) (gcell_lt c1)).trans c1
      have kF := (hW.cell (p := ⟨g, i * 2, none⟩) (gcell_lt cy)).trans cy
      clear fin haf hput htk hns hok fsz hsz hQ r0 r1 r2 r3 r4 r5 h5 h6 h0 c1 cy HS ow1 hbw hcall
      obtain ⟨d, op, ty, pos, aft, gd⟩ := o5
      simp only at p5
      subst p5
      go_simp
    · intro W hW
      have i3 : (0 : Int) ≤ (i : Int) := by omega
      have i4 : (i : Int) < (N : Int) := by omega
      have k1 := (hW.cell (p := ⟨r, 1, none⟩) (gcell_lt c1)).trans c1
      have kF := (hW.cell (p := ⟨g, i * 2, none⟩) (gcell_lt cy)).trans cy
      clear fin haf hput htk hns hok fsz hsz hQ r0 r1 r2 r3 r4 r5 h5 h6 h0 c1 cy HS ow1 hbw hcall
      obtain ⟨d, op, ty, pos, aft, gd⟩ := o6
      simp only at p6
      subst p6
      go_simp
    · intro W hW
      have i3 : (0 : Int) ≤ (i : Int) := by omega
      have i4 : (i : Int) < (N : Int) := by omega
      have k1 := (hW.cell (p := ⟨r, 1, none⟩) (gcell_lt c1)).trans c1
      have kF := (hW.cell (p := ⟨g, i * 2, none⟩) (gcell_lt cy)).trans cy
      clear fin haf hput htk hns hok fsz hsz hQ r0 r1 r2 r3 r4 r5 h5 h6 h0 c1 cy HS ow1 hbw hcall
      obtain ⟨d, op, ty, pos, aft, gd⟩ := o7
      simp only at p7
      subst p7
      go_simp
    · intro W hW
      have i3 : (0 : Int) ≤ (i : Int) := by omega
      have i4 : (i : Int) < (N : Int) := by omega
      have k1 := (hW.cell (p := ⟨r, 1, none⟩) (gcell_lt c1)).trans c1
      have kF := (hW.cell (p := ⟨g, i * 2, none⟩) (gcell_lt cy)).trans cy
      clear fin haf hput htk hns hok fsz hsz hQ r0 r1 r2 r3 r4 r5 h5 h6 h0 c1 cy HS ow1 hbw hcall
      obtain ⟨d, op, ty, pos, aft, gd⟩ := o8
      simp only at p8
      subst p8
      go_simp
    · intro W hW
      have i3 : (0 : Int) ≤ (i : Int) := by omega
      have i4 : (i : Int) < (N : Int) := by omega
      have k1 := (hW.cell (p := ⟨r, 1, none⟩) (gcell_lt c1)).trans c1
      have kF := (hW.cell (p := ⟨g, i * 2, none⟩) (gcell_lt cy)).trans cy
      clear fin haf hput htk hns hok fsz hsz hQ r0 r1 r2 r3 r4 r5 h5 h6 h0 c1 cy HS ow1 hbw hcall
      obtain ⟨d, op, ty, pos, aft, gd⟩ := o11
      simp only at p11
      subst p11
      go_simp
    · intro W hW
      have i3 : (0 : Int) ≤ (i : Int) := by omega
      have i4 : (i : Int) < (N : Int) := by omega
      have k1 := (hW.cell (p := ⟨r, 1, none⟩) (gcell_lt c1)).trans c1
      have kF := (hW.cell (p := ⟨g, i * 2, none⟩) (gcell_lt cy)).trans cy
      clear fin haf hput htk hns hok fsz hsz hQ r0 r1 r2 r3 r4 r5 h5 h6 h0 c1 cy HS ow1 hbw hcall
      obtain ⟨d, op, ty, pos, aft, gd⟩ := o12
      simp only at p12
      subst p12
      go_simp
    · intro W hW
      have i3 : (0 : Int) ≤ (i : Int) := by omega
      have i4 : (i : Int) < (N : Int) := by omega
      have k1 := (hW.cell (p := ⟨r, 1, none⟩) (gcell_lt c1)).trans c1
      have kF := (hW.cell (p := ⟨g, i * 2, none⟩) (gcell_lt cy)).trans cy
      clear fin haf hput htk hns hok fsz hsz hQ r0 r1 r2 r3 r4 r5 h5 h6 h0 c1 cy HS ow1 hbw hcall
      obtain ⟨d, op, ty, pos, aft, gd⟩ := o13
      simp only at p13
      subst p13
      go_simp
    · intro W hW
      have i3 : (0 : Int) ≤ (i : Int) := by omega
      have i4 : (i : Int) < (N : Int) := by omega
      have k1 := (hW.cell (p := ⟨r, 1, none⟩) (gcell_lt c1)).trans c1
      have kF := (hW.cell (p := ⟨g, i * 2, none⟩) (gcell_lt cy)).trans cy
      clear fin haf hput htk hns hok fsz hsz hQ r0 r1 r2 r3 r4 r5 h5 h6 h0 c1 cy HS ow1 hbw hcall
      obtain ⟨d, op, ty, pos, aft, gd⟩ := o14
      simp only at p14
      subst p14
      go_simp
    · intro W hW
      have i3 : (0 : Int) ≤ (i : Int) := by omega
      have i4 : (i : Int) < (N : Int) := by omega
      have k1 := (hW.cell (p := ⟨r, 1, none⟩) (gcell_lt c1)).trans c1
      have kF := (hW.cell (p := ⟨g, i * 2, none⟩) (gcell_lt cy)).trans cy
      clear fin haf hput htk hns hok fsz hsz hQ r0 r1 r2 r3 r4 r5 h5 h6 h0 c1 cy HS ow1 hbw hcall
      obtain ⟨d, op, ty, pos, aft, gd⟩ := o15
      simp only at p15
      subst p15
      go_simp
    · intro W hW
      have i3 : (0 : Int) ≤ (i : Int) := by omega
      have i4 : (i : Int) < (N : Int) := by omega
      have k1 := (hW.cell (p := ⟨r, 1, none⟩) (gcell_lt c1)).trans c1
      have kF := (hW.cell (p := ⟨g, i * 2, none⟩) (gcell_lt cy)).trans cy
      clear fin haf hput htk hns hok fsz hsz hQ r0 r1 r2 r3 r4 r5 h5 h6 h0 c1 cy HS ow1 hbw hcall
      obtain ⟨d, op, ty, pos, aft, gd⟩ := o16
      simp only at p16
      subst p16
      go_simp
    · intro W hW
      have i3 : (0 : Int) ≤ (i : Int) := by omega
      have i4 : (i : Int) < (N : Int) := by omega
      have k1 := (hW.cell (p := ⟨r, 1, none⟩) (gcell_lt c1)).trans c1
      have kF := (hW.cell (p := ⟨g, i * 2, none⟩) (gcell_lt cy)).trans cy
      clear fin haf hput htk hns hok fsz hsz hQ r0 r1 r2 r3 r4 r5 h5 h6 h0 c1 cy HS ow1 hbw hcall
      obtain ⟨d, op, ty, pos, aft, gd⟩ := o17
      simp only at p17
      subst p17
      go_simp
    · intro W hW
      have i3 : (0 : Int) ≤ (i : Int) := by omega
      have i4 : (i : Int) < (N : Int) := by omega
      have k1 := (hW.cell (p := ⟨r, 1, none⟩) (gcell_lt c1)).trans c1
      have kF := (hW.cell (p := ⟨g, i * 2, none⟩) (gcell_lt cy)).trans cy
      clear fin haf hput htk hns hok fsz hsz hQ r0 r1 r2 r3 r4 r5 h5 h6 h0 c1 cy HS ow1 hbw hcall
      obtain ⟨d, op, ty, pos, aft, gd⟩ := o18
      simp only at p18
      subst p18
      go_simp
    · intro W hW
      have i3 : (0 : Int) ≤ (i : Int) := by omega
      have i4 : (i : Int) < (N : Int) := by omega
      have k1 := (hW.cell (p := ⟨r, 1, none⟩) (gcell_lt c1)).trans c1
      have kF := (hW.cell (p := ⟨g, i * 2, none⟩) (gcell_lt cy)).trans cy
      clear fin haf hput htk hns hok fsz hsz hQ r0 r1 r2 r3 r4 r5 h5 h6 h0 c1 cy HS ow1 hbw hcall
      obtain ⟨d, op, ty, pos, aft, gd⟩ := o19
      simp only at p19
      subst p19
      go_simp
  have em : markIdx [0, 1, 2, 3, 4, 5, 6, 7, 8, 11, 12, 13, 14, 15, 16, 17, 18, 19] (Array.replicate [o0, o1, o2, o3, o4, o5, o6, o7, o8, o9, o10, o11, o12, o13, o14, o15, o16, o17, o18, o19, o20, o21, o22].length false) = #[true, true, true, true, true, true, true, true, true, false, false, true, true, true, true, true, true, true, true, true, false, false, false] := by kernel_rfl
  rw [em]
  -- the slice of one
  refine wpAnyH_ready r0 (by simp) (AllReadyH.cons (o := o9) rfl (fun K hK => ?_) AllReadyH.nil)
  refine gstep_run g9 (run_b1 p9 af w.drew f38) ?_
  have hA : Below w0.heap.size w0 (w.drew.alloc (.cells [.int .i64 (c : Int)].toArray 3)) := HS.alloc HS.size _
  refine hK.out _ _ hA fun _ => ?_
  rw [t9]
  have own1 : (w.drew.alloc (.cells [.int .i64 (c : Int)].toArray 3)).ownsRow w0.heap.size 3 1 V1 T1.length (encL T1) := down_stay (down_stay ow1 (Below.refl _ _).drew) ((Below.refl _ _).alloc (Nat.le_refl _) _)
  have src1 : Src (w.drew.alloc (.cells [.int .i64 (c : Int)].toArray 3)) (.slice (some ⟨w.drew.heap.size, 0, none⟩) 1 1) 1 [.int .i64 (c : Int)] := gsrc_own (gown_1 w.drew 0 3 1 [.int .i64 (c : Int)] rfl (Nat.zero_le _))
  generalize Value.slice (some ⟨w.drew.heap.size, 0, none⟩) 1 1 = vA at *
  generalize w.drew.alloc (.cells [.int .i64 (c : Int)].toArray 3) = W1 at *
  have x30 : (af.put (some 39) vA).tmps[30]? = some V1 := by rw [gput_ne (by decide)]; exact f30
  have x39 : (af.put (some 39) vA).tmps[39]? = some vA := gput_at (by rw [fsz]; decide)
  have x41 : (af.put (some 39) vA).tmps[41]? = some (.pointer (some ⟨r, 0, none⟩)) := by rw [gput_ne (by decide)]; exact f41
  have x49 : (af.put (some 39) vA).tmps[49]? = some (.int .i64 (c : Int)) := by rw [gput_ne (by decide)]; exact f49
  have xsz : (af.put (some 39) vA).tmps.size = 53 := by rw [gput_sz, fsz]
  have fin1 := fin vA
  generalize af.put (some 39) vA = b1 at *
  -- one more
  refine wpAnyH_ready r1 (by simp) (AllReadyH.cons (o := o10) rfl (fun K hK => ?_) AllReadyH.nil)
  refine gstep_append eltBe g10 (.tmp 30) (.tmp 39) p10 w0.heap.size V1 vA T1.length 1 (encL T1) [.int .i64 (c : Int)] (geval x30) (geval x39) own1 src1 rfl (by simp [Value.oneCell']) (by omega) hA.size fun vB W2 ow2 gr2 => ?_
  have hB := gown_below hA hA.size own1 gr2
  refine hK.out _ _ hB fun _ => ?_
  rw [t10]
  have y40 : (b1.put (some 40) vB).tmps[40]? = some vB := gput_at (by rw [xsz]; decide)
  have y41 : (b1.put (some 40) vB).tmps[41]? = some (.pointer (some ⟨r, 0, none⟩)) := by rw [gput_ne (by decide)]; exact x41
  have y49 : (b1.put (some 40) vB).tmps[49]? = some (.int .i64 (c : Int)) := by rw [gput_ne (by decide)]; exact x49
  have ysz : (b1.put (some 40) vB).tmps.size = 53 := by rw [gput_sz, xsz]
  have fin2 := fin1 vB
  generalize b1.put (some 40) vB = b2 at *
  -- what is below
  refine wpAnyH_ready r2 (by simp) (AllReadyH.cons (o := o20) rfl (fun K hK => ?_) AllReadyH.nil)
  rw [if_pos (by simp [Region.wanted, g20])]
  unfold Oper.wp
  rw [run_bc p20 b2 W2 y41 y49, Oper.upon_enter]
  refine (hcall W2 hB).mono ?_
  rintro e W3 ⟨vC, rfl, ow3, hC0⟩
  have hC : Below w0.heap.size w0 W3 := Below.onto hB hC0
  have ow2' := down_stay ow2 hC0
  have sr3 : Src W3 vC T2.length (encL T2) := gsrc_own ow3
  refine hK.out _ _ hC fun _ => ?_
  rw [t20]
  have z40 : (b2.put (some 50) vC).tmps[40]? = some vB := by rw [gput_ne (by decide)]; exact y40
  have z50 : (b2.put (some 50) vC).tmps[50]? = some vC := gput_at (by rw [ysz]; decide)
  have zsz : (b2.put (some 50) vC).tmps.size = 53 := by rw [gput_sz, ysz]
  have fin3 := fin2 vC
  generalize b2.put (some 50) vC = b3 at *
  clear hcall ow1 own1 src1 gr2 ow2 ow3 hK
  refine wpAnyH_ready r3 (by simp) (AllReadyH.cons (o := o21) rfl (fun K hK => ?_) AllReadyH.nil)
  refine gstep_append eltBe g21 (.tmp 40) (.tmp 50) p21 w0.heap.size vB vC (T1.length + 1) T2.length (encL T1 ++ [.int .i64 (c : Int)]) (encL T2) (geval z40) (geval z50) ow2' sr3 (by simp [encL]) (encL_one T2) (by omega) hC.size fun vD W4 ow4 gr4 => ?_
  have hD := gown_below hC hC.size ow2' gr4
  refine hK.out _ _ hD fun _ => ?_
  rw [t21]
  have u51 : (b3.put (some 51) vD).tmps[51]? = some vD := gput_at (by rw [zsz]; decide)
  have fin4 := fin3 vD W4 (by rw [show encL (T1 ++ c :: T2) = encL T1 ++ [.int .i64 (c : Int)] ++ encL T2 by simp [encL]]; exact ow4) hD
  generalize b3.put (some 51) vD = b4 at *
  refine wpAnyH_ready r4 (by simp) (AllReadyH.cons (o := o22) rfl (fun K hK => ?_) AllReadyH.nil)
  refine gstep_run g22 (by simp [execOp, p22, geval u51] : (execOp b4.eval o22).run Try.prog W4 = .ok (.value vD) W4) ?_
  refine hK.out _ _ hD fun _ => ?_
  rw [t22]
  refine wpAnyH_done r5 ?_ _
  refine tailQ_of _ _ _ ?_
  unfold tailWp
  exact fin4

theorem eltEn : Elt 70 81 2 16 (.agg #[.int .i64 0, .int .i64 0]) := ⟨Try.underlying70, by kernel_rfl, rfl, by decide, by decide⟩

end Go.Proofs.Ytlphombjejgbiaa
