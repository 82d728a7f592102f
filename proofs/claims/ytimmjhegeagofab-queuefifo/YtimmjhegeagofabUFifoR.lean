/- QueueFifo: credits are laid into two rows, in whatever order the operations come. -/
import Derived.Test.YtimmjhegeagofabUTwo
import Derived.Test.YtimmjhegeagofabUReg
namespace Go.Proofs.Ytimmjhegeagofab
open Go.RowKit
set_option maxRecDepth 100000

theorem eltI2 : Elt 48 3 1 8 (.int .i64 0) := ⟨Try.underlying48, by kernel_rfl, rfl, by decide, by decide⟩
theorem eltB2 : Elt 49 4 1 1 (.bool false) := ⟨Try.underlying49, by kernel_rfl, rfl, by decide, by decide⟩
theorem run_i1 {o : Oper} {t : Nat} {y : Int} (hop : o.op = .buildSlice 48 1 #[(0, .tmp t)]) (a : Act) (W : World) (hx : a.tmps[t]? = some (.int .i64 y)) : (execOp a.eval o).run Try.prog W = .ok (.value (.slice (some ⟨W.heap.size, 0, none⟩) 1 1)) (W.alloc (.cells [.int .i64 y].toArray 3)) := by
  obtain ⟨d, op, ty, pos, aft, gd⟩ := o
  simp only at hop
  subst hop
  go_simp
theorem run_b2 {o : Oper} {t : Nat} {y : Bool} (hop : o.op = .buildSlice 49 1 #[(0, .tmp t)]) (a : Act) (W : World) (hx : a.tmps[t]? = some (.bool y)) : (execOp a.eval o).run Try.prog W = .ok (.value (.slice (some ⟨W.heap.size, 0, none⟩) 1 1)) (W.alloc (.cells [.bool y].toArray 4)) := by
  obtain ⟨d, op, ty, pos, aft, gd⟩ := o
  simp only at hop
  subst hop
  go_simp
theorem vsame {w : World} {B s n : Nat} {e : TypeId} {v : Value} {xs : List Value} (h : w.ownsRow B e s v n xs) : w.drew.ownsRow B e s v n xs := h
set_option maxHeartbeats 2000000 in
theorem fifo_region {id : Nat} {Q : Exit → Act → World → Prop} {a : Act} {w : World} {l1 : List Oper} {o0 o1 o2 o3 o4 o5 o6 o7 o8 o9 o10 o11 o12 o13 o14 o15 o16 o17 o18 o19 : Oper} {w0 : World} {bc oc N cv i : Nat} {y : Int} {V1 V2 : Value} {xs1 xs2 : List Value} (hl1 : l1.take 20 = [o0, o1, o2, o3, o4, o5, o6, o7, o8, o9, o10, o11, o12, o13, o14, o15, o16, o17, o18, o19]) (hlast : l1.drop 20 = [])
    (hok : tailOk (l1.take 20) (l1.drop 20) = true) (hns : Region.noSelect [o0, o1, o2, o3, o4, o5, o6, o7, o8, o9, o10, o11, o12, o13, o14, o15, o16, o17, o18, o19].toArray = true) (htk : takesOk [o0, o1, o2, o3, o4, o5, o6, o7, o8, o9, o10, o11, o12, o13, o14, o15, o16, o17, o18, o19].toArray [0, 1, 2, 3, 4, 5, 6, 7, 10, 11, 12, 13, 14, 15] (Array.replicate 20 false) = true)
    (p0 : o0.op = .move (.tmp 5)) (p1 : o1.op = .move (.tmp 0)) (p2 : o2.op = .move (.tmp 7)) (p3 : o3.op = .indexAddr 46 (.tmp 28) (.tmp 29)) (p4 : o4.op = .load 5 (.tmp 30)) (p5 : o5.op = .convert 5 3 (.tmp 31)) (p6 : o6.op = .binOp .rem 3 (.tmp 32) (.const (.int .i64 8)) 3) (p7 : o7.op = .binOp .add 3 (.tmp 33) (.const (.int .i64 1)) 3) (p8 : o8.op = .buildSlice 48 1 #[(0, .tmp 34)]) (p9 : o9.op = .call { callee := .builtin .append, args := #[.tmp 27, .tmp 35], argTypes := #[48, 48] }) (p10 : o10.op = .move (.tmp 6)) (p11 : o11.op = .move (.tmp 0)) (p12 : o12.op = .move (.tmp 7)) (p13 : o13.op = .indexAddr 46 (.tmp 38) (.tmp 39)) (p14 : o14.op = .load 5 (.tmp 40)) (p15 : o15.op = .binOp .geq 5 (.tmp 41) (.const (.int .u8 128)) 5) (p16 : o16.op = .buildSlice 49 1 #[(0, .tmp 42)]) (p17 : o17.op = .call { callee := .builtin .append, args := #[.tmp 37, .tmp 43], argTypes := #[49, 49] }) (p18 : o18.op = .assign (.tmp 36)) (p19 : o19.op = .assign (.tmp 44)) 
    (g8 : o8.guard = none) (g9 : o9.guard = none) (g16 : o16.guard = none) (g17 : o17.guard = none) (g18 : o18.guard = none) (g19 : o19.guard = none)
    (t0 : o0.dst = some 27) (t1 : o1.dst = some 28) (t2 : o2.dst = some 29) (t3 : o3.dst = some 30) (t4 : o4.dst = some 31) (t5 : o5.dst = some 32) (t6 : o6.dst = some 33) (t7 : o7.dst = some 34) (t8 : o8.dst = some 35) (t9 : o9.dst = some 36) (t10 : o10.dst = some 37) (t11 : o11.dst = some 38) (t12 : o12.dst = some 39) (t13 : o13.dst = some 40) (t14 : o14.dst = some 41) (t15 : o15.dst = some 42) (t16 : o16.dst = some 43) (t17 : o17.dst = some 44) (t18 : o18.dst = some 5) (t19 : o19.dst = some 6) 
    (hsz : a.tmps.size = 117)
    (h5 : a.tmps[5]? = some V1) (h6 : a.tmps[6]? = some V2) (h0 : a.tmps[0]? = some (.slice (some ⟨bc, oc, none⟩) N cv)) (h7 : a.tmps[7]? = some (.int .i64 (i : Int))) (hi : i < N) (hi6 : i < 6) (cy : w0.cell? ⟨bc, oc + i, none⟩ = some (.int .u8 y)) (y0 : 0 ≤ y) (y1 : y < 256)
    (ow1 : w.ownsRow w0.heap.size 3 1 V1 i xs1) (ow2 : w.ownsRow w0.heap.size 4 1 V2 i xs2) (hbw : Below w0.heap.size w0 w)
    (r00 : Region.ready .any [o0, o1, o2, o3, o4, o5, o6, o7, o8, o9, o10, o11, o12, o13, o14, o15, o16, o17, o18, o19].toArray (#[true, true, true, true, true, true, true, true, false, false, true, true, true, true, true, true, false, false, false, false] : Array Bool) = [8, 16]) (r10 : Region.ready .any [o0, o1, o2, o3, o4, o5, o6, o7, o8, o9, o10, o11, o12, o13, o14, o15, o16, o17, o18, o19].toArray ((#[true, true, true, true, true, true, true, true, false, false, true, true, true, true, true, true, false, false, false, false] : Array Bool).setIfInBounds 8 true) = [9, 16]) (r01 : Region.ready .any [o0, o1, o2, o3, o4, o5, o6, o7, o8, o9, o10, o11, o12, o13, o14, o15, o16, o17, o18, o19].toArray ((#[true, true, true, true, true, true, true, true, false, false, true, true, true, true, true, true, false, false, false, false] : Array Bool).setIfInBounds 16 true) = [8]) (r20 : Region.ready .any [o0, o1, o2, o3, o4, o5, o6, o7, o8, o9, o10, o11, o12, o13, o14, o15, o16, o17, o18, o19].toArray (((#[true, true, true, true, true, true, true, true, false, false, true, true, true, true, true, true, false, false, false, false] : Array Bool).setIfInBounds 8 true).setIfInBounds 9 true) = [16]) (r11 : Region.ready .any [o0, o1, o2, o3, o4, o5, o6, o7, o8, o9, o10, o11, o12, o13, o14, o15, o16, o17, o18, o19].toArray (((#[true, true, true, true, true, true, true, true, false, false, true, true, true, true, true, true, false, false, false, false] : Array Bool).setIfInBounds 8 true).setIfInBounds 16 true) = [9]) (r21 : Region.ready .any [o0, o1, o2, o3, o4, o5, o6, o7, o8, o9, o10, o11, o12, o13, o14, o15, o16, o17, o18, o19].toArray ((((#[true, true, true, true, true, true, true, true, false, false, true, true, true, true, true, true, false, false, false, false] : Array Bool).setIfInBounds 8 true).setIfInBounds 9 true).setIfInBounds 16 true) = [17]) (r22 : Region.ready .any [o0, o1, o2, o3, o4, o5, o6, o7, o8, o9, o10, o11, o12, o13, o14, o15, o16, o17, o18, o19].toArray (((((#[true, true, true, true, true, true, true, true, false, false, true, true, true, true, true, true, false, false, false, false] : Array Bool).setIfInBounds 8 true).setIfInBounds 9 true).setIfInBounds 16 true).setIfInBounds 17 true) = [18]) (r3a : Region.ready .any [o0, o1, o2, o3, o4, o5, o6, o7, o8, o9, o10, o11, o12, o13, o14, o15, o16, o17, o18, o19].toArray ((((((#[true, true, true, true, true, true, true, true, false, false, true, true, true, true, true, true, false, false, false, false] : Array Bool).setIfInBounds 8 true).setIfInBounds 9 true).setIfInBounds 16 true).setIfInBounds 17 true).setIfInBounds 18 true) = [19]) (r4 : Region.ready .any [o0, o1, o2, o3, o4, o5, o6, o7, o8, o9, o10, o11, o12, o13, o14, o15, o16, o17, o18, o19].toArray (((((((#[true, true, true, true, true, true, true, true, false, false, true, true, true, true, true, true, false, false, false, false] : Array Bool).setIfInBounds 8 true).setIfInBounds 9 true).setIfInBounds 16 true).setIfInBounds 17 true).setIfInBounds 18 true).setIfInBounds 19 true) = [])
    (hQ : ∀ c a d v w, Q (.panic c) (Act.put a d v) w → Q (.panic c) a w)
    (fin : ∀ vA vB vC vD W', W'.ownsRow w0.heap.size 3 1 vB (i + 1) (xs1 ++ [.int .i64 (y % 8 + 1)]) → W'.ownsRow w0.heap.size 4 1 vD (i + 1) (xs2 ++ [.bool (decide (128 ≤ y))]) → Below w0.heap.size w0 W' → Q .normal ((((((((((((((((((((a.put (some 27) (V1)).put (some 28) (.slice (some ⟨bc, oc, none⟩) N cv)).put (some 29) (.int .i64 (i : Int))).put (some 30) (.pointer (some ⟨bc, oc + i, none⟩))).put (some 31) (.int .u8 y)).put (some 32) (.int .i64 y)).put (some 33) (.int .i64 (y % 8))).put (some 34) (.int .i64 (y % 8 + 1))).put (some 37) (V2)).put (some 38) (.slice (some ⟨bc, oc, none⟩) N cv)).put (some 39) (.int .i64 (i : Int))).put (some 40) (.pointer (some ⟨bc, oc + i, none⟩))).put (some 41) (.int .u8 y)).put (some 42) (.bool (decide (128 ≤ y)))).put (some 35) vA).put (some 36) vB).put (some 43) vC).put (some 44) vD).put (some 5) vB).put (some 6) vD) W') :
    (Code.region id l1.toArray true).wp Try.prog Q a w := by
  obtain ⟨af, haf⟩ : ∃ af, af = ((((((((((((((a.put (some 27) (V1)).put (some 28) (.slice (some ⟨bc, oc, none⟩) N cv)).put (some 29) (.int .i64 (i : Int))).put (some 30) (.pointer (some ⟨bc, oc + i, none⟩))).put (some 31) (.int .u8 y)).put (some 32) (.int .i64 y)).put (some 33) (.int .i64 (y % 8))).put (some 34) (.int .i64 (y % 8 + 1))).put (some 37) (V2)).put (some 38) (.slice (some ⟨bc, oc, none⟩) N cv)).put (some 39) (.int .i64 (i : Int))).put (some 40) (.pointer (some ⟨bc, oc + i, none⟩))).put (some 41) (.int .u8 y)).put (some 42) (.bool (decide (128 ≤ y)))) := ⟨_, rfl⟩
  rw [← haf] at fin
  have fsz : af.tmps.size = 117 := by rw [haf]; simp only [gput_sz]; exact hsz
  have f5 : af.tmps[5]? = some (V1) := by rw [haf]; rw [gput_ne (by decide), gput_ne (by decide), gput_ne (by decide), gput_ne (by decide), gput_ne (by decide), gput_ne (by decide), gput_ne (by decide), gput_ne (by decide), gput_ne (by decide), gput_ne (by decide), gput_ne (by decide), gput_ne (by decide), gput_ne (by decide), gput_ne (by decide)]; exact h5
  have f6 : af.tmps[6]? = some (V2) := by rw [haf]; rw [gput_ne (by decide), gput_ne (by decide), gput_ne (by decide), gput_ne (by decide), gput_ne (by decide), gput_ne (by decide), gput_ne (by decide), gput_ne (by decide), gput_ne (by decide), gput_ne (by decide), gput_ne (by decide), gput_ne (by decide), gput_ne (by decide), gput_ne (by decide)]; exact h6
  have f0 : af.tmps[0]? = some (.slice (some ⟨bc, oc, none⟩) N cv) := by rw [haf]; rw [gput_ne (by decide), gput_ne (by decide), gput_ne (by decide), gput_ne (by decide), gput_ne (by decide), gput_ne (by decide), gput_ne (by decide), gput_ne (by decide), gput_ne (by decide), gput_ne (by decide), gput_ne (by decide), gput_ne (by decide), gput_ne (by decide), gput_ne (by decide)]; exact h0
  have f7 : af.tmps[7]? = some (.int .i64 (i : Int)) := by rw [haf]; rw [gput_ne (by decide), gput_ne (by decide), gput_ne (by decide), gput_ne (by decide), gput_ne (by decide), gput_ne (by decide), gput_ne (by decide), gput_ne (by decide), gput_ne (by decide), gput_ne (by decide), gput_ne (by decide), gput_ne (by decide), gput_ne (by decide), gput_ne (by decide)]; exact h7
  have f27 : af.tmps[27]? = some (V1) := by rw [haf]; rw [gput_ne (by decide), gput_ne (by decide), gput_ne (by decide), gput_ne (by decide), gput_ne (by decide), gput_ne (by decide), gput_ne (by decide), gput_ne (by decide), gput_ne (by decide), gput_ne (by decide), gput_ne (by decide), gput_ne (by decide), gput_ne (by decide), gput_at (by first | (rw [hsz]; decide) | (simp only [gput_sz]; rw [hsz]; decide))]
  have f28 : af.tmps[28]? = some (.slice (some ⟨bc, oc, none⟩) N cv) := by rw [haf]; rw [gput_ne (by decide), gput_ne (by decide), gput_ne (by decide), gput_ne (by decide), gput_ne (by decide), gput_ne (by decide), gput_ne (by decide), gput_ne (by decide), gput_ne (by decide), gput_ne (by decide), gput_ne (by decide), gput_ne (by decide), gput_at (by first | (rw [hsz]; decide) | (simp only [gput_sz]; rw [hsz]; decide))]
  have f29 : af.tmps[29]? = some (.int .i64 (i : Int)) := by rw [haf]; rw [gput_ne (by decide), gput_ne (by decide), gput_ne (by decide), gput_ne (by decide), gput_ne (by decide), gput_ne (by decide), gput_ne (by decide), gput_ne (by decide), gput_ne (by decide), gput_ne (by decide), gput_ne (by decide), gput_at (by first | (rw [hsz]; decide) | (simp only [gput_sz]; rw [hsz]; decide))]
  have f30 : af.tmps[30]? = some (.pointer (some ⟨bc, oc + i, none⟩)) := by rw [haf]; rw [gput_ne (by decide), gput_ne (by decide), gput_ne (by decide), gput_ne (by decide), gput_ne (by decide), gput_ne (by decide), gput_ne (by decide), gput_ne (by decide), gput_ne (by decide), gput_ne (by decide), gput_at (by first | (rw [hsz]; decide) | (simp only [gput_sz]; rw [hsz]; decide))]
  have f31 : af.tmps[31]? = some (.int .u8 y) := by rw [haf]; rw [gput_ne (by decide), gput_ne (by decide), gput_ne (by decide), gput_ne (by decide), gput_ne (by decide), gput_ne (by decide), gput_ne (by decide), gput_ne (by decide), gput_ne (by decide), gput_at (by first | (rw [hsz]; decide) | (simp only [gput_sz]; rw [hsz]; decide))]
  have f32 : af.tmps[32]? = some (.int .i64 y) := by rw [haf]; rw [gput_ne (by decide), gput_ne (by decide), gput_ne (by decide), gput_ne (by decide), gput_ne (by decide), gput_ne (by decide), gput_ne (by decide), gput_ne (by decide), gput_at (by first | (rw [hsz]; decide) | (simp only [gput_sz]; rw [hsz]; decide))]
  have f33 : af.tmps[33]? = some (.int .i64 (y % 8)) := by rw [haf]; rw [gput_ne (by decide), gput_ne (by decide), gput_ne (by decide), gput_ne (by decide), gput_ne (by decide), gput_ne (by decide), gput_ne (by decide), gput_at (by first | (rw [hsz]; decide) | (simp only [gput_sz]; rw [hsz]; decide))]
  have f34 : af.tmps[34]? = some (.int .i64 (y % 8 + 1)) := by rw [haf]; rw [gput_ne (by decide), gput_ne (by decide), gput_ne (by decide), gput_ne (by decide), gput_ne (by decide), gput_ne (by decide), gput_at (by first | (rw [hsz]; decide) | (simp only [gput_sz]; rw [hsz]; decide))]
  have f37 : af.tmps[37]? = some (V2) := by rw [haf]; rw [gput_ne (by decide), gput_ne (by decide), gput_ne (by decide), gput_ne (by decide), gput_ne (by decide), gput_at (by first | (rw [hsz]; decide) | (simp only [gput_sz]; rw [hsz]; decide))]
  have f38 : af.tmps[38]? = some (.slice (some ⟨bc, oc, none⟩) N cv) := by rw [haf]; rw [gput_ne (by decide), gput_ne (by decide), gput_ne (by decide), gput_ne (by decide), gput_at (by first | (rw [hsz]; decide) | (simp only [gput_sz]; rw [hsz]; decide))]
  have f39 : af.tmps[39]? = some (.int .i64 (i : Int)) := by rw [haf]; rw [gput_ne (by decide), gput_ne (by decide), gput_ne (by decide), gput_at (by first | (rw [hsz]; decide) | (simp only [gput_sz]; rw [hsz]; decide))]
  have f40 : af.tmps[40]? = some (.pointer (some ⟨bc, oc + i, none⟩)) := by rw [haf]; rw [gput_ne (by decide), gput_ne (by decide), gput_at (by first | (rw [hsz]; decide) | (simp only [gput_sz]; rw [hsz]; decide))]
  have f41 : af.tmps[41]? = some (.int .u8 y) := by rw [haf]; rw [gput_ne (by decide), gput_at (by first | (rw [hsz]; decide) | (simp only [gput_sz]; rw [hsz]; decide))]
  have f42 : af.tmps[42]? = some (.bool (decide (128 ≤ y))) := by rw [haf]; rw [gput_at (by first | (rw [hsz]; decide) | (simp only [gput_sz]; rw [hsz]; decide))]
  have HS : Below w0.heap.size w0 w.drew := hbw.drew
  refine wp_region_tail 20 (fun W => Below w0.heap.size w0 W) (by kernel_rfl) hok ?_
  rw [hl1, hlast]
  have hput : putIdx af [o0, o1, o2, o3, o4, o5, o6, o7, o8, o9, o10, o11, o12, o13, o14, o15, o16, o17, o18, o19].toArray [0, 1, 2, 3, 4, 5, 6, 7, 10, 11, 12, 13, 14, 15] a = af := by
    have e : putIdx af [o0, o1, o2, o3, o4, o5, o6, o7, o8, o9, o10, o11, o12, o13, o14, o15, o16, o17, o18, o19].toArray [0, 1, 2, 3, 4, 5, 6, 7, 10, 11, 12, 13, 14, 15] a = ((((((((((((((a.put (some 27) (V1)).put (some 28) (.slice (some ⟨bc, oc, none⟩) N cv)).put (some 29) (.int .i64 (i : Int))).put (some 30) (.pointer (some ⟨bc, oc + i, none⟩))).put (some 31) (.int .u8 y)).put (some 32) (.int .i64 y)).put (some 33) (.int .i64 (y % 8))).put (some 34) (.int .i64 (y % 8 + 1))).put (some 37) (V2)).put (some 38) (.slice (some ⟨bc, oc, none⟩) N cv)).put (some 39) (.int .i64 (i : Int))).put (some 40) (.pointer (some ⟨bc, oc + i, none⟩))).put (some 41) (.int .u8 y)).put (some 42) (.bool (decide (128 ≤ y)))) := by
      simp only [putIdx, List.getElem?_toArray, List.getElem?_cons_succ, List.getElem?_cons_zero, Option.bind_some, t0, t1, t2, t3, t4, t5, t6, t7, t10, t11, t12, t13, t14, t15, ggetD f27, ggetD f28, ggetD f29, ggetD f30, ggetD f31, ggetD f32, ggetD f33, ggetD f34, ggetD f37, ggetD f38, ggetD f39, ggetD f40, ggetD f41, ggetD f42]
    rw [e, haf]
  refine takes (P := Try.prog) (Q := tailQ Try.prog Q []) (S := fun W => Below w0.heap.size w0 W) (idx := [0, 1, 2, 3, 4, 5, 6, 7, 10, 11, 12, 13, 14, 15]) (af := af) (fuel := 6) hns (fun c a d v w h => hQ c a d v w h) HS _ _ htk hput ?_ ?_
  · refine ⟨⟨o0, 27, _, rfl, t0, f27, ?_⟩, ⟨o1, 28, _, rfl, t1, f28, ?_⟩, ⟨o2, 29, _, rfl, t2, f29, ?_⟩, ⟨o3, 30, _, rfl, t3, f30, ?_⟩, ⟨o4, 31, _, rfl, t4, f31, ?_⟩, ⟨o5, 32, _, rfl, t5, f32, ?_⟩, ⟨o6, 33, _, rfl, t6, f33, ?_⟩, ⟨o7, 34, _, rfl, t7, f34, ?_⟩, ⟨o10, 37, _, rfl, t10, f37, ?_⟩, ⟨o11, 38, _, rfl, t11, f38, ?_⟩, ⟨o12, 39, _, rfl, t12, f39, ?_⟩, ⟨o13, 40, _, rfl, t13, f40, ?_⟩, ⟨o14, 41, _, rfl, t14, f41, ?_⟩, ⟨o15, 42, _, rfl, t15, f42, ?_⟩, trivial⟩
    · intro W hW
      have i3 : (0 : Int) ≤ (i : Int) := by omega
      have i4 : (i : Int) < (N : Int) := by omega
      have kF := (hW.cell (p := ⟨bc, oc + i, none⟩) (gcell_lt cy)).trans cy
      clear fin haf hput htk hns hok fsz hsz hQ r00 r10 r01 r20 r11 r21 r22 r3a r4 h5 h6 h0 h7 cy HS ow1 ow2 hbw
      obtain ⟨d, op, ty, pos, aft, gd⟩ := o0
      simp only at p0
      subst p0
      go_simp
    · intro W hW
      have i3 : (0 : Int) ≤ (i : Int) := by omega
      have i4 : (i : Int) < (N : Int) := by omega
      have kF := (hW.cell (p := ⟨bc, oc + i, none⟩) (gcell_lt cy)).trans cy
      clear fin haf hput htk hns hok fsz hsz hQ r00 r10 r01 r20 r11 r21 r22 r3a r4 h5 h6 h0 h7 cy HS ow1 ow2 hbw
      obtain ⟨d, op, ty, pos, aft, gd⟩ := o1
      simp only at p1
      subst p1
      go_simp
    · intro W hW
      have i3 : (0 : Int) ≤ (i : Int) := by omega
      have i4 : (i : Int) < (N : Int) := by omega
      have kF := (hW.cell (p := ⟨bc, oc + i, none⟩) (gcell_lt cy)).trans cy
      clear fin haf hput htk hns hok fsz hsz hQ r00 r10 r01 r20 r11 r21 r22 r3a r4 h5 h6 h0 h7 cy HS ow1 ow2 hbw
      obtain ⟨d, op, ty, pos, aft, gd⟩ := o2
      simp only at p2
      subst p2
      go_simp
    · intro W hW
      have i3 : (0 : Int) ≤ (i : Int) := by omega
      have i4 : (i : Int) < (N : Int) := by omega
      have kF := (hW.cell (p := ⟨bc, oc + i, none⟩) (gcell_lt cy)).trans cy
      clear fin haf hput htk hns hok fsz hsz hQ r00 r10 r01 r20 r11 r21 r22 r3a r4 h5 h6 h0 h7 cy HS ow1 ow2 hbw
      obtain ⟨d, op, ty, pos, aft, gd⟩ := o3
      simp only at p3
      subst p3
      go_simp
    · intro W hW
      have i3 : (0 : Int) ≤ (i : Int) := by omega
      have i4 : (i : Int) < (N : Int) := by omega
      have kF := (hW.cell (p := ⟨bc, oc + i, none⟩) (gcell_lt cy)).trans cy
      clear fin haf hput htk hns hok fsz hsz hQ r00 r10 r01 r20 r11 r21 r22 r3a r4 h5 h6 h0 h7 cy HS ow1 ow2 hbw
      obtain ⟨d, op, ty, pos, aft, gd⟩ := o4
      simp only at p4
      subst p4
      go_simp
    · intro W hW
      have i3 : (0 : Int) ≤ (i : Int) := by omega
      have i4 : (i : Int) < (N : Int) := by omega
      have kF := (hW.cell (p := ⟨bc, oc + i, none⟩) (gcell_lt cy)).trans cy
      clear fin haf hput htk hns hok fsz hsz hQ r00 r10 r01 r20 r11 r21 r22 r3a r4 h5 h6 h0 h7 cy HS ow1 ow2 hbw
      obtain ⟨d, op, ty, pos, aft, gd⟩ := o5
      simp only at p5
      subst p5
      go_simp
      rw [IntKind.wrap_i64]
      omega
    · intro W hW
      have i3 : (0 : Int) ≤ (i : Int) := by omega
      have i4 : (i : Int) < (N : Int) := by omega
      have kF := (hW.cell (p := ⟨bc, oc + i, none⟩) (gcell_lt cy)).trans cy
      clear fin haf hput htk hns hok fsz hsz hQ r00 r10 r01 r20 r11 r21 r22 r3a r4 h5 h6 h0 h7 cy HS ow1 ow2 hbw
      obtain ⟨d, op, ty, pos, aft, gd⟩ := o6
      simp only at p6
      subst p6
      go_simp
      exact Int.tmod_eq_emod_of_nonneg y0
    · intro W hW
      have i3 : (0 : Int) ≤ (i : Int) := by omega
      have i4 : (i : Int) < (N : Int) := by omega
      have kF := (hW.cell (p := ⟨bc, oc + i, none⟩) (gcell_lt cy)).trans cy
      clear fin haf hput htk hns hok fsz hsz hQ r00 r10 r01 r20 r11 r21 r22 r3a r4 h5 h6 h0 h7 cy HS ow1 ow2 hbw
      obtain ⟨d, op, ty, pos, aft, gd⟩ := o7
      simp only at p7
      subst p7
      go_simp
      rw [IntKind.wrap_i64]
      omega
    · intro W hW
      have i3 : (0 : Int) ≤ (i : Int) := by omega
      have i4 : (i : Int) < (N : Int) := by omega
      have kF := (hW.cell (p := ⟨bc, oc + i, none⟩) (gcell_lt cy)).trans cy
      clear fin haf hput htk hns hok fsz hsz hQ r00 r10 r01 r20 r11 r21 r22 r3a r4 h5 h6 h0 h7 cy HS ow1 ow2 hbw
      obtain ⟨d, op, ty, pos, aft, gd⟩ := o10
      simp only at p10
      subst p10
      go_simp
    · intro W hW
      have i3 : (0 : Int) ≤ (i : Int) := by omega
      have i4 : (i : Int) < (N : Int) := by omega
      have kF := (hW.cell (p := ⟨bc, oc + i, none⟩) (gcell_lt cy)).trans cy
      clear fin haf hput htk hns hok fsz hsz hQ r00 r10 r01 r20 r11 r21 r22 r3a r4 h5 h6 h0 h7 cy HS ow1 ow2 hbw
      obtain ⟨d, op, ty, pos, aft, gd⟩ := o11
      simp only at p11
      subst p11
      go_simp
    · intro W hW
      have i3 : (0 : Int) ≤ (i : Int) := by omega
      have i4 : (i : Int) < (N : Int) := by omega
      have kF := (hW.cell (p := ⟨bc, oc + i, none⟩) (gcell_lt cy)).trans cy
      clear fin haf hput htk hns hok fsz hsz hQ r00 r10 r01 r20 r11 r21 r22 r3a r4 h5 h6 h0 h7 cy HS ow1 ow2 hbw
      obtain ⟨d, op, ty, pos, aft, gd⟩ := o12
      simp only at p12
      subst p12
      go_simp
    · intro W hW
      have i3 : (0 : Int) ≤ (i : Int) := by omega
      have i4 : (i : Int) < (N : Int) := by omega
      have kF := (hW.cell (p := ⟨bc, oc + i, none⟩) (gcell_lt cy)).trans cy
      clear fin haf hput htk hns hok fsz hsz hQ r00 r10 r01 r20 r11 r21 r22 r3a r4 h5 h6 h0 h7 cy HS ow1 ow2 hbw
      obtain ⟨d, op, ty, pos, aft, gd⟩ := o13
      simp only at p13
      subst p13
      go_simp
    · intro W hW
      have i3 : (0 : Int) ≤ (i : Int) := by omega
      have i4 : (i : Int) < (N : Int) := by omega
      have kF := (hW.cell (p := ⟨bc, oc + i, none⟩) (gcell_lt cy)).trans cy
      clear fin haf hput htk hns hok fsz hsz hQ r00 r10 r01 r20 r11 r21 r22 r3a r4 h5 h6 h0 h7 cy HS ow1 ow2 hbw
      obtain ⟨d, op, ty, pos, aft, gd⟩ := o14
      simp only at p14
      subst p14
      go_simp
    · intro W hW
      have i3 : (0 : Int) ≤ (i : Int) := by omega
      have i4 : (i : Int) < (N : Int) := by omega
      have kF := (hW.cell (p := ⟨bc, oc + i, none⟩) (gcell_lt cy)).trans cy
      clear fin haf hput htk hns hok fsz hsz hQ r00 r10 r01 r20 r11 r21 r22 r3a r4 h5 h6 h0 h7 cy HS ow1 ow2 hbw
      obtain ⟨d, op, ty, pos, aft, gd⟩ := o15
      simp only at p15
      subst p15
      go_simp
  have em : markIdx [0, 1, 2, 3, 4, 5, 6, 7, 10, 11, 12, 13, 14, 15] (Array.replicate [o0, o1, o2, o3, o4, o5, o6, o7, o8, o9, o10, o11, o12, o13, o14, o15, o16, o17, o18, o19].length false) = #[true, true, true, true, true, true, true, true, false, false, true, true, true, true, true, true, false, false, false, false] := by kernel_rfl
  rw [em]
  refine gtail_twoL eltI2 eltB2 (by decide) (iA := 8) (iB := 9) (iC := 16) (iD := 17) (dA := 35) (dB := 36) (dC := 43) (dD := 44) (dl := 27) (dt := 37) (dx := 34) (dy := 42) (fuel := 2) (n1 := i) (n2 := i) (xs1 := xs1) (xs2 := xs2) (ys1 := [.int .i64 (y % 8 + 1)]) (ys2 := [.bool (decide (128 ≤ y))]) (w0 := w0) (oA := o8) (oB := o9) (oC := o16) (oD := o17) rfl rfl rfl rfl g8 g9 g16 g17 (run_i1 p8) p9 (run_b2 p16) p17 t8 t9 t16 t17 r00 r10 r01 r20 r11 r21 (by decide) (by decide) (by rw [fsz]; decide) f27 f37 f34 f42 (vsame ow1) (vsame ow2) rfl (by simp [Value.oneCell']) rfl (by simp [Value.oneCell']) (by omega) (by omega) HS ?_
  intro vA vB vC vD W hW hB hD
  have q36 : ((((af.put (some 35) vA).put (some 36) vB).put (some 43) vC).put (some 44) vD).tmps[36]? = some vB := by rw [gput_ne (by decide), gput_ne (by decide)]; exact gput_at (by rw [gput_sz, fsz]; decide)
  have q44 : ((((af.put (some 35) vA).put (some 36) vB).put (some 43) vC).put (some 44) vD).tmps[44]? = some vD := gput_at (by rw [gput_sz, gput_sz, gput_sz, fsz]; decide)
  have fin2 := fin vA vB vC vD W hB hD hW
  generalize (((af.put (some 35) vA).put (some 36) vB).put (some 43) vC).put (some 44) vD = b4 at *
  have hr18 : ∀ (b : Act), b.tmps[36]? = some vB → (execOp b.eval o18).run Try.prog W = .ok (.value vB) W := fun b h => by simp [execOp, p18, geval h]
  have hr19 : ∀ (b : Act), b.tmps[44]? = some vD → (execOp b.eval o19).run Try.prog W = .ok (.value vD) W := fun b h => by simp [execOp, p19, geval h]
  refine wpAnyH_ready r22 (by simp) (AllReadyH.cons (o := o18) rfl (fun K hK => ?_) AllReadyH.nil)
  · refine gstep_run g18 (hr18 _ q36) ?_
    refine hK.out _ _ hW fun _ => ?_
    rw [t18]
    refine wpAnyH_ready r3a (by simp) (AllReadyH.cons (o := o19) rfl (fun K hK => ?_) AllReadyH.nil)
    refine gstep_run g19 (hr19 _ (by rw [gput_ne (by decide)]; exact q44)) ?_
    refine hK.out _ _ hW fun _ => ?_
    rw [t19]
    refine wpAnyH_done r4 ?_ _
    refine tailQ_of _ _ _ ?_
    unfold tailWp
    exact fin2


end Go.Proofs.Ytimmjhegeagofab
