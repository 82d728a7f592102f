/- Rows made of rows in regions that draw their order: []int{x} ahead of a row; two rows. -/
import Derived.Test.YtiaacjollcccaaaKRefW
namespace Go.Proofs.Ytiaacjollcccaaa
open Go.RowKit

theorem tail_front {ops : Array Oper} {Q : Exit → Act → World → Prop} {w0 w : World} {iA iB dA dB dv dx : Nat} {oA oB : Oper} {listed : Array Bool} {a : Act} {fuel B x : Nat} {r : List Nat} {v : Value}
    (eA : ops[iA]? = some oA) (eB : ops[iB]? = some oB) (gA : oA.guard = none) (gB : oB.guard = none)
    (pA : oA.op = .buildSlice 36 1 #[(0, .tmp dx)]) (pB : oB.op = .call { callee := .builtin .append, args := #[.tmp dA, .tmp dv], argTypes := #[36, 36] })
    (tA : oA.dst = some dA) (tB : oB.dst = some dB)
    (r0 : Region.ready .any ops listed = [iA]) (rA : Region.ready .any ops (listed.setIfInBounds iA true) = [iB])
    (nd : dA ≠ dv) (sz : dA < a.tmps.size)
    (hv : a.tmps[dv]? = some v) (hx : a.tmps[dx]? = some (.int .i64 (x : Int))) (hown : w0.ownsRow B 3 1 v r.length (encL r)) (hl : r.length ≤ 70000)
    (hS : Below w0.heap.size w0 w)
    (fin : ∀ (vA vB : Value) (W : World), Below w0.heap.size w0 W → W.ownsRow w0.heap.size 3 1 vB (x :: r).length (encL (x :: r)) →
      wpAnyH Try.prog .any ops Q (fun W => Below w0.heap.size w0 W) fuel ((listed.setIfInBounds iA true).setIfInBounds iB true) ((a.put (some dA) vA).put (some dB) vB) W) :
    wpAnyH Try.prog .any ops Q (fun W => Below w0.heap.size w0 W) (fuel + 2) listed a w := by
  have low : ∀ {W : World}, Below w0.heap.size w0 W → W.ownsRow B 3 1 v r.length (encL r) := fun hW => own_but (S := fun _ => False) hown (But.of hW) (fun _ h => h.elim)
  refine wpAnyH_ready r0 (by simp) (AllReadyH.cons eA (fun K hK => ?_) AllReadyH.nil)
  refine step_build1 gA dx (x : Int) pA hx ?_
  have hW1 : Below w0.heap.size w0 (w.alloc (.cells #[.int .i64 (x : Int)] 3)) := hS.alloc hS.size _
  refine hK.out _ _ hW1 fun _ => ?_
  rw [tA]
  have hA := own_build1 w w0.heap.size x hS.size
  refine wpAnyH_ready rA (by simp) (AllReadyH.cons eB (fun K hK => ?_) AllReadyH.nil)
  refine step_append_row gB (.tmp dA) (.tmp dv) pB w0.heap.size B _ v [x] r (eval_tmp (put_at sz)) (eval_tmp ((put_ne nd).trans hv)) hA (low hW1) (by simp; omega) hW1.size fun vB W2 h1 h2 => ?_
  have hW2 := hW1.grown h2 hW1.size (own_ge hA)
  refine hK.out _ _ hW2 fun _ => ?_
  rw [tB]
  exact fin _ vB W2 hW2 h1

theorem tail_two {ops : Array Oper} {Q : Exit → Act → World → Prop} {w0 w : World} {iA iB iC dA dB dC dv du : Nat} {oA oB oC : Oper} {listed : Array Bool} {a : Act} {fuel B : Nat} {r q : List Nat} {v u : Value}
    (eA : ops[iA]? = some oA) (eB : ops[iB]? = some oB) (eC : ops[iC]? = some oC) (gA : oA.guard = none) (gB : oB.guard = none) (gC : oC.guard = none)
    (pA : oA.op = .buildSlice 36 0 #[]) (pB : oB.op = .call { callee := .builtin .append, args := #[.tmp dA, .tmp dv], argTypes := #[36, 36] })
    (pC : oC.op = .call { callee := .builtin .append, args := #[.tmp dB, .tmp du], argTypes := #[36, 36] })
    (tA : oA.dst = some dA) (tB : oB.dst = some dB) (tC : oC.dst = some dC)
    (r0 : Region.ready .any ops listed = [iA]) (rA : Region.ready .any ops (listed.setIfInBounds iA true) = [iB]) (rB : Region.ready .any ops ((listed.setIfInBounds iA true).setIfInBounds iB true) = [iC])
    (nd : dA ≠ dv ∧ dA ≠ du ∧ dB ≠ du) (sz : dA < a.tmps.size ∧ dB < a.tmps.size)
    (hv : a.tmps[dv]? = some v) (hu : a.tmps[du]? = some u) (hown : w0.ownsRow B 3 1 v r.length (encL r)) (howu : w0.ownsRow B 3 1 u q.length (encL q)) (hl : r.length + q.length ≤ 140000)
    (hS : Below w0.heap.size w0 w)
    (fin : ∀ (vA vB vC : Value) (W : World), Below w0.heap.size w0 W → W.ownsRow w0.heap.size 3 1 vC (r ++ q).length (encL (r ++ q)) →
      wpAnyH Try.prog .any ops Q (fun W => Below w0.heap.size w0 W) fuel (((listed.setIfInBounds iA true).setIfInBounds iB true).setIfInBounds iC true) (((a.put (some dA) vA).put (some dB) vB).put (some dC) vC) W) :
    wpAnyH Try.prog .any ops Q (fun W => Below w0.heap.size w0 W) (fuel + 3) listed a w := by
  obtain ⟨m1, m2, m3⟩ := nd
  have low : ∀ {W : World} {z : Value} {l : List Nat}, w0.ownsRow B 3 1 z l.length (encL l) → Below w0.heap.size w0 W → W.ownsRow B 3 1 z l.length (encL l) := fun ho hW => own_but (S := fun _ => False) ho (But.of hW) (fun _ h => h.elim)
  refine wpAnyH_ready r0 (by simp) (AllReadyH.cons eA (fun K hK => ?_) AllReadyH.nil)
  refine step_build0 gA pA ?_
  have hW1 : Below w0.heap.size w0 (w.alloc (.cells #[] 3)) := hS.alloc hS.size _
  refine hK.out _ _ hW1 fun _ => ?_
  rw [tA]
  have hA := own_build0 w w0.heap.size hS.size
  refine wpAnyH_ready rA (by simp) (AllReadyH.cons eB (fun K hK => ?_) AllReadyH.nil)
  refine step_append_row gB (.tmp dA) (.tmp dv) pB w0.heap.size B _ v [] r (eval_tmp (put_at sz.1)) (eval_tmp ((put_ne m1).trans hv)) hA (low hown hW1) (by simp; omega) hW1.size fun vB W2 h1 h2 => ?_
  have hW2 := hW1.grown h2 hW1.size (own_ge hA)
  rw [List.nil_append] at h1
  refine hK.out _ _ hW2 fun _ => ?_
  rw [tB]
  refine wpAnyH_ready rB (by simp) (AllReadyH.cons eC (fun K hK => ?_) AllReadyH.nil)
  refine step_append_row gC (.tmp dB) (.tmp du) pC w0.heap.size B vB u r q (eval_tmp (put_at (by rw [put_sz]; exact sz.2))) (eval_tmp ((put_ne m3).trans ((put_ne m2).trans hu))) h1 (low howu hW2) (by omega) hW2.size fun vC W3 h3 h4 => ?_
  have hW3 := hW2.grown h4 hW2.size (own_ge h1)
  refine hK.out _ _ hW3 fun _ => ?_
  rw [tC]
  exact fin _ vB vC W3 hW3 h3

end Go.Proofs.Ytiaacjollcccaaa
