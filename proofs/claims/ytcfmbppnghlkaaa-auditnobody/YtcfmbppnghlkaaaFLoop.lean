/- A range's frame over a closure with one cell of its own; a round's beginning and end. -/
import Derived.Test.YtcfmbppnghlkaaaKMem
import Derived.RangeFuncNested
import Derived.RangeFuncBound
import Derived.RangeFuncCalls
import Derived.RangeFuncLeaves
import Derived.RangeFuncWrites
import Derived.RangeFuncBox
import Derived.OwnWalkIn
import Derived.TacticsInMore
namespace Go.Proofs.Ytcfmbppnghlkaaa
open Go.RowKit
attribute [local go_sem] Oper.semAt_some
set_option maxRecDepth 100000

theorem But.stripF {S : Nat → Prop} {L : Nat} {W W' : World} (h : But (fun b => b = L ∨ S b) W W') (hL : W'.heap[L]? = W.heap[L]?) : But S W W' :=
  ⟨h.os, h.tape, h.output, h.size, fun b hb hs => by
    by_cases e : b = L
    · rw [e]; exact hL
    · exact h.block b hb fun h => h.elim e hs⟩
theorem beginF {W : World} {L : Nat} {r : Loop} (h : W.heap[L]? = some (.loop r)) (hr : r.state = .ready) : ∃ Wb, (Instr.beginRound L).run Try.prog W = .ok () Wb ∧ Wb.heap[L]? = some (.loop { r with state := .busy }) ∧ But (fun b => b = L) W Wb :=
  ⟨_, run_beginRound h hr, World.putObj_heap_same (Array.getElem?_eq_some_iff.1 h).1, ⟨rfl, rfl, rfl, by simp [World.putObj], fun b _ hb => World.putObj_heap_other hb⟩⟩
theorem endF {W : World} {L : Nat} {r : Loop} (h : W.heap[L]? = some (.loop r)) : ∃ Wb, (Instr.endRound L none).run Try.prog W = .ok (.bool true) Wb ∧ Wb.heap[L]? = some (.loop { r with state := .ready, pending := none }) ∧ But (fun b => b = L) W Wb :=
  ⟨_, run_endRound none h, World.putObj_heap_same (Array.getElem?_eq_some_iff.1 h).1, ⟨rfl, rfl, rfl, by simp [World.putObj], fun b _ hb => World.putObj_heap_other hb⟩⟩
/-- a range's frame -/
theorem floop {g : Operand} {ps : Array Tmp} {assign body : Code} {Q : Exit → Act → World → Prop} {a : Act} {w1 : World} {gf : Nat} {x1 : Value} (hg : a.eval g = .func (.func gf) #[] #[x1]) (eg : ∀ args w, (callFunc gf args).run Try.prog w = .ok (.enter gf args) w)
    (h : ∀ fn X W1, X = .loop { state := .ready, pending := none, fn, tmps := a.tmps, params := ps, assign, body, defers := w1.heap.size } → (w1.alloc (.deferred (some []))).alloc X = W1 → CallsIn Fence.wide 5 Try.prog gf #[.func (.yield (w1.heap.size + 1)) #[] #[], x1] W1 (rangePost Fence.wide 6 Try.prog (w1.heap.size + 1) Q { a with defers := [{ target := .collected w1.heap.size, args := #[] }] ++ a.defers })) :
    (Code.rangeFunc g ps assign body).wpIn Fence.wide 6 Try.prog Q a w1 := by
  refine wpIn_rangeFunc ?_
  intro fn _
  obtain ⟨W1, hW1⟩ : ∃ W1, (w1.alloc (.deferred (some []))).alloc (.loop { state := .ready, pending := none, fn, tmps := a.tmps, params := ps, assign, body, defers := w1.heap.size }) = W1 := ⟨_, rfl⟩
  have h' := h fn _ W1 rfl hW1
  refine ⟨w1.heap.size + 1, [{ target := .collected w1.heap.size, args := #[] }], W1, { target := .fn (.func gf) #[x1], args := #[.func (.yield (w1.heap.size + 1)) #[] #[]] }, W1, gf, #[.func (.yield (w1.heap.size + 1)) #[] #[], x1], W1, ?_, ?_, ?_, ?_, fun _ => by omega, h'⟩
  · rw [← hW1]; exact run_enterLoop_outer _ _ _ _ _
  · simp only [resolve, hg]
    simp [go_sem]
  · intro _ _; trivial
  · simp [invoke, go_sem, eg]
end Go.Proofs.Ytcfmbppnghlkaaa
