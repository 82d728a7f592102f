/- The law QueueTakes: a row of calls. -/
import Derived.Test.YtimmjhegeagofaaULight
import Derived.Test.YtimmjhegeagofaaUAwake
import Derived.Test.YtimmjhegeagofaaURefQ
import Derived.Test.YtimmjhegeagofaaURefE
namespace Go.Proofs.Ytimmjhegeagofaa
open Go.RowKit
set_option maxRecDepth 100000

theorem rsame_one (va vb ua ub : Value) (A : Qu) (V U : Nat → Value) (w : World) (hoa : OkQ A) (ha : QIs w va vb A V) (hb : QIs w ua ub A U) : Calls Try.prog 30 #[quV va vb, quV ua ub] w fun e w' => e = .returned (.bool true) ∧ Below w.heap.size w w' := by
  have := rsame_any va vb ua ub A A V U w hoa ha hb
  rwa [eqQ_refl] at this
theorem tkQ_okq {Q : Qu} (h : OkQ Q) : OkQ Q.tkQ := by
  unfold Qu.tkQ
  split
  · exact ⟨h.nl, by have := h.nm; simp; omega, h.nc⟩
  · exact okq0
theorem okq_set {Q : Qu} (h : OkQ Q) {i : Nat} {x : PLn} {ms : List PMs} (hx : x.cl.length ≤ 1000) (hm : ms.length ≤ 1000) : OkQ ⟨Q.ls.set i x, ms⟩ := by
  refine ⟨by simpa using h.nl, hm, fun j hj => ?_⟩
  have hj' : j < Q.ls.length := by simpa using hj
  show (atP (Q.ls.set i x) j).cl.length ≤ 1000
  by_cases hi : i < Q.ls.length
  · rw [atP_set hi]
    split
    · exact hx
    · exact h.nc j hj'
  · rw [List.set_eq_of_length_le (by omega)]
    exact h.nc j hj'
theorem lane_len {Q : Qu} (h : OkQ Q) (i : Int) : (Q.lane i).cl.length ≤ 1000 := by
  unfold Qu.lane
  by_cases hi : i.toNat < Q.ls.length
  · exact h.nc _ hi
  · simp [atP, hi, pl0]
theorem rtQ_okq {Q : Qu} {ln ep : Int} (h : OkQ Q) : OkQ (Q.rtQ ln ep) := by
  unfold Qu.rtQ
  split
  · split
    · exact okq_set h (lane_len h ln) h.nm
    · exact h
  · exact okq0
theorem rsQ_okq {Q : Qu} {i : Int} (h : OkQ Q) : OkQ (Q.rsQ i) := by
  unfold Qu.rsQ
  split
  · exact okq_set h (lane_len h i) (Nat.le_trans (List.length_filter_le _ _) h.nm)
  · exact okq0
end Go.Proofs.Ytimmjhegeagofaa
