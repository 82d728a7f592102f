/- A drained agenda told to the rounds of a loop: each under a range. -/
import Derived.Test.YtcfmbppnghlkaaaFAct
import Derived.RangeFuncNested
import Derived.RangeFuncBound
import Derived.RangeFuncCalls
import Derived.RangeFuncLeaves
import Derived.RangeFuncWrites
import Derived.RangeFuncBox
import Derived.OwnWalkIn
import Derived.TacticsInMore
import Derived.LoopNIn
import Derived.LoopIn
namespace Go.Proofs.Ytcfmbppnghlkaaa
open Go.RowKit Go.Shelf
attribute [local go_sem] Oper.semAt_some
set_option maxRecDepth 100000

theorem fpop : ∀ args W, (callFunc 57 args).run Try.prog W = .ok (.enter 57 args) W := enters_of Try.func57 (by kernel_rfl) rfl
theorem eql_yieldE_nil (l : Nat) (w : World) : Sem.run Try.prog (binOp BinOp.eql 85 (Value.func (Fn.yield l) #[] #[]) Value.nilFunc) w = .ok (.bool false) w := by kernel_rfl
/-- a measure that is read out of the world -/
theorem least_mu {ι : Type} (I : ι → World → Prop) (μ : ι → Nat) : ∃ mu : World → Nat, ∀ W i, I i W → mu W ≤ μ i ∧ ∃ i0, I i0 W ∧ μ i0 = mu W := by
  have h : ∀ W : World, ∃ m : Nat, ∀ i, I i W → m ≤ μ i ∧ ∃ i0, I i0 W ∧ μ i0 = m := fun W => by
    by_cases he : ∃ n, ∃ i, I i W ∧ μ i = n
    · obtain ⟨n, hn⟩ := he
      have key : ∀ n, (∃ i, I i W ∧ μ i = n) → ∃ m, (∃ i, I i W ∧ μ i = m) ∧ ∀ i, I i W → m ≤ μ i := fun n => by
        induction n using Nat.strongRecOn with
        | ind n ih =>
          intro hn
          by_cases hl : ∃ i, I i W ∧ μ i < n
          · obtain ⟨i, hi, hlt⟩ := hl
            exact ih _ hlt ⟨i, hi, rfl⟩
          · exact ⟨n, hn, fun i hi => Nat.le_of_not_lt fun h => hl ⟨i, hi, h⟩⟩
      obtain ⟨m, h1, h2⟩ := key n hn
      exact ⟨m, fun i hi => ⟨h2 i hi, h1⟩⟩
    · exact ⟨0, fun i hi => absurd ⟨_, i, hi, rfl⟩ he⟩
  exact ⟨fun i => Classical.choose (h i), fun i => Classical.choose_spec (h i)⟩

set_option maxHeartbeats 4000000 in
theorem each_in {ι : Type} (q : Nat) (hq : 1 ≤ q) (L N2 p : Nat) (I : ι → World → Prop) (μ : ι → Nat) (R : ι → VX → World → Prop) (Fin : World → Prop)
    (hB : ∀ i W, I i W → W.cell? ⟨N2, 0, none⟩ = some (.func (.func 57) #[ptr p] #[]))
    (hP : ∀ i W, I i W → Calls Try.prog 57 #[ptr p] W fun e W' => (∃ x n, e = .returned (.tuple #[VV x, .int .i64 n, .bool true]) ∧ R i x W') ∨ (e = .returned tl0 ∧ Fin W'))
    (hY : ∀ i x W, R i x W → YieldAt Fence.wide (q - 1) Try.prog L #[VV x] W fun e W' => e = .returned (.bool true) ∧ ∃ i', I i' W' ∧ μ i' < μ i)
    (i0 : ι) (W : World) (h0 : I i0 W) :
    CallsIn Fence.wide q Try.prog 60 #[.func (.yield L) #[] #[], ptr N2] W fun e W' => (∃ v, e = .returned v) ∧ Fin W' := by
  have hnil := eql_yieldE_nil L
  have hf1 := fpop
  obtain ⟨mu, hmu⟩ := least_mu I μ
  have HP : Hid (∀ i W, I i W → Calls Try.prog 57 #[ptr p] W fun e W' => (∃ x n, e = .returned (.tuple #[VV x, .int .i64 n, .bool true]) ∧ R i x W') ∨ (e = .returned tl0 ∧ Fin W')) := hP
  have HY : Hid (∀ i x W, R i x W → YieldAt Fence.wide (q - 1) Try.prog L #[VV x] W fun e W' => e = .returned (.bool true) ∧ ∃ i', I i' W' ∧ μ i' < μ i) := hY
  have HM : Hid (∀ W i, I i W → mu W ≤ μ i ∧ ∃ i0, I i0 W ∧ μ i0 = mu W) := hmu
  have HB : Hid (∀ i W, I i W → W.cell? ⟨N2, 0, none⟩ = some (.func (.func 57) #[ptr p] #[])) := hB
  have H0 : Hid (∃ i, I i W ∧ μ i = mu W) := (hmu W i0 h0).2
  clear hP hY hmu hB h0
  refine callsIn_of_wp Try.func60 rfl trivial ?_ rfl
  simp only [Try.ntmps60, List.size_toArray, List.length_cons, List.length_nil, Nat.reduceAdd, Nat.reduceSub, Array.replicate_succ, Array.replicate_zero, List.push_toArray, List.append_toArray, List.nil_append, List.cons_append]
  gi_wp2_with fail
  gi_loopw [4] (fun _ wr => Hid (∃ i, I i wr ∧ μ i = mu wr)) (fun _ wr => mu wr)
  case atStart => exact H0
  case round =>
    obtain ⟨i, hi, hmi⟩ := hrel.out
    have c2 := HB.out i wr hi
    have cP := HP.out i wr hi
    gi_wp2_with fail
    refine ⟨trivial, (callsIn_wide.2 cP).mono ?_⟩
    clear cP c2
    rintro e w2 (⟨x, n, rfl, hR⟩ | ⟨rfl, hF⟩)
    · have HR : Hid (R i x w2) := hR
      obtain ⟨fn, tmps, assign, body, hy, hRd⟩ := HY.out i x w2 hR
      clear hR
      gi_wp2
      refine hRd.mono ?_
      rintro e w4 ⟨rfl, i', hi', hlt⟩
      have HN : Hid (I i' w4 ∧ μ i' < μ i) := ⟨hi', hlt⟩
      clear hy hRd hi' hlt
      gi_wp2
      go_roundw
      case rel => exact (HM.out w4 _ HN.out.1).2
      case measure =>
        have h1 := (HM.out w4 i' HN.out.1).1
        have h2 := HN.out.2
        omega
    · have HF : Hid (Fin w2) := hF
      clear hF
      gi_wp2
      refine ⟨(fun _ h => by cases h), ?_⟩
      gi_wp2
      refine bodyPost_ret (results_none rfl _ _ _) rfl ?_
      exact ⟨⟨_, rfl⟩, HF.out⟩
end Go.Proofs.Ytcfmbppnghlkaaa
