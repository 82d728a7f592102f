/- PROVED: for all numbers the statement OrderTotal returns true: a number stands ahead of the next one, to add the same to both changes no distance, and numbers that are not too far apart are in a total order (P7.5). No condition. -/
import Derived.Test.YtlcljchpljeonaaRows
import Derived.Test.YtlcljchpljeonaaORow
import Derived.Test.YtlcljchpljeonaaORow
import Derived.ProofKit
import Derived.ShutString
import Derived.ChangeOld
import Derived.OpenShut
namespace Go.Proofs.Ytlcljchpljeonaa.orderTotal
open Go.ChangeShapes Go.WideShapes Go.ChangeAt Go.RowKit

theorem own : ownKnob Try.prog.godebug = none := by kernel_rfl
theorem laidOut : laidOutB Try.prog = true := by kernel_rfl

set_option maxRecDepth 100000 in
set_option maxHeartbeats 4000000 in
theorem walk (a p q m : Int) (w0 : (Lit.int .u64 a).wf = true) (w1 : (Lit.int .u64 p).wf = true) (w2 : (Lit.int .u64 q).wf = true) (w3 : (Lit.int .u64 m).wf = true) (w : World) :
    Calls Try.prog 7 #[.int .u64 a, .int .u64 p, .int .u64 q, .int .u64 m] w fun e w' => e = .returned (.bool true) ∧ Below w.heap.size w w' := by
  obtain ⟨a0, a1⟩ := bounds_u64 w0
  obtain ⟨p0, p1⟩ := bounds_u64 w1
  obtain ⟨q0, q1⟩ := bounds_u64 w2
  obtain ⟨m0, m1⟩ := bounds_u64 w3
  clear w0 w1 w2 w3
  obtain ⟨u, hu⟩ : ∃ u, p % 4611686018427387904 = u := ⟨_, rfl⟩
  obtain ⟨v, hv⟩ : ∃ v, q % 4611686018427387904 = v := ⟨_, rfl⟩
  have u0 : 0 ≤ u ∧ u < 4611686018427387904 := by omega
  have v0 : 0 ≤ v ∧ v < 4611686018427387904 := by omega
  obtain ⟨b, hb⟩ : ∃ b, IntKind.u64.wrap (a + u) = b := ⟨_, rfl⟩
  obtain ⟨c, hc⟩ : ∃ c, IntKind.u64.wrap (a + v) = c := ⟨_, rfl⟩
  obtain ⟨a', ha'⟩ : ∃ x, IntKind.u64.wrap (a + 1) = x := ⟨_, rfl⟩
  obtain ⟨am, ham⟩ : ∃ x, IntKind.u64.wrap (a + m) = x := ⟨_, rfl⟩
  obtain ⟨bm, hbm⟩ : ∃ x, IntKind.u64.wrap (b + m) = x := ⟨_, rfl⟩
  have eb : b = (a + u) % 18446744073709551616 := by rw [← hb, IntKind.wrap_u64]
  have ec : c = (a + v) % 18446744073709551616 := by rw [← hc, IntKind.wrap_u64]
  have ea : a' = (a + 1) % 18446744073709551616 := by rw [← ha', IntKind.wrap_u64]
  have eam : am = (a + m) % 18446744073709551616 := by rw [← ham, IntKind.wrap_u64]
  have ebm : bm = (b + m) % 18446744073709551616 := by rw [← hbm, IntKind.wrap_u64]
  have d1 : distI a a' = 1 := by unfold distI; omega
  have d2 : distI a' a = -1 := by unfold distI; omega
  have d3 : distI am bm = u := by unfold distI; omega
  have d4 : distI a b = u := by unfold distI; omega
  have d5 : distI b c = v - u := by unfold distI; omega
  have d6 : distI a c = v := by unfold distI; omega
  have d7 : distI b a = -u := by unfold distI; omega
  have d8 : distI c b = u - v := by unfold distI; omega
  have k1 := fun w => before_any a a' w
  have k2 := fun w => before_any a' a w
  have k3 := fun w => ahead_any am bm w
  have k4 := fun w => ahead_any a b w
  have k5 := fun w => before_any a b w
  have k6 := fun w => before_any b c w
  have k7 := fun w => before_any a c w
  have k8 := fun w => before_any b a w
  have k9 := fun w => before_any c b w
  rw [d1, decide_eq_true (by decide)] at k1
  rw [d2, decide_eq_false (by decide)] at k2
  rw [d3] at k3
  rw [d4] at k4 k5
  rw [d5] at k6
  rw [d6] at k7
  rw [d7, decide_eq_false (by omega)] at k8
  rw [d8] at k9
  by_cases cu : u = 0
  · by_cases cv : v = 0
    · rw [decide_eq_false (by omega)] at k5
      rw [decide_eq_false (by omega)] at k6
      rw [decide_eq_false (by omega)] at k7
      rw [decide_eq_false (by omega)] at k9
      obtain rfl : am = bm := by omega
      obtain rfl : b = a := by omega
      obtain rfl : c = b := by omega
      clear d1 d2 d3 d4 d5 d6 d7 d8 ea eam ebm
      clear eb ec u0 v0 cu cv
      go_enter Try.func7, Try.ntmps7
      go_wp2_with fail
      refine (k1 _).mono ?_
      rintro e w1 ⟨rfl, rfl⟩
      go_wp2_with fail
      refine (k2 _).mono ?_
      rintro e w1 ⟨rfl, rfl⟩
      go_wp2_with fail
      refine (k3 _).mono ?_
      rintro e w1 ⟨rfl, rfl⟩
      go_wp2_with fail
      refine (k4 _).mono ?_
      rintro e w1 ⟨rfl, rfl⟩
      go_wp2_with fail
      refine (k5 _).mono ?_
      rintro e w1 ⟨rfl, rfl⟩
      go_wp2_with fail
      refine (k6 _).mono ?_
      rintro e w1 ⟨rfl, rfl⟩
      go_wp2_with fail
      refine (k7 _).mono ?_
      rintro e w1 ⟨rfl, rfl⟩
      go_wp2_with fail
      refine (k8 _).mono ?_
      rintro e w1 ⟨rfl, rfl⟩
      go_wp2_with fail
      refine (k9 _).mono ?_
      rintro e w1 ⟨rfl, rfl⟩
      go_wp2_with fail
      refine (oalive_any _).mono ?_
      rintro e w9 ⟨rfl, h9⟩
      go_wp2_with fail
      go_ret
      exact ⟨rfl, h9⟩
    · rw [decide_eq_false (by omega)] at k5
      rw [decide_eq_true (by omega)] at k6
      rw [decide_eq_true (by omega)] at k7
      rw [decide_eq_false (by omega)] at k9
      have hbc : ¬ b = c := by omega
      obtain rfl : am = bm := by omega
      obtain rfl : b = a := by omega
      clear d1 d2 d3 d4 d5 d6 d7 d8 ea eam ebm
      clear eb ec u0 v0 cu cv
      go_enter Try.func7, Try.ntmps7
      go_wp2_with fail
      refine (k1 _).mono ?_
      rintro e w1 ⟨rfl, rfl⟩
      go_wp2_with fail
      refine (k2 _).mono ?_
      rintro e w1 ⟨rfl, rfl⟩
      go_wp2_with fail
      refine (k3 _).mono ?_
      rintro e w1 ⟨rfl, rfl⟩
      go_wp2_with fail
      refine (k4 _).mono ?_
      rintro e w1 ⟨rfl, rfl⟩
      go_wp2_with fail
      refine (k5 _).mono ?_
      rintro e w1 ⟨rfl, rfl⟩
      go_wp2_with fail
      refine (k6 _).mono ?_
      rintro e w1 ⟨rfl, rfl⟩
      go_wp2_with fail
      refine (k7 _).mono ?_
      rintro e w1 ⟨rfl, rfl⟩
      go_wp2_with fail
      refine (k8 _).mono ?_
      rintro e w1 ⟨rfl, rfl⟩
      go_wp2_with fail
      refine (k9 _).mono ?_
      rintro e w1 ⟨rfl, rfl⟩
      go_wp2_with fail
      refine (oalive_any _).mono ?_
      rintro e w9 ⟨rfl, h9⟩
      go_wp2_with fail
      go_ret
      exact ⟨rfl, h9⟩
  · by_cases cv : u < v
    · rw [decide_eq_true (by omega)] at k5
      rw [decide_eq_true (by omega)] at k6
      rw [decide_eq_true (by omega)] at k7
      rw [decide_eq_false (by omega)] at k9
      have hab : ¬ a = b := by omega
      have hbc : ¬ b = c := by omega
      clear d1 d2 d3 d4 d5 d6 d7 d8 ea eam ebm
      clear eb ec u0 v0 cu cv
      go_enter Try.func7, Try.ntmps7
      go_wp2_with fail
      refine (k1 _).mono ?_
      rintro e w1 ⟨rfl, rfl⟩
      go_wp2_with fail
      refine (k2 _).mono ?_
      rintro e w1 ⟨rfl, rfl⟩
      go_wp2_with fail
      refine (k3 _).mono ?_
      rintro e w1 ⟨rfl, rfl⟩
      go_wp2_with fail
      refine (k4 _).mono ?_
      rintro e w1 ⟨rfl, rfl⟩
      go_wp2_with fail
      refine (k5 _).mono ?_
      rintro e w1 ⟨rfl, rfl⟩
      go_wp2_with fail
      refine (k6 _).mono ?_
      rintro e w1 ⟨rfl, rfl⟩
      go_wp2_with fail
      refine (k7 _).mono ?_
      rintro e w1 ⟨rfl, rfl⟩
      go_wp2_with fail
      refine (k8 _).mono ?_
      rintro e w1 ⟨rfl, rfl⟩
      go_wp2_with fail
      refine (k9 _).mono ?_
      rintro e w1 ⟨rfl, rfl⟩
      go_wp2_with fail
      refine (oalive_any _).mono ?_
      rintro e w9 ⟨rfl, h9⟩
      go_wp2_with fail
      go_ret
      exact ⟨rfl, h9⟩
    · by_cases ce : u = v
      · rw [decide_eq_true (by omega)] at k5
        rw [decide_eq_false (by omega)] at k6
        rw [decide_eq_true (by omega)] at k7
        rw [decide_eq_false (by omega)] at k9
        have hab : ¬ a = b := by omega
        obtain rfl : c = b := by omega
        clear d1 d2 d3 d4 d5 d6 d7 d8 ea eam ebm
        clear eb ec u0 v0 cu cv ce
        go_enter Try.func7, Try.ntmps7
        go_wp2_with fail
        refine (k1 _).mono ?_
        rintro e w1 ⟨rfl, rfl⟩
        go_wp2_with fail
        refine (k2 _).mono ?_
        rintro e w1 ⟨rfl, rfl⟩
        go_wp2_with fail
        refine (k3 _).mono ?_
        rintro e w1 ⟨rfl, rfl⟩
        go_wp2_with fail
        refine (k4 _).mono ?_
        rintro e w1 ⟨rfl, rfl⟩
        go_wp2_with fail
        refine (k5 _).mono ?_
        rintro e w1 ⟨rfl, rfl⟩
        go_wp2_with fail
        refine (k6 _).mono ?_
        rintro e w1 ⟨rfl, rfl⟩
        go_wp2_with fail
        refine (k7 _).mono ?_
        rintro e w1 ⟨rfl, rfl⟩
        go_wp2_with fail
        refine (k8 _).mono ?_
        rintro e w1 ⟨rfl, rfl⟩
        go_wp2_with fail
        refine (k9 _).mono ?_
        rintro e w1 ⟨rfl, rfl⟩
        go_wp2_with fail
        refine (oalive_any _).mono ?_
        rintro e w9 ⟨rfl, h9⟩
        go_wp2_with fail
        go_ret
        exact ⟨rfl, h9⟩
      · rw [decide_eq_true (by omega)] at k5
        rw [decide_eq_false (by omega)] at k6
        rw [decide_eq_true (by omega)] at k9
        have hab : ¬ a = b := by omega
        have hbc : ¬ b = c := by omega
        clear d1 d2 d3 d4 d5 d6 d7 d8 ea eam ebm
        clear eb ec u0 v0 cu cv ce
        generalize decide (0 < v) = zz at *
        go_enter Try.func7, Try.ntmps7
        go_wp2_with fail
        refine (k1 _).mono ?_
        rintro e w1 ⟨rfl, rfl⟩
        go_wp2_with fail
        refine (k2 _).mono ?_
        rintro e w1 ⟨rfl, rfl⟩
        go_wp2_with fail
        refine (k3 _).mono ?_
        rintro e w1 ⟨rfl, rfl⟩
        go_wp2_with fail
        refine (k4 _).mono ?_
        rintro e w1 ⟨rfl, rfl⟩
        go_wp2_with fail
        refine (k5 _).mono ?_
        rintro e w1 ⟨rfl, rfl⟩
        go_wp2_with fail
        refine (k6 _).mono ?_
        rintro e w1 ⟨rfl, rfl⟩
        go_wp2_with fail
        refine (k7 _).mono ?_
        rintro e w1 ⟨rfl, rfl⟩
        go_wp2_with fail
        refine (k8 _).mono ?_
        rintro e w1 ⟨rfl, rfl⟩
        go_wp2_with fail
        refine (k9 _).mono ?_
        rintro e w1 ⟨rfl, rfl⟩
        go_wp2_with fail
        refine (oalive_any _).mono ?_
        rintro e w9 ⟨rfl, h9⟩
        go_wp2_with fail
        go_ret
        exact ⟨rfl, h9⟩

set_option maxRecDepth 100000 in
theorem lifted (os : Os) (started : os.Started) (H : Type) (enc : TypeId × Value → H) :
    ReturnsInHanded {} Try.checked os 7 .any (Rows.orderTotalSpec.pre6 enc Try.prog Try.f7 Rows.orderTotalRow.domain false) (Rows.orderTotalSpec.post enc Try.prog Try.f7 false true false false) := by
  refine returnsInHanded_of_change (C := Try.checked) own started (by kernel_rfl) Try.func7
    (ChangeSpec.witness6 (enc := enc) (C := Try.checked) false ⟨#[], #[.int .u64 0, .int .u64 0, .int .u64 0, .int .u64 0], []⟩ 8 (by kernel_rfl) (by kernel_rfl) (by kernel_rfl) (by kernel_rfl)) ?_
  intro W base args ds gs before hval0 hW hcnd _
  have hval : ∀ (j : Nat) t v, Try.f7.params[j]? = some t → args[j]? = some v → Value.okWide Try.prog W .any base t v := hval0
  have hW' := hW
  obtain ⟨p, q, hA0, hV, rfl, hfz, hnd⟩ := hW
  have hA : DataW.TrodAll enc Try.prog W 0 (fun _ => true) true Try.f7.params.toList args.toList ds p := hA0
  rw [Try.params7] at hA hval
  obtain ⟨v0, vs0, d0, ds0, p0, q0, hargs, rfl, rfl, h0, r0⟩ := trodAll_cons hA
  obtain ⟨v1, vs1, d1, ds1, p1, q1, rfl, rfl, rfl, h1, r1⟩ := trodAll_cons r0
  obtain ⟨v2, vs2, d2, ds2, p2, q2, rfl, rfl, rfl, h2, r2⟩ := trodAll_cons r1
  obtain ⟨v3, vs3, d3, ds3, p3, q3, rfl, rfl, rfl, h3, r3⟩ := trodAll_cons r2
  obtain ⟨rfl, rfl, rfl⟩ := trodAll_nil r3
  obtain rfl : args = #[v0, v1, v2, v3] := by cases args; simp_all
  obtain ⟨rfl, rfl⟩ := trodVars_none hV
  obtain ⟨a0, rfl, rfl, rfl, w0⟩ := open_int Try.underlying22 (hval 0 22 v0 rfl rfl) h0
  obtain ⟨a1, rfl, rfl, rfl, w1⟩ := open_int Try.underlying22 (hval 1 22 v1 rfl rfl) h1
  obtain ⟨a2, rfl, rfl, rfl, w2⟩ := open_int Try.underlying22 (hval 2 22 v2 rfl rfl) h2
  obtain ⟨a3, rfl, rfl, rfl, w3⟩ := open_int Try.underlying22 (hval 3 22 v3 rfl rfl) h3
  clear hA0 hval0
  simp only [List.append_nil] at hW'
  refine (walk a0 a1 a2 a3 w0 w1 w2 w3 W).mono fun e W' ⟨he, bel⟩ => ?_
  subst he
  exact ⟨_, rfl, _, _, _, [], _, [], hW', trodAll_mk1 (shut_bool Try.underlying4 _), (trodAll_cons_mk (shut_int Try.underlying22 w0) (trodAll_cons_mk (shut_int Try.underlying22 w1) (trodAll_cons_mk (shut_int Try.underlying22 w2) (trodAll_cons_mk (shut_int Try.underlying22 w3) trodAll_mk0)))), rfl, bel.frame _, fun h => by cases h⟩

end Go.Proofs.Ytlcljchpljeonaa.orderTotal
namespace Go.Proofs.Ytlcljchpljeonaa

/-- The statement OrderTotal. -/
theorem OrderTotalHolds : Rows.OrderTotalSaid :=
  OpenClaim.holds_of_wide 7 Try.f7 rfl rfl rfl rfl rfl rfl rfl ⟨rfl, rfl, rfl, rfl, rfl⟩ rfl rfl rfl rfl rfl (by kernel_rfl) Try.func7 (by kernel_rfl)
    (of_decide_eq_true (by kernel_rfl)) (by unfold Func.isWrapper; first | (rw [if_pos (by decide +kernel)]; kernel_rfl) | (rw [if_neg (by decide +kernel)]; exact ⟨rfl, rfl⟩))
    (fun os started H enc _ => orderTotal.lifted os started H enc)

end Go.Proofs.Ytlcljchpljeonaa
