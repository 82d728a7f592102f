/- PROVED: for every credit, every start and every row of acts the statement LaneOneWay returns true: what a sender is told of a one-way lane, but the slots, hangs on nothing that is taken and retired (P8.8). No condition. -/
import Derived.Test.YtkgjikfndinpoaaRows
import Derived.Test.YtkgjikfndinpoaaJOneWay
import Derived.Test.YtkgjikfndinpoaaJReset
import Derived.Deep.RegionHeld3
import Derived.Test.YtkgjikfndinpoaaJRow
import Derived.ProofKit
import Derived.ShutString
import Derived.ChangeOld
import Derived.OpenShut
namespace Go.Proofs.Ytkgjikfndinpoaa.laneOneWay
open Go.ChangeShapes Go.WideShapes Go.ChangeAt Go.RowKit

theorem own : ownKnob Try.prog.godebug = none := by kernel_rfl
theorem laidOut : laidOutB Try.prog = true := by kernel_rfl

theorem wf8 {x : Int} (h : (Lit.int .u8 x).wf = true) : 0 ≤ x ∧ x < 256 := by
  have e : IntKind.u8.max = 255 := by decide
  have e' : IntKind.u8.min = 0 := by decide
  simp [Lit.wf, e, e'] at h
  omega
theorem wf64 {x : Int} (h : (Lit.int .u64 x).wf = true) : 0 ≤ x ∧ x < 18446744073709551616 := by
  have e : IntKind.u64.max = 18446744073709551615 := by decide
  have e' : IntKind.u64.min = 0 := by decide
  simp [Lit.wf, e, e'] at h
  omega
theorem resetIs : ResetIs := fun _ _ _ _ l => (resetN l).mono fun _ _ ⟨v, he, _, hl, hb⟩ => ⟨⟨v, he⟩, hl, hb⟩
theorem walk (cr : Int) (st : Int) (a : Option Addr) (len cap : Nat) (f : Nat → Jo) (w0 : (Lit.int .u8 cr).wf = true) (w1 : (Lit.int .u64 st).wf = true) (w : World) (hops : JOps w a len cap f) :
    Calls Try.prog 4 #[.int .u8 cr, .int .u64 st, .slice a len cap] w fun e w' => e = .returned (.bool true) ∧ Below w.heap.size w w' :=
  joneway cr st a len cap f w (wf8 w0).1 (wf8 w0).2 (wf64 w1).1 (wf64 w1).2 hops resetIs

set_option maxRecDepth 100000 in
theorem lifted (os : Os) (started : os.Started) (H : Type) (enc : TypeId × Value → H) :
    ReturnsInHanded {} Try.checked os 4 .any (Rows.laneOneWaySpec.pre6 enc Try.prog Try.f4 Rows.laneOneWayRow.domain false) (Rows.laneOneWaySpec.post enc Try.prog Try.f4 false true false false) := by
  refine returnsInHanded_of_change (C := Try.checked) own started (by kernel_rfl) Try.func4
    (ChangeSpec.witness6 (enc := enc) (C := Try.checked) false ⟨#[], #[.int .u8 0, .int .u64 0, .slice none 0 0], []⟩ 8 (by kernel_rfl) (by kernel_rfl) (by kernel_rfl) (by kernel_rfl)) ?_
  intro W base args ds gs before hval0 hW hcnd _
  have hval : ∀ (j : Nat) t v, Try.f4.params[j]? = some t → args[j]? = some v → Value.okWide Try.prog W .any base t v := hval0
  have hW' := hW
  obtain ⟨p, q, hA0, hV, rfl, hfz, hnd⟩ := hW
  have hA : DataW.TrodAll enc Try.prog W 0 (fun _ => true) true Try.f4.params.toList args.toList ds p := hA0
  rw [Try.params4] at hA hval
  obtain ⟨v0, vs0, d0, ds0, p0, q0, hargs, rfl, rfl, h0, r0⟩ := trodAll_cons hA
  obtain ⟨v1, vs1, d1, ds1, p1, q1, rfl, rfl, rfl, h1, r1⟩ := trodAll_cons r0
  obtain ⟨v2, vs2, d2, ds2, p2, q2, rfl, rfl, rfl, h2, r2⟩ := trodAll_cons r1
  obtain ⟨rfl, rfl, rfl⟩ := trodAll_nil r2
  obtain rfl : args = #[v0, v1, v2] := by cases args; simp_all
  obtain ⟨rfl, rfl⟩ := trodVars_none hV
  obtain ⟨a0, rfl, rfl, rfl, w0⟩ := open_int Try.underlying5 (hval 0 5 v0 rfl rfl) h0
  obtain ⟨a1, rfl, rfl, rfl, w1⟩ := open_int Try.underlying22 (hval 1 22 v1 rfl rfl) h1
  have k2 := h2
  have lt2 : ∀ x ∈ p2, x.block < W.heap.size := by obtain ⟨m, hm⟩ := k2; exact DataW.trod_lt m _ _ _ hm
  obtain ⟨a, len, cap, f, rfl, w2⟩ := open_lops (hval 2 23 v2 rfl rfl) h2
  clear hA0 hval0
  refine (walk a0 a1 a len cap f w0 w1 W w2).mono fun e W' ⟨he, bel⟩ => ?_
  subst he
  exact ⟨_, rfl, _, _, _, [], _, [], hW', trodAll_mk1 (shut_bool Try.underlying4 _), (trodAll_cons_mk (shut_int Try.underlying5 w0) (trodAll_cons_mk (shut_int Try.underlying22 w1) (trodAll_cons_mk (Below.trod laidOut (by kernel_rfl) (of_decide_eq_true (by kernel_rfl)) k2 bel lt2) trodAll_mk0))), rfl, bel.frame _, fun h => by cases h⟩

end Go.Proofs.Ytkgjikfndinpoaa.laneOneWay
namespace Go.Proofs.Ytkgjikfndinpoaa

/-- The statement LaneOneWay. -/
theorem LaneOneWayHolds : Rows.LaneOneWaySaid :=
  OpenClaim.holds_of_wide 4 Try.f4 rfl rfl rfl rfl rfl rfl rfl ⟨rfl, rfl, rfl, rfl, rfl⟩ rfl rfl rfl rfl rfl (by kernel_rfl) Try.func4 (by kernel_rfl)
    (of_decide_eq_true (by kernel_rfl)) (by unfold Func.isWrapper; first | (rw [if_pos (by decide +kernel)]; kernel_rfl) | (rw [if_neg (by decide +kernel)]; exact ⟨rfl, rfl⟩))
    (fun os started H enc _ => laneOneWay.lifted os started H enc)

end Go.Proofs.Ytkgjikfndinpoaa
