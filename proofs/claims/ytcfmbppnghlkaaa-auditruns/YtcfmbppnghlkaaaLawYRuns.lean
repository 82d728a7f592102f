/- PROVED: for all rooms, all records, every set of gates and every stamp the statement AuditRuns returns true: each answer of the logs is the one that the document says (P15.1 to P15.3). No condition. -/
import Derived.Test.YtcfmbppnghlkaaaRows
import Derived.Test.YtcfmbppnghlkaaaYRuns
import Derived.Test.YtcfmbppnghlkaaaYArg
import Derived.ProofKit
import Derived.ShutString
import Derived.ChangeOld
import Derived.OpenShut
namespace Go.Proofs.Ytcfmbppnghlkaaa.auditRuns
open Go.ChangeShapes Go.WideShapes Go.ChangeAt Go.RowKit

theorem own : ownKnob Try.prog.godebug = none := by kernel_rfl
theorem laidOut : laidOutB Try.prog = true := by kernel_rfl

theorem uwf {x : Int} (h : (Lit.int .u64 x).wf = true) : 0 ≤ x ∧ x < 18446744073709551616 := by
  have e : IntKind.u64.max = 18446744073709551615 := by decide
  have e' : IntKind.u64.min = 0 := by decide
  simp [Lit.wf, e, e'] at h
  omega
theorem walk (a1 : Option Addr) (n1 c1 : Nat) (z1 : Nat → Int) (la : Option Addr) (ll lc : Nat) (lg : Nat → Rc) (s : Int) (mt ms : Int) (w : World) (hs : 0 ≤ s ∧ s < 18446744073709551616) (hm : Rc.Ok ⟨mt, ms, 0, 0⟩)
    (h1 : RmRow0 w a1 n1 c1 z1) (h3 : RcRow0 w la ll lc lg) :
    Calls Try.prog 3 #[.slice a1 n1 c1, .slice la ll lc, .int .u64 s, .agg #[.int .i64 mt, .int .i64 ms]] w fun e w' => e = .returned (.bool true) ∧ Below w.heap.size w w' :=
  yruns a1 n1 c1 z1 la ll lc lg s mt ms w hs hm h1.1.1 h1.1.2 h1.2 h3.1 (by have := h3.2; unfold maxLen at this; omega)

set_option maxRecDepth 100000 in
theorem lifted (os : Os) (started : os.Started) (H : Type) (enc : TypeId × Value → H) :
    ReturnsInHanded {} Try.checked os 3 .any (Rows.auditRunsSpec.pre6 enc Try.prog Try.f3 Rows.auditRunsRow.domain false) (Rows.auditRunsSpec.post enc Try.prog Try.f3 false true false false) := by
  refine returnsInHanded_of_change (C := Try.checked) own started (by kernel_rfl) Try.func3
    (ChangeSpec.witness6 (enc := enc) (C := Try.checked) false ⟨#[], #[.slice none 0 0, .slice none 0 0, .int .u64 0, .agg #[.int .i64 0, .int .i64 0]], []⟩ 8 (by kernel_rfl) (by kernel_rfl) (by kernel_rfl) (by kernel_rfl)) ?_
  intro W base args ds gs before hval0 hW hcnd _
  have hval : ∀ (j : Nat) t v, Try.f3.params[j]? = some t → args[j]? = some v → Value.okWide Try.prog W .any base t v := hval0
  have hW' := hW
  obtain ⟨p, q, hA0, hV, rfl, hfz, hnd⟩ := hW
  have hA : DataW.TrodAll enc Try.prog W 0 (fun _ => true) true Try.f3.params.toList args.toList ds p := hA0
  rw [Try.params3] at hA hval
  obtain ⟨v0, vs0, d0, ds0, p0, q0, hargs, rfl, rfl, h0, r0⟩ := trodAll_cons hA
  obtain ⟨v1, vs1, d1, ds1, p1, q1, rfl, rfl, rfl, h1, r1⟩ := trodAll_cons r0
  obtain ⟨v2, vs2, d2, ds2, p2, q2, rfl, rfl, rfl, h2, r2⟩ := trodAll_cons r1
  obtain ⟨v3, vs3, d3, ds3, p3, q3, rfl, rfl, rfl, h3, r3⟩ := trodAll_cons r2
  obtain ⟨rfl, rfl, rfl⟩ := trodAll_nil r3
  obtain rfl : args = #[v0, v1, v2, v3] := by cases args; simp_all
  obtain ⟨rfl, rfl⟩ := trodVars_none hV
  have k0 := h0
  have lt0 : ∀ x ∈ p0, x.block < W.heap.size := by obtain ⟨m, hm⟩ := k0; exact DataW.trod_lt m _ _ _ hm
  obtain ⟨a1, n1, c1, z1, rfl, w0⟩ := open_rooms0 (hval 0 22 v0 rfl rfl) h0
  have k1 := h1
  have lt1 : ∀ x ∈ p1, x.block < W.heap.size := by obtain ⟨m, hm⟩ := k1; exact DataW.trod_lt m _ _ _ hm
  obtain ⟨la, ll, lc, lg, rfl, w1⟩ := open_recs0 (hval 1 23 v1 rfl rfl) h1
  obtain ⟨a2, rfl, rfl, rfl, w2⟩ := open_int Try.underlying24 (hval 2 24 v2 rfl rfl) h2
  have k3 := h3
  have lt3 : ∀ x ∈ p3, x.block < W.heap.size := by obtain ⟨m, hm⟩ := k3; exact DataW.trod_lt m _ _ _ hm
  obtain ⟨mt, ms, rfl, w3⟩ := open_stamp (hval 3 26 v3 rfl rfl) h3
  clear hA0 hval0
  refine (walk a1 n1 c1 z1 la ll lc lg a2 mt ms W (uwf w2) w3 w0 w1).mono fun e W' ⟨he, bel⟩ => ?_
  subst he
  exact ⟨_, rfl, _, _, _, [], _, [], hW', trodAll_mk1 (shut_bool Try.underlying4 _), (trodAll_cons_mk (Below.trod laidOut (by kernel_rfl) (of_decide_eq_true (by kernel_rfl)) k0 bel lt0) (trodAll_cons_mk (Below.trod laidOut (by kernel_rfl) (of_decide_eq_true (by kernel_rfl)) k1 bel lt1) (trodAll_cons_mk (shut_int Try.underlying24 w2) (trodAll_cons_mk (Below.trod laidOut (by kernel_rfl) (of_decide_eq_true (by kernel_rfl)) k3 bel lt3) trodAll_mk0)))), rfl, bel.frame _, fun h => by cases h⟩

end Go.Proofs.Ytcfmbppnghlkaaa.auditRuns
namespace Go.Proofs.Ytcfmbppnghlkaaa

/-- The statement AuditRuns. -/
theorem AuditRunsHolds : Rows.AuditRunsSaid :=
  OpenClaim.holds_of_wide 3 Try.f3 rfl rfl rfl rfl rfl rfl rfl ⟨rfl, rfl, rfl, rfl, rfl⟩ rfl rfl rfl rfl rfl (by kernel_rfl) Try.func3 (by kernel_rfl)
    (of_decide_eq_true (by kernel_rfl)) (by unfold Func.isWrapper; first | (rw [if_pos (by decide +kernel)]; kernel_rfl) | (rw [if_neg (by decide +kernel)]; exact ⟨rfl, rfl⟩))
    (fun os started H enc _ => auditRuns.lifted os started H enc)

end Go.Proofs.Ytcfmbppnghlkaaa
