/- PROVED: for all rows f and all a, b the statement LatticeBounds returns true: lattice.Joins and lattice.Meets answer as the document says (P2.2). No condition. -/
import Derived.Test.YtcfpfddbbhphgaaRows
import Derived.Test.YtcfpfddbbhphgaaLRefC
import Derived.Test.YtcfpfddbbhphgaaLAwake
import Derived.Test.YtcfpfddbbhphgaaRow
import Derived.ProofKit
import Derived.ShutString
import Derived.ChangeOld
namespace Go.Proofs.Ytcfpfddbbhphgaa.latticeBounds
open Go.ChangeShapes Go.WideShapes Go.ChangeAt Go.RowKit

theorem own : ownKnob Try.prog.godebug = none := by kernel_rfl
theorem laidOut : laidOutB Try.prog = true := by kernel_rfl

set_option maxRecDepth 100000 in
set_option maxHeartbeats 4000000 in
theorem walk (a : Option Addr) (la ca : Nat) (z : Nat → Int) (p q : Int) (w : World) (ra : IsRow .u64 w a la ca z) :
    Calls Try.prog 4 #[.slice a la ca, .int .i64 p, .int .i64 q] w fun e w' => e = .returned (.bool true) ∧ Below w.heap.size w w' := by
  obtain ⟨n, hn⟩ : ∃ n, n = min la 17 := ⟨_, rfl⟩
  have hn17 : n ≤ 17 := by omega
  have HA : Hid (Cells w .u64 a n z) := ra.1.mono (by omega)
  have HZ : Hid (Bds n z) := fun j hj => ra.u64 j (by omega)
  have hfa := fun w => few2_any a la ca w ra.2.2.1 ra.2.1
  rw [← hn] at hfa
  clear hn ra
  have h1 := fun w' h => joins_un a n ca z p q w' (by omega) h HZ.out
  have h2 := fun w' h => rjoins_un a n ca z p q w' (by omega) h HZ.out
  have h3 := fun w' h => meets_un a n ca z p q w' (by omega) h HZ.out
  have h4 := fun w' h => rmeets_un a n ca z p q w' (by omega) h HZ.out
  generalize askE n z p q = c at *
  generalize jnV n z p q = x at *
  generalize mtV n z p q = y at *
  go_enter Try.func4, Try.ntmps4
  go_wp2_with fail
  refine (hfa _).mono ?_
  rintro e w1 ⟨rfl, e1⟩
  subst e1
  clear hfa
  go_wp2_with fail
  refine (h1 _ HA.out).mono ?_
  rintro e w2 ⟨rfl, b2⟩
  clear h1
  go_wp2_with fail
  refine (h2 _ (HA.out.below b2)).mono ?_
  rintro e w3 ⟨rfl, b3⟩
  have hb3 := Below.onto b2 b3
  clear h2 b2 b3
  go_wp2_with fail
  refine (h3 _ (HA.out.below hb3)).mono ?_
  rintro e w4 ⟨rfl, b4⟩
  have hb4 := Below.onto hb3 b4
  clear h3 b4 hb3
  go_wp2_with fail
  refine (h4 _ (HA.out.below hb4)).mono ?_
  rintro e w5 ⟨rfl, b5⟩
  have hb5 := Below.onto hb4 b5
  clear h4 b5 hb4
  go_wp2_with fail
  refine (awake_any _).mono ?_
  rintro e w6 ⟨rfl, b6⟩
  go_wp2_with fail
  go_ret
  exact ⟨rfl, Below.onto hb5 b6⟩

set_option maxRecDepth 100000 in
theorem lifted (os : Os) (started : os.Started) (H : Type) (enc : TypeId × Value → H) :
    ReturnsInHanded {} Try.checked os 4 .any (Rows.latticeBoundsSpec.pre6 enc Try.prog Try.f4 Rows.latticeBoundsRow.domain false) (Rows.latticeBoundsSpec.post enc Try.prog Try.f4 false true false false) := by
  refine returnsInHanded_of_change (C := Try.checked) own started (by kernel_rfl) Try.func4
    (ChangeSpec.witness6 (enc := enc) (C := Try.checked) false ⟨#[], #[.slice none 0 0, .int .i64 0, .int .i64 0], []⟩ 8 (by kernel_rfl) (by kernel_rfl) (by kernel_rfl) (by kernel_rfl)) ?_
  intro W base args ds gs before hval0 hW hcnd _
  have hval : ∀ (j : Nat) t v, Try.f4.params[j]? = some t → args[j]? = some v → Value.okWide Try.prog W .any base t v := hval0
  have hW' := hW
  obtain ⟨p, q, hA0, hV, rfl, hfz, hnd⟩ := hW
  have hA : DataW.TrodAll enc Try.prog W 0 (fun _ => true) true Try.f4.params.toList args.toList ds p := hA0
  rw [Try.params4] at hA hval
  obtain ⟨v0, vs0, d0, ds0, p0, q0, hargs, rfl, rfl, h0, r0⟩ := trodAll_cons hA
  obtain ⟨v1, vs1, d1, ds1, p1, q1, rfl, rfl, rfl, h1, r1⟩ := trodAll_cons r0
  obtain ⟨v2, vs2, d2, ds2, p2, q2, rfl, rfl, rfl, h2, r2⟩ := trodAll_cons r1
  obtain ⟨rfl, rfl, rfl⟩ := trodAll_nil r2
  obtain rfl : args = #[v0, v1, v2] := by cases args; simp_all
  obtain ⟨rfl, rfl⟩ := trodVars_none hV
  obtain ⟨a0, len0, cap0, rfl⟩ := okWide_slice Try.underlying22 (hval 0 22 v0 rfl rfl)
  have k0 := h0
  have lt0 : ∀ x ∈ p0, x.block < W.heap.size := by obtain ⟨m, hm⟩ := k0; exact DataW.trod_lt m _ _ _ hm
  obtain ⟨z0, w0⟩ : ∃ z, IsRow .u64 W a0 len0 cap0 z := by
    obtain ⟨fuel, hf⟩ := h0
    rcases open_ints Try.underlying22 Try.underlying34 (by kernel_rfl) hf with ⟨hcs, _⟩ | ⟨x, l, c, zs, hcs, _, hl, hm, hz, _, hcell, hwz⟩
    · simp [Value.cells] at hcs
      obtain ⟨rfl, rfl, rfl⟩ := hcs
      exact ⟨_, isRow_nil _ _⟩
    · simp [Value.cells] at hcs
      obtain ⟨rfl, rfl, rfl⟩ := hcs
      exact ⟨_, isRow_some hl hm (by simpa using hz) hcell hwz⟩
  obtain ⟨a1, rfl, rfl, rfl, w1⟩ := open_int Try.underlying3 (hval 1 3 v1 rfl rfl) h1
  obtain ⟨a2, rfl, rfl, rfl, w2⟩ := open_int Try.underlying3 (hval 2 3 v2 rfl rfl) h2
  clear hA0 hval0
  refine (walk a0 len0 cap0 z0 a1 a2 W w0).mono fun e W' ⟨he, bel⟩ => ?_
  subst he
  exact ⟨_, rfl, _, _, _, [], _, [], hW', trodAll_mk1 (shut_bool Try.underlying4 _), (trodAll_cons_mk (Below.trod laidOut (by kernel_rfl) (of_decide_eq_true (by kernel_rfl)) k0 bel lt0) (trodAll_cons_mk (shut_int Try.underlying3 w1) (trodAll_cons_mk (shut_int Try.underlying3 w2) trodAll_mk0))), rfl, bel.frame _, fun h => by cases h⟩

end Go.Proofs.Ytcfpfddbbhphgaa.latticeBounds
namespace Go.Proofs.Ytcfpfddbbhphgaa

/-- The statement LatticeBounds. -/
theorem LatticeBoundsHolds : Rows.LatticeBoundsSaid :=
  OpenClaim.holds_of_wide 4 Try.f4 rfl rfl rfl rfl rfl rfl rfl ⟨rfl, rfl, rfl, rfl, rfl⟩ rfl rfl rfl rfl rfl (by kernel_rfl) Try.func4 (by kernel_rfl)
    (of_decide_eq_true (by kernel_rfl)) (by unfold Func.isWrapper; first | (rw [if_pos (by decide +kernel)]; kernel_rfl) | (rw [if_neg (by decide +kernel)]; exact ⟨rfl, rfl⟩))
    (fun os started H enc _ => latticeBounds.lifted os started H enc)

end Go.Proofs.Ytcfpfddbbhphgaa
