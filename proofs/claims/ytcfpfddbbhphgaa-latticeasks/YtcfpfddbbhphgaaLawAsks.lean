/- PROVED: for all rows f and all a, b the statement LatticeAsks returns true: lattice.Check, lattice.Missing and lattice.Flows answer as the document says (P2.1, P2.2). No condition. -/
import Derived.Test.YtcfpfddbbhphgaaRows
import Derived.Test.YtcfpfddbbhphgaaLFlows
import Derived.Test.YtcfpfddbbhphgaaLMissU
import Derived.Test.YtcfpfddbbhphgaaRow
import Derived.ProofKit
import Derived.ShutString
import Derived.ChangeOld
namespace Go.Proofs.Ytcfpfddbbhphgaa.latticeAsks
open Go.ChangeShapes Go.WideShapes Go.ChangeAt Go.RowKit

theorem own : ownKnob Try.prog.godebug = none := by kernel_rfl
theorem laidOut : laidOutB Try.prog = true := by kernel_rfl

set_option maxRecDepth 100000 in
set_option maxHeartbeats 4000000 in
theorem walk (a : Option Addr) (la ca : Nat) (z : Nat → Int) (p q : Int) (w : World) (ra : IsRow .u64 w a la ca z) :
    Calls Try.prog 3 #[.slice a la ca, .int .i64 p, .int .i64 q] w fun e w' => e = .returned (.bool true) ∧ Below w.heap.size w w' := by
  obtain ⟨n, hn⟩ : ∃ n, n = min la 17 := ⟨_, rfl⟩
  have hn17 : n ≤ 17 := by omega
  have HA : Hid (Cells w .u64 a n z) := ra.1.mono (by omega)
  have HZ : Hid (Bds n z) := fun j hj => ra.u64 j (by omega)
  have hfa := fun w => few2_any a la ca w ra.2.2.1 ra.2.1
  rw [← hn] at hfa
  clear hn ra
  have h1 := fun w' h => missing_un a n ca z w' (by omega) h HZ.out
  have h2 := fun w' h => rmissing_un a n ca z w' (by omega) h HZ.out
  have h3 := fun w' h => flows_un a n ca z p q w' (by omega) h HZ.out
  have h4 := fun w' h => rflows_un a n ca z p q w' (by omega) h HZ.out
  have h5 := fun w' h => check2_un a n ca z w' (by omega) h HZ.out
  have h6 := fun w' h => rcheck2_un a n ca z w' (by omega) h HZ.out
  have hlen := msV_len hn17 z
  generalize askE n z p q = c at *
  generalize flV n z p q = x at *
  generalize polE n z = d at *
  generalize shpE n z = s at *
  generalize msV n z = L at *
  go_enter Try.func3, Try.ntmps3
  go_wp2_with fail
  refine (hfa _).mono ?_
  rintro e w1 ⟨rfl, e1⟩
  subst e1
  clear hfa
  go_wp2_with fail
  refine (h1 _ HA.out).mono ?_
  rintro e w2 ⟨x1, cx1, rfl, hx1, b2⟩
  have HX1 : Hid (FCells w2 x1 L.length (fstAt L) (sndAt L)) := hx1
  clear h1 hx1
  go_wp2_with fail
  refine (h2 _ (HA.out.below b2)).mono ?_
  rintro e w3 ⟨x2, cx2, rfl, hx2, b3⟩
  have HX2 : Hid (FCells w3 x2 L.length (fstAt L) (sndAt L)) := hx2
  have HY1 : Hid (FCells w3 x1 L.length (fstAt L) (sndAt L)) := HX1.out.below b3
  have hb3 := Below.onto b2 b3
  clear h2 b2 b3 hx2 HX1
  go_wp2_with fail
  refine (h3 _ (HA.out.below hb3)).mono ?_
  rintro e w4 ⟨rfl, b4⟩
  have hb4 := Below.onto hb3 b4
  clear h3 hb3
  go_wp2_with fail
  refine (h4 _ (HA.out.below hb4)).mono ?_
  rintro e w5 ⟨rfl, b5⟩
  have hb5 := Below.onto hb4 b5
  have b45 := Below.onto b4 b5
  clear h4 b5 b4 hb4
  go_wp2_with fail
  refine (h5 _ (HA.out.below hb5)).mono ?_
  rintro e w6 ⟨rfl, b6⟩
  have hb6 := Below.onto hb5 b6
  have b46 := Below.onto b45 b6
  clear h5 b6 hb5 b45
  go_wp2_with fail
  refine (h6 _ (HA.out.below hb6)).mono ?_
  rintro e w7 ⟨rfl, b7⟩
  have hb7 := Below.onto hb6 b7
  have b47 := Below.onto b46 b7
  have HZ1 : Hid (FCells w7 x1 L.length (fstAt L) (sndAt L)) := HY1.out.below b47
  have HZ2 : Hid (FCells w7 x2 L.length (fstAt L) (sndAt L)) := HX2.out.below b47
  clear h6 b7 hb6 b46 b47 HY1 HX2
  go_wp2_with fail
  refine (sameFlows_true x1 x2 L.length cx1 cx2 _ _ _ (by omega) HZ1.out HZ2.out).mono ?_
  rintro e w8 ⟨rfl, b8⟩
  have hb8 := Below.onto hb7 b8
  clear b8 hb7 HZ1 HZ2
  go_wp2_with fail
  refine (awake_any _).mono ?_
  rintro e w9 ⟨rfl, b9⟩
  go_wp2_with fail
  go_ret
  exact ⟨rfl, Below.onto hb8 b9⟩

set_option maxRecDepth 100000 in
theorem lifted (os : Os) (started : os.Started) (H : Type) (enc : TypeId × Value → H) :
    ReturnsInHanded {} Try.checked os 3 .any (Rows.latticeAsksSpec.pre6 enc Try.prog Try.f3 Rows.latticeAsksRow.domain false) (Rows.latticeAsksSpec.post enc Try.prog Try.f3 false true false false) := by
  refine returnsInHanded_of_change (C := Try.checked) own started (by kernel_rfl) Try.func3
    (ChangeSpec.witness6 (enc := enc) (C := Try.checked) false ⟨#[], #[.slice none 0 0, .int .i64 0, .int .i64 0], []⟩ 8 (by kernel_rfl) (by kernel_rfl) (by kernel_rfl) (by kernel_rfl)) ?_
  intro W base args ds gs before hval0 hW hcnd _
  have hval : ∀ (j : Nat) t v, Try.f3.params[j]? = some t → args[j]? = some v → Value.okWide Try.prog W .any base t v := hval0
  have hW' := hW
  obtain ⟨p, q, hA0, hV, rfl, hfz, hnd⟩ := hW
  have hA : DataW.TrodAll enc Try.prog W 0 (fun _ => true) true Try.f3.params.toList args.toList ds p := hA0
  rw [Try.params3] at hA hval
  obtain ⟨v0, vs0, d0, ds0, p0, q0, hargs, rfl, rfl, h0, r0⟩ := trodAll_cons hA
  obtain ⟨v1, vs1, d1, ds1, p1, q1, rfl, rfl, rfl, h1, r1⟩ := trodAll_cons r0
  obtain ⟨v2, vs2, d2, ds2, p2, q2, rfl, rfl, rfl, h2, r2⟩ := trodAll_cons r1
  obtain ⟨rfl, rfl, rfl⟩ := trodAll_nil r2
  obtain rfl : args = #[v0, v1, v2] := by cases args; simp_all
  obtain ⟨rfl, rfl⟩ := trodVars_none hV
  obtain ⟨a0, len0, cap0, rfl⟩ := okWide_slice Try.underlying22 (hval 0 22 v0 rfl rfl)
  have k0 := h0
  have lt0 : ∀ x ∈ p0, x.block < W.heap.size := by obtain ⟨m, hm⟩ := k0; exact DataW.trod_lt m _ _ _ hm
  obtain ⟨z0, w0⟩ : ∃ z, IsRow .u64 W a0 len0 cap0 z := by
    obtain ⟨fuel, hf⟩ := h0
    rcases open_ints Try.underlying22 Try.underlying34 (by kernel_rfl) hf with ⟨hcs, _⟩ | ⟨x, l, c, zs, hcs, _, hl, hm, hz, _, hcell, hwz⟩
    · simp [Value.cells] at hcs
      obtain ⟨rfl, rfl, rfl⟩ := hcs
      exact ⟨_, isRow_nil _ _⟩
    · simp [Value.cells] at hcs
      obtain ⟨rfl, rfl, rfl⟩ := hcs
      exact ⟨_, isRow_some hl hm (by simpa using hz) hcell hwz⟩
  obtain ⟨a1, rfl, rfl, rfl, w1⟩ := open_int Try.underlying3 (hval 1 3 v1 rfl rfl) h1
  obtain ⟨a2, rfl, rfl, rfl, w2⟩ := open_int Try.underlying3 (hval 2 3 v2 rfl rfl) h2
  clear hA0 hval0
  refine (walk a0 len0 cap0 z0 a1 a2 W w0).mono fun e W' ⟨he, bel⟩ => ?_
  subst he
  exact ⟨_, rfl, _, _, _, [], _, [], hW', trodAll_mk1 (shut_bool Try.underlying4 _), (trodAll_cons_mk (Below.trod laidOut (by kernel_rfl) (of_decide_eq_true (by kernel_rfl)) k0 bel lt0) (trodAll_cons_mk (shut_int Try.underlying3 w1) (trodAll_cons_mk (shut_int Try.underlying3 w2) trodAll_mk0))), rfl, bel.frame _, fun h => by cases h⟩

end Go.Proofs.Ytcfpfddbbhphgaa.latticeAsks
namespace Go.Proofs.Ytcfpfddbbhphgaa

/-- The statement LatticeAsks. -/
theorem LatticeAsksHolds : Rows.LatticeAsksSaid :=
  OpenClaim.holds_of_wide 3 Try.f3 rfl rfl rfl rfl rfl rfl rfl ⟨rfl, rfl, rfl, rfl, rfl⟩ rfl rfl rfl rfl rfl (by kernel_rfl) Try.func3 (by kernel_rfl)
    (of_decide_eq_true (by kernel_rfl)) (by unfold Func.isWrapper; first | (rw [if_pos (by decide +kernel)]; kernel_rfl) | (rw [if_neg (by decide +kernel)]; exact ⟨rfl, rfl⟩))
    (fun os started H enc _ => latticeAsks.lifted os started H enc)

end Go.Proofs.Ytcfpfddbbhphgaa
