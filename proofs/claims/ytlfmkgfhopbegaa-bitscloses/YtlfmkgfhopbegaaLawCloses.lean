/- PROVED: for all rows a and every i the statement BitsCloses returns true: bits.Closure and bits.Reach answer as the document says (P1.4). No condition. -/
import Derived.Test.YtlfmkgfhopbegaaRows
import Derived.Test.YtlfmkgfhopbegaaRefClo2
import Derived.Test.YtlfmkgfhopbegaaRow
import Derived.ProofKit
import Derived.ShutString
import Derived.ChangeOld
namespace Go.Proofs.Ytlfmkgfhopbegaa.bitsCloses
open Go.ChangeShapes Go.WideShapes Go.ChangeAt Go.RowKit

theorem own : ownKnob Try.prog.godebug = none := by kernel_rfl
theorem laidOut : laidOutB Try.prog = true := by kernel_rfl

set_option maxRecDepth 100000 in
set_option maxHeartbeats 4000000 in
theorem walk (a : Option Addr) (la ca : Nat) (z : Nat → Int) (i : Int) (w : World) (ra : IsRow .u64 w a la ca z) :
    Calls Try.prog 6 #[.slice a la ca, .int .i64 i] w fun e w' => e = .returned (.bool true) ∧ Below w.heap.size w w' := by
  obtain ⟨n, hn⟩ : ∃ n, n = min la 66 := ⟨_, rfl⟩
  have hn66 : n ≤ 66 := by omega
  have HA : Hid (Cells w .u64 a n z) := ra.1.mono (by omega)
  have HZ : Hid (∀ j, j < n → 0 ≤ z j ∧ z j < 18446744073709551616) := fun j hj => ra.u64 j (by omega)
  have hfa := fun w => few_any a la ca w ra.2.2.1 ra.2.1
  rw [← hn] at hfa
  clear hn ra
  have hcl := fun w' h => closure_un a n ca z w' (by omega) h HZ.out
  have hrcl := fun w' h => rclosure_un a n ca z w' (by omega) h HZ.out
  have hre := fun w' h => reach_un a n ca z i w' (by omega) h HZ.out
  have hrre := fun w' h => rreach_un a n ca z i w' (by omega) h HZ.out
  have hl1 := lenIf_le (chkI n z) n
  generalize chkI n z = c at *
  generalize reachE n z i = d at *
  generalize reachV n z i = x at *
  go_enter Try.func6, Try.ntmps6
  go_wp2_with fail
  refine (hfa _).mono ?_
  rintro e w1 ⟨rfl, e1⟩
  subst e1
  clear hfa
  go_wp2_with fail
  refine (hcl _ HA.out).mono ?_
  rintro e w3 ⟨x1, cx1, rfl, hx1, h3⟩
  have HX1 : Hid (Cells w3 .u64 x1 (lenIf c n) (clo n z)) := hx1
  clear hx1
  go_wp2_with fail
  refine (hrcl _ (HA.out.below h3)).mono ?_
  rintro e w4 ⟨x2, cx2, rfl, hx2, h4⟩
  have HX2 : Hid (Cells w4 .u64 x2 (lenIf c n) (clo n z)) := hx2
  have hb4 := Below.onto h3 h4
  have HX1' : Hid (Cells w4 .u64 x1 (lenIf c n) (clo n z)) := HX1.out.below h4
  clear hx2 h3 h4 HX1
  go_wp2_with fail
  refine (hre _ (HA.out.below hb4)).mono ?_
  rintro e w5 ⟨rfl, h5⟩
  have hb5 := Below.onto hb4 h5
  have HY1 : Hid (Cells w5 .u64 x1 (lenIf c n) (clo n z)) := HX1'.out.below h5
  have HY2 : Hid (Cells w5 .u64 x2 (lenIf c n) (clo n z)) := HX2.out.below h5
  clear h5 hb4 HX1' HX2
  go_wp2_with fail
  refine (hrre _ (HA.out.below hb5)).mono ?_
  rintro e w6 ⟨rfl, h6⟩
  have hb6 := Below.onto hb5 h6
  have HZ1 : Hid (Cells w6 .u64 x1 (lenIf c n) (clo n z)) := HY1.out.below h6
  have HZ2 : Hid (Cells w6 .u64 x2 (lenIf c n) (clo n z)) := HY2.out.below h6
  clear h6 hb5 HY1 HY2
  go_wp2_with fail
  refine (rsame_true x1 x2 (lenIf c n) cx1 cx2 _ _ _ (by omega) HZ1.out HZ2.out (fun _ _ => rfl)).mono ?_
  rintro e w9 ⟨rfl, h9⟩
  have hb9 := Below.onto hb6 h9
  clear h9 hb6 HZ1 HZ2
  go_wp2_with fail
  refine (alive_any _).mono ?_
  rintro e w11 ⟨rfl, h11⟩
  go_wp2_with fail
  go_ret
  exact ⟨rfl, Below.onto hb9 h11⟩

set_option maxRecDepth 100000 in
theorem lifted (os : Os) (started : os.Started) (H : Type) (enc : TypeId × Value → H) :
    ReturnsInHanded {} Try.checked os 6 .any (Rows.bitsClosesSpec.pre6 enc Try.prog Try.f6 Rows.bitsClosesRow.domain false) (Rows.bitsClosesSpec.post enc Try.prog Try.f6 false true false false) := by
  refine returnsInHanded_of_change (C := Try.checked) own started (by kernel_rfl) Try.func6
    (ChangeSpec.witness6 (enc := enc) (C := Try.checked) false ⟨#[], #[.slice none 0 0, .int .i64 0], []⟩ 8 (by kernel_rfl) (by kernel_rfl) (by kernel_rfl) (by kernel_rfl)) ?_
  intro W base args ds gs before hval0 hW hcnd _
  have hval : ∀ (j : Nat) t v, Try.f6.params[j]? = some t → args[j]? = some v → Value.okWide Try.prog W .any base t v := hval0
  have hW' := hW
  obtain ⟨p, q, hA0, hV, rfl, hfz, hnd⟩ := hW
  have hA : DataW.TrodAll enc Try.prog W 0 (fun _ => true) true Try.f6.params.toList args.toList ds p := hA0
  rw [Try.params6] at hA hval
  obtain ⟨v0, vs0, d0, ds0, p0, q0, hargs, rfl, rfl, h0, r0⟩ := trodAll_cons hA
  obtain ⟨v1, vs1, d1, ds1, p1, q1, rfl, rfl, rfl, h1, r1⟩ := trodAll_cons r0
  obtain ⟨rfl, rfl, rfl⟩ := trodAll_nil r1
  obtain rfl : args = #[v0, v1] := by cases args; simp_all
  obtain ⟨rfl, rfl⟩ := trodVars_none hV
  obtain ⟨a0, len0, cap0, rfl⟩ := okWide_slice Try.underlying42 (hval 0 42 v0 rfl rfl)
  have k0 := h0
  have lt0 : ∀ x ∈ p0, x.block < W.heap.size := by obtain ⟨m, hm⟩ := k0; exact DataW.trod_lt m _ _ _ hm
  obtain ⟨z0, w0⟩ : ∃ z, IsRow .u64 W a0 len0 cap0 z := by
    obtain ⟨fuel, hf⟩ := h0
    rcases open_ints Try.underlying42 Try.underlying23 (by kernel_rfl) hf with ⟨hcs, _⟩ | ⟨x, l, c, zs, hcs, _, hl, hm, hz, _, hcell, hwz⟩
    · simp [Value.cells] at hcs
      obtain ⟨rfl, rfl, rfl⟩ := hcs
      exact ⟨_, isRow_nil _ _⟩
    · simp [Value.cells] at hcs
      obtain ⟨rfl, rfl, rfl⟩ := hcs
      exact ⟨_, isRow_some hl hm (by simpa using hz) hcell hwz⟩
  obtain ⟨a1, rfl, rfl, rfl, w1⟩ := open_int Try.underlying3 (hval 1 3 v1 rfl rfl) h1
  clear hA0 hval0
  refine (walk a0 len0 cap0 z0 a1 W w0).mono fun e W' ⟨he, bel⟩ => ?_
  subst he
  exact ⟨_, rfl, _, _, _, [], _, [], hW', trodAll_mk1 (shut_bool Try.underlying4 _), (trodAll_cons_mk (Below.trod laidOut (by kernel_rfl) (of_decide_eq_true (by kernel_rfl)) k0 bel lt0) (trodAll_cons_mk (shut_int Try.underlying3 w1) trodAll_mk0)), rfl, bel.frame _, fun h => by cases h⟩

end Go.Proofs.Ytlfmkgfhopbegaa.bitsCloses
namespace Go.Proofs.Ytlfmkgfhopbegaa

/-- The statement BitsCloses. -/
theorem BitsClosesHolds : Rows.BitsClosesSaid :=
  OpenClaim.holds_of_wide 6 Try.f6 rfl rfl rfl rfl rfl rfl rfl ⟨rfl, rfl, rfl, rfl, rfl⟩ rfl rfl rfl rfl rfl (by kernel_rfl) Try.func6 (by kernel_rfl)
    (of_decide_eq_true (by kernel_rfl)) (by unfold Func.isWrapper; first | (rw [if_pos (by decide +kernel)]; kernel_rfl) | (rw [if_neg (by decide +kernel)]; exact ⟨rfl, rfl⟩))
    (fun os started H enc _ => bitsCloses.lifted os started H enc)

end Go.Proofs.Ytlfmkgfhopbegaa
