/- PROVED: for all rows f the statement LatticeWholes returns true: lattice.Lattice, lattice.Classes and lattice.Order answer as the document says (P2.3). No condition. -/
import Derived.Test.YtcfpfddbbhphgaaRows
import Derived.Test.YtcfpfddbbhphgaaLRefL
import Derived.Test.YtcfpfddbbhphgaaLCls
import Derived.Test.YtcfpfddbbhphgaaLOrdU
import Derived.Test.YtcfpfddbbhphgaaLAwake
import Derived.Test.YtcfpfddbbhphgaaRow
import Derived.ProofKit
import Derived.ShutString
import Derived.ChangeOld
namespace Go.Proofs.Ytcfpfddbbhphgaa.latticeWholes
open Go.ChangeShapes Go.WideShapes Go.ChangeAt Go.RowKit

theorem own : ownKnob Try.prog.godebug = none := by kernel_rfl
theorem laidOut : laidOutB Try.prog = true := by kernel_rfl


set_option maxRecDepth 100000 in
set_option maxHeartbeats 4000000 in
theorem walk (a : Option Addr) (la ca : Nat) (z : Nat → Int) (w : World) (ra : IsRow .u64 w a la ca z) :
    Calls Try.prog 5 #[.slice a la ca] w fun e w' => e = .returned (.bool true) ∧ Below w.heap.size w w' := by
  obtain ⟨n, hn⟩ : ∃ n, n = min la 17 := ⟨_, rfl⟩
  have hn17 : n ≤ 17 := by omega
  have HA : Hid (Cells w .u64 a n z) := ra.1.mono (by omega)
  have HZ : Hid (Bds n z) := fun j hj => ra.u64 j (by omega)
  have hfa := fun w => few2_any a la ca w ra.2.2.1 ra.2.1
  rw [← hn] at hfa
  clear hn ra
  have h1 := fun w' h => lattice_un a n ca z w' (by omega) h HZ.out
  have h2 := fun w' h => rlattice_un a n ca z w' (by omega) h HZ.out
  have h3 := fun w' h => classes_un a n ca z w' (by omega) h HZ.out
  have h4 := fun w' h => rclasses_un a n ca z w' (by omega) h HZ.out
  have h5 := fun w' h => order_un a n ca z w' (by omega) h HZ.out
  have h6 := fun w' h => rorder_un a n ca z w' (by omega) h HZ.out
  have hlen := clsV_len n z
  generalize clsV n z = L at *
  go_enter Try.func5, Try.ntmps5
  go_wp2_with fail
  refine (hfa _).mono ?_
  rintro e w1 ⟨rfl, e1⟩
  subst e1
  clear hfa
  go_wp2_with fail
  refine (h1 _ HA.out).mono ?_
  rintro e w2 ⟨x, y, ok, rfl, hl, hb2⟩
  have HL : Hid (LatE n z x y ok) := hl
  clear h1 hl
  go_wp2_with fail
  have hb2' := hb2.alloc hb2.size (.cells #[.int .i64 x, .int .i64 y] 38)
  have HPA := pbox_new w2 (.int .i64 x) (.int .i64 y) 38
  refine (h2 _ (HA.out.below hb2')).mono ?_
  rintro e w3 ⟨x', y', ok', rfl, hl', b3⟩
  have hb3' := Below.onto hb2' b3
  obtain ⟨rfl, rfl, rfl⟩ := HL.out.one hl'
  have hb3 := hb3'.alloc hb3'.size (.cells #[.int .i64 x, .int .i64 y] 38)
  have HPA3 := (HPA.below b3).below ((Below.refl _ w3).alloc (Nat.le_refl _) (.cells #[.int .i64 x, .int .i64 y] 38))
  have HPB3 := pbox_new w3 (.int .i64 x) (.int .i64 y) 38
  have HPA4 : Hid (PBox _ _ _ _) := HPA3
  have HPB4 : Hid (PBox _ _ _ _) := HPB3
  clear h2 hl' hb2 hb2' b3 HL HPA HPA3 HPB3
  go_wp2_with fail
  refine (h3 _ (HA.out.below hb3)).mono ?_
  rintro e w4 ⟨c1, cc1, rfl, hc1, b4⟩
  have hb4 := Below.onto hb3 b4
  have HPA5 : Hid (PBox w4 w2.heap.size (.int .i64 x) (.int .i64 y)) := HPA4.out.below b4
  have HPB5 : Hid (PBox w4 w3.heap.size (.int .i64 x) (.int .i64 y)) := HPB4.out.below b4
  clear HPA4 HPB4 hb3'
  have HC1 : Hid (Cells w4 .u64 c1 L.length (nthZ L)) := hc1
  clear h3 hc1 hb3 b4
  go_wp2_with fail
  refine (h4 _ (HA.out.below hb4)).mono ?_
  rintro e w5 ⟨c2, cc2, rfl, hc2, b5⟩
  have hb5 := Below.onto hb4 b5
  have HC2 : Hid (Cells w5 .u64 c2 L.length (nthZ L)) := hc2
  have HD1 : Hid (Cells w5 .u64 c1 L.length (nthZ L)) := HC1.out.below b5
  have HPA6 : Hid (PBox w5 w2.heap.size (.int .i64 x) (.int .i64 y)) := HPA5.out.below b5
  have HPB6 : Hid (PBox w5 w3.heap.size (.int .i64 x) (.int .i64 y)) := HPB5.out.below b5
  clear HPA5 HPB5
  clear h4 hc2 hb4 b5 HC1
  go_wp2_with fail
  refine (h5 _ (HA.out.below hb5)).mono ?_
  rintro e w6 ⟨o1, co1, L1, rfl, ho1, hL1, b6⟩
  have hb6 := Below.onto hb5 b6
  have HO1 : Hid (Cells w6 .i64 o1 L1.length (natAt L1)) := ho1
  have HL1 : Hid ((polE n z ≠ 0 ∧ L1 = []) ∨ (polE n z = 0 ∧ ∃ s, OrdIs n z n L1 s)) := hL1
  clear h5 ho1 hb5 hL1
  go_wp2_with fail
  refine (h6 _ (HA.out.below hb6)).mono ?_
  rintro e w7 ⟨o2, co2, L2, rfl, ho2, hL2, b7⟩
  have hb7 := Below.onto hb6 b7
  have b67 := Below.onto b6 b7
  obtain rfl := ord_same HL1.out hL2
  have hl17 := ord_len hn17 HL1.out
  have HO2 : Hid (Cells w7 .i64 o2 L2.length (natAt L2)) := ho2
  have HP1 : Hid (Cells w7 .i64 o1 L2.length (natAt L2)) := HO1.out.below b7
  have HD2 : Hid (Cells w7 .u64 c2 L.length (nthZ L)) := HC2.out.below b67
  have HPA7 := HPA6.out.below b67
  have HPB7 := HPB6.out.below b67
  have HE1 : Hid (Cells w7 .u64 c1 L.length (nthZ L)) := HD1.out.below b67
  clear h6 ho2 hb6 b6 b7 b67 HO1 HC2 HD1 hL2 HL1
  generalize polE n z = pe at *
  obtain ⟨p1, p2⟩ := HPA7
  obtain ⟨p3, p4⟩ := HPB7
  clear HPA6 HPB6
  go_wp2_with fail
  clear p1 p2 p3 p4
  refine (rsame2_true c1 c2 L.length cc1 cc2 _ _ _ (by omega) HE1.out HD2.out (fun _ _ => rfl)).mono ?_
  rintro e w8 ⟨rfl, b8⟩
  have hb8 := Below.onto hb7 b8
  have HX1 : Hid (Cells w8 .i64 o1 L2.length (natAt L2)) := HP1.out.below b8
  have HX2 : Hid (Cells w8 .i64 o2 L2.length (natAt L2)) := HO2.out.below b8
  clear hb7 b8 HP1 HO2 HE1 HD2
  go_wp2_with fail
  refine (sameInts_true o1 o2 L2.length co1 co2 _ _ (by omega) HX1.out HX2.out).mono ?_
  rintro e w9 ⟨rfl, b9⟩
  have hb9 := Below.onto hb8 b9
  clear hb8 b9 HX1 HX2
  go_wp2_with fail
  refine (awake_any _).mono ?_
  rintro e w10 ⟨rfl, b10⟩
  go_wp2_with fail
  go_ret
  exact ⟨rfl, Below.onto hb9 b10⟩

set_option maxRecDepth 100000 in
theorem lifted (os : Os) (started : os.Started) (H : Type) (enc : TypeId × Value → H) :
    ReturnsInHanded {} Try.checked os 5 .any (Rows.latticeWholesSpec.pre6 enc Try.prog Try.f5 Rows.latticeWholesRow.domain false) (Rows.latticeWholesSpec.post enc Try.prog Try.f5 false true false false) := by
  refine returnsInHanded_of_change (C := Try.checked) own started (by kernel_rfl) Try.func5
    (ChangeSpec.witness6 (enc := enc) (C := Try.checked) false ⟨#[], #[.slice none 0 0], []⟩ 8 (by kernel_rfl) (by kernel_rfl) (by kernel_rfl) (by kernel_rfl)) ?_
  intro W base args ds gs before hval0 hW hcnd _
  have hval : ∀ (j : Nat) t v, Try.f5.params[j]? = some t → args[j]? = some v → Value.okWide Try.prog W .any base t v := hval0
  have hW' := hW
  obtain ⟨p, q, hA0, hV, rfl, hfz, hnd⟩ := hW
  have hA : DataW.TrodAll enc Try.prog W 0 (fun _ => true) true Try.f5.params.toList args.toList ds p := hA0
  rw [Try.params5] at hA hval
  obtain ⟨v0, vs0, d0, ds0, p0, q0, hargs, rfl, rfl, h0, r0⟩ := trodAll_cons hA
  obtain ⟨rfl, rfl, rfl⟩ := trodAll_nil r0
  obtain rfl : args = #[v0] := by cases args; simp_all
  obtain ⟨rfl, rfl⟩ := trodVars_none hV
  obtain ⟨a0, len0, cap0, rfl⟩ := okWide_slice Try.underlying22 (hval 0 22 v0 rfl rfl)
  have k0 := h0
  have lt0 : ∀ x ∈ p0, x.block < W.heap.size := by obtain ⟨m, hm⟩ := k0; exact DataW.trod_lt m _ _ _ hm
  obtain ⟨z0, w0⟩ : ∃ z, IsRow .u64 W a0 len0 cap0 z := by
    obtain ⟨fuel, hf⟩ := h0
    rcases open_ints Try.underlying22 Try.underlying34 (by kernel_rfl) hf with ⟨hcs, _⟩ | ⟨x, l, c, zs, hcs, _, hl, hm, hz, _, hcell, hwz⟩
    · simp [Value.cells] at hcs
      obtain ⟨rfl, rfl, rfl⟩ := hcs
      exact ⟨_, isRow_nil _ _⟩
    · simp [Value.cells] at hcs
      obtain ⟨rfl, rfl, rfl⟩ := hcs
      exact ⟨_, isRow_some hl hm (by simpa using hz) hcell hwz⟩
  clear hA0 hval0
  refine (walk a0 len0 cap0 z0 W w0).mono fun e W' ⟨he, bel⟩ => ?_
  subst he
  exact ⟨_, rfl, _, _, _, [], _, [], hW', trodAll_mk1 (shut_bool Try.underlying4 _), (trodAll_cons_mk (Below.trod laidOut (by kernel_rfl) (of_decide_eq_true (by kernel_rfl)) k0 bel lt0) trodAll_mk0), rfl, bel.frame _, fun h => by cases h⟩

end Go.Proofs.Ytcfpfddbbhphgaa.latticeWholes
namespace Go.Proofs.Ytcfpfddbbhphgaa

/-- The statement LatticeWholes. -/
theorem LatticeWholesHolds : Rows.LatticeWholesSaid :=
  OpenClaim.holds_of_wide 5 Try.f5 rfl rfl rfl rfl rfl rfl rfl ⟨rfl, rfl, rfl, rfl, rfl⟩ rfl rfl rfl rfl rfl (by kernel_rfl) Try.func5 (by kernel_rfl)
    (of_decide_eq_true (by kernel_rfl)) (by unfold Func.isWrapper; first | (rw [if_pos (by decide +kernel)]; kernel_rfl) | (rw [if_neg (by decide +kernel)]; exact ⟨rfl, rfl⟩))
    (fun os started H enc _ => latticeWholes.lifted os started H enc)

end Go.Proofs.Ytcfpfddbbhphgaa
