/- PROVED: for all k and all rows f, g the statement LatticeMakes returns true: lattice.Power and lattice.Product answer as the document says (P2.4). No condition. -/
import Derived.Test.YtcfpfddbbhphgaaRows
import Derived.Test.YtcfpfddbbhphgaaLProdU
import Derived.Test.YtcfpfddbbhphgaaLAwake
import Derived.Test.YtcfpfddbbhphgaaRow
import Derived.ProofKit
import Derived.ShutString
import Derived.ChangeOld
namespace Go.Proofs.Ytcfpfddbbhphgaa.latticeMakes
open Go.ChangeShapes Go.WideShapes Go.ChangeAt Go.RowKit

theorem own : ownKnob Try.prog.godebug = none := by kernel_rfl
theorem laidOut : laidOutB Try.prog = true := by kernel_rfl


set_option maxRecDepth 100000 in
set_option maxHeartbeats 4000000 in
theorem walk (k : Int) (a b : Option Addr) (la ca lb cb : Nat) (z y : Nat → Int) (w : World) (ra : IsRow .u64 w a la ca z) (rb : IsRow .u64 w b lb cb y) :
    Calls Try.prog 6 #[.int .i64 k, .slice a la ca, .slice b lb cb] w fun e w' => e = .returned (.bool true) ∧ Below w.heap.size w w' := by
  obtain ⟨n, hn⟩ : ∃ n, n = min la 17 := ⟨_, rfl⟩
  obtain ⟨m, hm⟩ : ∃ m, m = min lb 17 := ⟨_, rfl⟩
  have hn17 : n ≤ 17 := by omega
  have hm17 : m ≤ 17 := by omega
  have HA : Hid (Cells w .u64 a n z) := ra.1.mono (by omega)
  have HB : Hid (Cells w .u64 b m y) := rb.1.mono (by omega)
  have HZ : Hid (Bds n z) := fun j hj => ra.u64 j (by omega)
  have HY : Hid (Bds m y) := fun j hj => rb.u64 j (by omega)
  have hfa := fun w => few2_any a la ca w ra.2.2.1 ra.2.1
  have hfb := fun w => few2_any b lb cb w rb.2.2.1 rb.2.1
  rw [← hn] at hfa
  rw [← hm] at hfb
  clear hn hm ra rb
  have h1 := fun w' => power_un k w'
  have h2 := fun w' => rpower_un k w'
  have h3 := fun w' h h' => product_un a b n m ca cb z y w' (by omega) (by omega) h h' HZ.out HY.out
  have h4 := fun w' h h' => rproduct_un a b n m ca cb z y w' (by omega) (by omega) h h' HZ.out HY.out
  have hN : lenIf (pwrE k) (2 ^ k.toNat) ≤ 16 := by
    by_cases h : 0 ≤ k ∧ k ≤ 4
    · rw [pwrE_ok h.1 h.2]
      have : (2 : Nat) ^ k.toNat ≤ 2 ^ 4 := Nat.pow_le_pow_right (by decide) (by omega)
      unfold lenIf; simp; omega
    · rw [pwrE_bad (by omega)]; simp [lenIf]
  have hM : lenIf (prdE n m z y) (n * m) ≤ 289 := by
    have := lenIf_le (prdE n m z y) (n * m)
    have : n * m ≤ 17 * 17 := Nat.mul_le_mul hn17 hm17
    omega
  generalize prdE n m z y = c at *
  generalize prod n m z y = G at *
  generalize pwrE k = d at *
  generalize pw (2 ^ k.toNat) = P at *
  go_enter Try.func6, Try.ntmps6
  go_wp2_with fail
  refine (hfa _).mono ?_
  rintro e w1 ⟨rfl, e1⟩
  subst e1
  clear hfa
  go_wp2_with fail
  refine (hfb _).mono ?_
  rintro e w1 ⟨rfl, e1⟩
  subst e1
  clear hfb
  go_wp2_with fail
  refine (h1 _).mono ?_
  rintro e w2 ⟨x1, cx1, rfl, hx1, b2⟩
  have HX1 : Hid (Cells w2 .u64 x1 (lenIf d (2 ^ k.toNat)) P) := hx1
  clear h1 hx1
  go_wp2_with fail
  refine (h2 _).mono ?_
  rintro e w3 ⟨x2, cx2, rfl, hx2, b3⟩
  have HX2 : Hid (Cells w3 .u64 x2 (lenIf d (2 ^ k.toNat)) P) := hx2
  have HY1 : Hid (Cells w3 .u64 x1 (lenIf d (2 ^ k.toNat)) P) := HX1.out.below b3
  have hb3 := Below.onto b2 b3
  clear h2 b2 b3 hx2 HX1
  generalize lenIf d (2 ^ k.toNat) = N at *
  go_wp2_with fail
  refine (h3 _ (HA.out.below hb3) (HB.out.below hb3)).mono ?_
  rintro e w4 ⟨y1, cy1, rfl, hy1, b4⟩
  have HW1 : Hid (Cells w4 .u64 y1 (lenIf c (n * m)) G) := hy1
  have hb4 := Below.onto hb3 b4
  clear h3 hb3 hy1
  go_wp2_with fail
  refine (h4 _ (HA.out.below hb4) (HB.out.below hb4)).mono ?_
  rintro e w5 ⟨y2, cy2, rfl, hy2, b5⟩
  have HW2 : Hid (Cells w5 .u64 y2 (lenIf c (n * m)) G) := hy2
  have HV1 : Hid (Cells w5 .u64 y1 (lenIf c (n * m)) G) := HW1.out.below b5
  have hb5 := Below.onto hb4 b5
  have b45 := Below.onto b4 b5
  have HXX1 : Hid (Cells w5 .u64 x1 N P) := HY1.out.below b45
  have HXX2 : Hid (Cells w5 .u64 x2 N P) := HX2.out.below b45
  clear h4 b5 b4 hb4 hy2 HW1 HY1 HX2 b45
  generalize lenIf c (n * m) = M at *
  go_wp2_with fail
  refine (rsame2_true x1 x2 N cx1 cx2 _ _ _ (by omega) HXX1.out HXX2.out (fun _ _ => rfl)).mono ?_
  rintro e w6 ⟨rfl, b6⟩
  have hb6 := Below.onto hb5 b6
  have HV1' : Hid (Cells w6 .u64 y1 M G) := HV1.out.below b6
  have HV2' : Hid (Cells w6 .u64 y2 M G) := HW2.out.below b6
  clear b6 hb5 HXX1 HXX2 HV1 HW2
  go_wp2_with fail
  refine (rsame2_true y1 y2 M cy1 cy2 _ _ _ (by omega) HV1'.out HV2'.out (fun _ _ => rfl)).mono ?_
  rintro e w7 ⟨rfl, b7⟩
  have hb7 := Below.onto hb6 b7
  clear b7 hb6 HV1' HV2'
  go_wp2_with fail
  refine (awake_any _).mono ?_
  rintro e w8 ⟨rfl, b8⟩
  go_wp2_with fail
  go_ret
  exact ⟨rfl, Below.onto hb7 b8⟩

set_option maxRecDepth 100000 in
theorem lifted (os : Os) (started : os.Started) (H : Type) (enc : TypeId × Value → H) :
    ReturnsInHanded {} Try.checked os 6 .any (Rows.latticeMakesSpec.pre6 enc Try.prog Try.f6 Rows.latticeMakesRow.domain false) (Rows.latticeMakesSpec.post enc Try.prog Try.f6 false true false false) := by
  refine returnsInHanded_of_change (C := Try.checked) own started (by kernel_rfl) Try.func6
    (ChangeSpec.witness6 (enc := enc) (C := Try.checked) false ⟨#[], #[.int .i64 0, .slice none 0 0, .slice none 0 0], []⟩ 8 (by kernel_rfl) (by kernel_rfl) (by kernel_rfl) (by kernel_rfl)) ?_
  intro W base args ds gs before hval0 hW hcnd _
  have hval : ∀ (j : Nat) t v, Try.f6.params[j]? = some t → args[j]? = some v → Value.okWide Try.prog W .any base t v := hval0
  have hW' := hW
  obtain ⟨p, q, hA0, hV, rfl, hfz, hnd⟩ := hW
  have hA : DataW.TrodAll enc Try.prog W 0 (fun _ => true) true Try.f6.params.toList args.toList ds p := hA0
  rw [Try.params6] at hA hval
  obtain ⟨v0, vs0, d0, ds0, p0, q0, hargs, rfl, rfl, h0, r0⟩ := trodAll_cons hA
  obtain ⟨v1, vs1, d1, ds1, p1, q1, rfl, rfl, rfl, h1, r1⟩ := trodAll_cons r0
  obtain ⟨v2, vs2, d2, ds2, p2, q2, rfl, rfl, rfl, h2, r2⟩ := trodAll_cons r1
  obtain ⟨rfl, rfl, rfl⟩ := trodAll_nil r2
  obtain rfl : args = #[v0, v1, v2] := by cases args; simp_all
  obtain ⟨rfl, rfl⟩ := trodVars_none hV
  obtain ⟨a0, rfl, rfl, rfl, w0⟩ := open_int Try.underlying3 (hval 0 3 v0 rfl rfl) h0
  obtain ⟨a1, len1, cap1, rfl⟩ := okWide_slice Try.underlying22 (hval 1 22 v1 rfl rfl)
  have k1 := h1
  have lt1 : ∀ x ∈ p1, x.block < W.heap.size := by obtain ⟨m, hm⟩ := k1; exact DataW.trod_lt m _ _ _ hm
  obtain ⟨z1, w1⟩ : ∃ z, IsRow .u64 W a1 len1 cap1 z := by
    obtain ⟨fuel, hf⟩ := h1
    rcases open_ints Try.underlying22 Try.underlying34 (by kernel_rfl) hf with ⟨hcs, _⟩ | ⟨x, l, c, zs, hcs, _, hl, hm, hz, _, hcell, hwz⟩
    · simp [Value.cells] at hcs
      obtain ⟨rfl, rfl, rfl⟩ := hcs
      exact ⟨_, isRow_nil _ _⟩
    · simp [Value.cells] at hcs
      obtain ⟨rfl, rfl, rfl⟩ := hcs
      exact ⟨_, isRow_some hl hm (by simpa using hz) hcell hwz⟩
  obtain ⟨a2, len2, cap2, rfl⟩ := okWide_slice Try.underlying22 (hval 2 22 v2 rfl rfl)
  have k2 := h2
  have lt2 : ∀ x ∈ p2, x.block < W.heap.size := by obtain ⟨m, hm⟩ := k2; exact DataW.trod_lt m _ _ _ hm
  obtain ⟨z2, w2⟩ : ∃ z, IsRow .u64 W a2 len2 cap2 z := by
    obtain ⟨fuel, hf⟩ := h2
    rcases open_ints Try.underlying22 Try.underlying34 (by kernel_rfl) hf with ⟨hcs, _⟩ | ⟨x, l, c, zs, hcs, _, hl, hm, hz, _, hcell, hwz⟩
    · simp [Value.cells] at hcs
      obtain ⟨rfl, rfl, rfl⟩ := hcs
      exact ⟨_, isRow_nil _ _⟩
    · simp [Value.cells] at hcs
      obtain ⟨rfl, rfl, rfl⟩ := hcs
      exact ⟨_, isRow_some hl hm (by simpa using hz) hcell hwz⟩
  clear hA0 hval0
  refine (walk a0 a1 a2 len1 cap1 len2 cap2 z1 z2 W w1 w2).mono fun e W' ⟨he, bel⟩ => ?_
  subst he
  exact ⟨_, rfl, _, _, _, [], _, [], hW', trodAll_mk1 (shut_bool Try.underlying4 _), (trodAll_cons_mk (shut_int Try.underlying3 w0) (trodAll_cons_mk (Below.trod laidOut (by kernel_rfl) (of_decide_eq_true (by kernel_rfl)) k1 bel lt1) (trodAll_cons_mk (Below.trod laidOut (by kernel_rfl) (of_decide_eq_true (by kernel_rfl)) k2 bel lt2) trodAll_mk0))), rfl, bel.frame _, fun h => by cases h⟩

end Go.Proofs.Ytcfpfddbbhphgaa.latticeMakes
namespace Go.Proofs.Ytcfpfddbbhphgaa

/-- The statement LatticeMakes. -/
theorem LatticeMakesHolds : Rows.LatticeMakesSaid :=
  OpenClaim.holds_of_wide 6 Try.f6 rfl rfl rfl rfl rfl rfl rfl ⟨rfl, rfl, rfl, rfl, rfl⟩ rfl rfl rfl rfl rfl (by kernel_rfl) Try.func6 (by kernel_rfl)
    (of_decide_eq_true (by kernel_rfl)) (by unfold Func.isWrapper; first | (rw [if_pos (by decide +kernel)]; kernel_rfl) | (rw [if_neg (by decide +kernel)]; exact ⟨rfl, rfl⟩))
    (fun os started H enc _ => latticeMakes.lifted os started H enc)

end Go.Proofs.Ytcfpfddbbhphgaa
