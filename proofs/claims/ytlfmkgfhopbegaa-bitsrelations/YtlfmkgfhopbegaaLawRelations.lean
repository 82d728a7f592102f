/- PROVED: for all rows a and b the statement BitsRelations returns true: bits.Check, bits.Turn and bits.Then answer as the document says (P1.3). No condition. -/
import Derived.Test.YtlfmkgfhopbegaaRows
import Derived.Test.YtlfmkgfhopbegaaUn
import Derived.Test.YtlfmkgfhopbegaaRow
import Derived.ProofKit
import Derived.ShutString
import Derived.ChangeOld
namespace Go.Proofs.Ytlfmkgfhopbegaa.bitsRelations
open Go.ChangeShapes Go.WideShapes Go.ChangeAt Go.RowKit

theorem own : ownKnob Try.prog.godebug = none := by kernel_rfl
theorem laidOut : laidOutB Try.prog = true := by kernel_rfl

set_option maxRecDepth 100000 in
set_option maxHeartbeats 4000000 in
theorem walk (a b : Option Addr) (la lb ca cb : Nat) (z y : Nat → Int) (w : World) (ra : IsRow .u64 w a la ca z) (rb : IsRow .u64 w b lb cb y) :
    Calls Try.prog 5 #[.slice a la ca, .slice b lb cb] w fun e w' => e = .returned (.bool true) ∧ Below w.heap.size w w' := by
  have hla := ra.2.2.1
  have hlb := rb.2.2.1
  obtain ⟨n, hn⟩ : ∃ n, n = min la 66 := ⟨_, rfl⟩
  obtain ⟨m, hm⟩ : ∃ m, m = min lb 66 := ⟨_, rfl⟩
  have hn66 : n ≤ 66 := by omega
  have hm66 : m ≤ 66 := by omega
  have HA : Hid (Cells w .u64 a n z) := ra.1.mono (by omega)
  have HB : Hid (Cells w .u64 b m y) := rb.1.mono (by omega)
  have HZ : Hid (∀ j, j < n → 0 ≤ z j ∧ z j < 18446744073709551616) := fun j hj => ra.u64 j (by omega)
  have HY : Hid (∀ j, j < m → 0 ≤ y j ∧ y j < 18446744073709551616) := fun j hj => rb.u64 j (by omega)
  have hfa := few_any a la ca
  have hfb := few_any b lb cb
  have hfa' := fun w => hfa w hla ra.2.1
  have hfb' := fun w => hfb w hlb rb.2.1
  rw [← hn] at hfa'
  rw [← hm] at hfb'
  clear hfa hfb hn hm ra rb hla hlb
  have hcz := fun w' h => check_any a n ca z w' (by omega) h HZ.out
  have hrcz := fun w' h => rcheck_any a n ca z w' (by omega) h HZ.out
  have htz := fun w' h => turn_un a n ca z w' (by omega) h HZ.out
  have hrtz := fun w' h => rturn_un a n ca z w' (by omega) h HZ.out
  have htn := fun w' h h' => then_un a b n m ca cb z y w' (by omega) (by omega) h h' HZ.out HY.out
  have hrtn := fun w' h h' => rthen_un a b n m ca cb z y w' (by omega) (by omega) h h' HZ.out HY.out
  have hl1 := lenIf_le (chkI n z) n
  have hl2 := lenIf_le (thenE n m z y) n
  generalize chkI n z = c at *
  generalize thenE n m z y = d at *
  go_enter Try.func5, Try.ntmps5
  go_wp2_with fail
  refine (hfa' _).mono ?_
  rintro e w1 ⟨rfl, e1⟩
  subst e1
  go_wp2_with fail
  refine (hfb' _).mono ?_
  rintro e w2 ⟨rfl, e2⟩
  subst e2
  clear hfa' hfb'
  go_wp2_with fail
  refine (htz _ HA.out).mono ?_
  rintro e w3 ⟨x1, cx1, rfl, hx1, h3⟩
  have HX1 : Hid (Cells w3 .u64 x1 (lenIf c n) (turnTo z n)) := hx1
  clear hx1
  go_wp2_with fail
  refine (hrtz _ (HA.out.below h3)).mono ?_
  rintro e w4 ⟨x2, cx2, rfl, hx2, h4⟩
  have HX2 : Hid (Cells w4 .u64 x2 (lenIf c n) (turnTo z n)) := hx2
  have hb4 := Below.onto h3 h4
  have HX1' : Hid (Cells w4 .u64 x1 (lenIf c n) (turnTo z n)) := HX1.out.below h4
  clear hx2 h3 h4 HX1
  go_wp2_with fail
  refine (htn _ (HA.out.below hb4) (HB.out.below hb4)).mono ?_
  rintro e w5 ⟨u1, cu1, rfl, hu1, h5⟩
  have HU1 : Hid (Cells w5 .u64 u1 (lenIf d n) (thenTo z y n)) := hu1
  have hb5 := Below.onto hb4 h5
  have HY1 : Hid (Cells w5 .u64 x1 (lenIf c n) (turnTo z n)) := HX1'.out.below h5
  have HY2 : Hid (Cells w5 .u64 x2 (lenIf c n) (turnTo z n)) := HX2.out.below h5
  clear hu1 h5 hb4 HX1' HX2
  go_wp2_with fail
  refine (hrtn _ (HA.out.below hb5) (HB.out.below hb5)).mono ?_
  rintro e w6 ⟨u2, cu2, rfl, hu2, h6⟩
  have HU2 : Hid (Cells w6 .u64 u2 (lenIf d n) (thenTo z y n)) := hu2
  have hb6 := Below.onto hb5 h6
  have HV1 : Hid (Cells w6 .u64 u1 (lenIf d n) (thenTo z y n)) := HU1.out.below h6
  have HZ1 : Hid (Cells w6 .u64 x1 (lenIf c n) (turnTo z n)) := HY1.out.below h6
  have HZ2 : Hid (Cells w6 .u64 x2 (lenIf c n) (turnTo z n)) := HY2.out.below h6
  clear hu2 h6 hb5 HU1 HY1 HY2
  go_wp2_with fail
  refine (hcz _ (HA.out.below hb6)).mono ?_
  rintro e w7 ⟨rfl, e7⟩
  subst e7
  go_wp2_with fail
  refine (hrcz _ (HA.out.below hb6)).mono ?_
  rintro e w8 ⟨rfl, h8⟩
  have hb8 := Below.onto hb6 h8
  have HS1 : Hid (Cells w8 .u64 u1 (lenIf d n) (thenTo z y n)) := HV1.out.below h8
  have HS2 : Hid (Cells w8 .u64 u2 (lenIf d n) (thenTo z y n)) := HU2.out.below h8
  have HT1 : Hid (Cells w8 .u64 x1 (lenIf c n) (turnTo z n)) := HZ1.out.below h8
  have HT2 : Hid (Cells w8 .u64 x2 (lenIf c n) (turnTo z n)) := HZ2.out.below h8
  clear h8 hb6 HV1 HU2 HZ1 HZ2
  go_wp2_with fail
  refine (rsame_true x1 x2 (lenIf c n) cx1 cx2 _ _ _ (by omega) HT1.out HT2.out (fun _ _ => rfl)).mono ?_
  rintro e w9 ⟨rfl, h9⟩
  have hb9 := Below.onto hb8 h9
  have HP1 : Hid (Cells w9 .u64 u1 (lenIf d n) (thenTo z y n)) := HS1.out.below h9
  have HP2 : Hid (Cells w9 .u64 u2 (lenIf d n) (thenTo z y n)) := HS2.out.below h9
  clear h9 hb8 HS1 HS2 HT1 HT2
  go_wp2_with fail
  refine (rsame_true u1 u2 (lenIf d n) cu1 cu2 _ _ _ (by omega) HP1.out HP2.out (fun _ _ => rfl)).mono ?_
  rintro e w10 ⟨rfl, h10⟩
  have hb10 := Below.onto hb9 h10
  clear h10 hb9
  go_wp2_with fail
  refine (alive_any _).mono ?_
  rintro e w11 ⟨rfl, h11⟩
  go_wp2_with fail
  go_ret
  exact ⟨rfl, Below.onto hb10 h11⟩

set_option maxRecDepth 100000 in
theorem lifted (os : Os) (started : os.Started) (H : Type) (enc : TypeId × Value → H) :
    ReturnsInHanded {} Try.checked os 5 .any (Rows.bitsRelationsSpec.pre6 enc Try.prog Try.f5 Rows.bitsRelationsRow.domain false) (Rows.bitsRelationsSpec.post enc Try.prog Try.f5 false true false false) := by
  refine returnsInHanded_of_change (C := Try.checked) own started (by kernel_rfl) Try.func5
    (ChangeSpec.witness6 (enc := enc) (C := Try.checked) false ⟨#[], #[.slice none 0 0, .slice none 0 0], []⟩ 8 (by kernel_rfl) (by kernel_rfl) (by kernel_rfl) (by kernel_rfl)) ?_
  intro W base args ds gs before hval0 hW hcnd _
  have hval : ∀ (j : Nat) t v, Try.f5.params[j]? = some t → args[j]? = some v → Value.okWide Try.prog W .any base t v := hval0
  have hW' := hW
  obtain ⟨p, q, hA0, hV, rfl, hfz, hnd⟩ := hW
  have hA : DataW.TrodAll enc Try.prog W 0 (fun _ => true) true Try.f5.params.toList args.toList ds p := hA0
  rw [Try.params5] at hA hval
  obtain ⟨v0, vs0, d0, ds0, p0, q0, hargs, rfl, rfl, h0, r0⟩ := trodAll_cons hA
  obtain ⟨v1, vs1, d1, ds1, p1, q1, rfl, rfl, rfl, h1, r1⟩ := trodAll_cons r0
  obtain ⟨rfl, rfl, rfl⟩ := trodAll_nil r1
  obtain rfl : args = #[v0, v1] := by cases args; simp_all
  obtain ⟨rfl, rfl⟩ := trodVars_none hV
  obtain ⟨a0, len0, cap0, rfl⟩ := okWide_slice Try.underlying42 (hval 0 42 v0 rfl rfl)
  have k0 := h0
  have lt0 : ∀ x ∈ p0, x.block < W.heap.size := by obtain ⟨m, hm⟩ := k0; exact DataW.trod_lt m _ _ _ hm
  obtain ⟨z0, w0⟩ : ∃ z, IsRow .u64 W a0 len0 cap0 z := by
    obtain ⟨fuel, hf⟩ := h0
    rcases open_ints Try.underlying42 Try.underlying23 (by kernel_rfl) hf with ⟨hcs, _⟩ | ⟨x, l, c, zs, hcs, _, hl, hm, hz, _, hcell, hwz⟩
    · simp [Value.cells] at hcs
      obtain ⟨rfl, rfl, rfl⟩ := hcs
      exact ⟨_, isRow_nil _ _⟩
    · simp [Value.cells] at hcs
      obtain ⟨rfl, rfl, rfl⟩ := hcs
      exact ⟨_, isRow_some hl hm (by simpa using hz) hcell hwz⟩
  obtain ⟨a1, len1, cap1, rfl⟩ := okWide_slice Try.underlying42 (hval 1 42 v1 rfl rfl)
  have k1 := h1
  have lt1 : ∀ x ∈ p1, x.block < W.heap.size := by obtain ⟨m, hm⟩ := k1; exact DataW.trod_lt m _ _ _ hm
  obtain ⟨z1, w1⟩ : ∃ z, IsRow .u64 W a1 len1 cap1 z := by
    obtain ⟨fuel, hf⟩ := h1
    rcases open_ints Try.underlying42 Try.underlying23 (by kernel_rfl) hf with ⟨hcs, _⟩ | ⟨x, l, c, zs, hcs, _, hl, hm, hz, _, hcell, hwz⟩
    · simp [Value.cells] at hcs
      obtain ⟨rfl, rfl, rfl⟩ := hcs
      exact ⟨_, isRow_nil _ _⟩
    · simp [Value.cells] at hcs
      obtain ⟨rfl, rfl, rfl⟩ := hcs
      exact ⟨_, isRow_some hl hm (by simpa using hz) hcell hwz⟩
  clear hA0 hval0
  refine (walk a0 a1 len0 len1 cap0 cap1 z0 z1 W w0 w1).mono fun e W' ⟨he, bel⟩ => ?_
  subst he
  exact ⟨_, rfl, _, _, _, [], _, [], hW', trodAll_mk1 (shut_bool Try.underlying4 _), (trodAll_cons_mk (Below.trod laidOut (by kernel_rfl) (of_decide_eq_true (by kernel_rfl)) k0 bel lt0) (trodAll_cons_mk (Below.trod laidOut (by kernel_rfl) (of_decide_eq_true (by kernel_rfl)) k1 bel lt1) trodAll_mk0)), rfl, bel.frame _, fun h => by cases h⟩

end Go.Proofs.Ytlfmkgfhopbegaa.bitsRelations
namespace Go.Proofs.Ytlfmkgfhopbegaa

/-- The statement BitsRelations. -/
theorem BitsRelationsHolds : Rows.BitsRelationsSaid :=
  OpenClaim.holds_of_wide 5 Try.f5 rfl rfl rfl rfl rfl rfl rfl ⟨rfl, rfl, rfl, rfl, rfl⟩ rfl rfl rfl rfl rfl (by kernel_rfl) Try.func5 (by kernel_rfl)
    (of_decide_eq_true (by kernel_rfl)) (by unfold Func.isWrapper; first | (rw [if_pos (by decide +kernel)]; kernel_rfl) | (rw [if_neg (by decide +kernel)]; exact ⟨rfl, rfl⟩))
    (fun os started H enc _ => bitsRelations.lifted os started H enc)

end Go.Proofs.Ytlfmkgfhopbegaa
