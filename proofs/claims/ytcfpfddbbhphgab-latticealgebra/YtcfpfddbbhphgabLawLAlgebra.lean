/- PROVED: for all rows f and all a, b, c the statement LatticeAlgebra returns true: in a lattice joins may be taken in any order, and a join of a label and a meet of it is equal to it (P2.7). No condition. -/
import Derived.Test.YtcfpfddbbhphgabRows
import Derived.Test.YtcfpfddbbhphgabLAlg
import Derived.Test.YtcfpfddbbhphgabLRefL
import Derived.Test.YtcfpfddbbhphgabLAwake
import Derived.Test.YtcfpfddbbhphgabRow
import Derived.ProofKit
import Derived.ShutString
import Derived.ChangeOld
namespace Go.Proofs.Ytcfpfddbbhphgab.latticeAlgebra
open Go.ChangeShapes Go.WideShapes Go.ChangeAt Go.RowKit

theorem own : ownKnob Try.prog.godebug = none := by kernel_rfl
theorem laidOut : laidOutB Try.prog = true := by kernel_rfl


set_option maxRecDepth 100000 in
set_option maxHeartbeats 8000000 in
theorem walk_ok (a : Option Addr) (la ca n : Nat) (z : Nat → Int) (p q r : Nat) (w : World) (hp : p < n) (hq : q < n) (hr : r < n)
    (hfa : ∀ w, Calls Try.prog 7 #[.slice a la ca] w fun e w' => e = .returned (.slice a n ca) ∧ w' = w)
    (ha : Cells w .u64 a n z) (hP : Pol n z) :
    Calls Try.prog 3 #[.slice a la ca, .int .i64 p, .int .i64 q, .int .i64 r] w fun e w' => e = .returned (.bool true) ∧ Below w.heap.size w w' := by
  have hn16 := hP.le
  have h1 := fun w' h => lattice_ok a n ca z w' (by omega) h hP.bds hP.ok
  have HA : Hid (Cells w .u64 a n z) := ha
  have HP : Hid (Pol n z) := hP
  clear ha hP
  go_enter Try.func3, Try.ntmps3
  go_wp2_with fail
  refine (awake_any _).mono ?_
  rintro e w0 ⟨rfl, b0⟩
  go_wp2_with fail
  refine (hfa _).mono ?_
  rintro e w1 ⟨rfl, e1⟩
  subst e1
  go_wp2_with fail
  refine (h1 _ (HA.out.below b0)).mono ?_
  rintro e w2 ⟨x0, y0, ok, rfl, hl, b2⟩
  have hb2' := Below.onto b0 b2
  have hb2 := hb2'.alloc hb2'.size (.cells #[.int .i64 x0, .int .i64 y0] 26)
  have HL : Hid (LatIs n z x0 y0 ok) := hl
  clear h1 hfa b0 b2 hl hb2'
  cases ok
  · go_wp2_with fail
    go_ret
    exact ⟨rfl, hb2⟩
  have HW : Hid (∀ s t, s < n → t < n → jn n z s t ≠ 0 ∧ mt n z s t ≠ 0) := fun s t hs ht => lat_has HL.out hs ht
  go_wp2_with fail
  refine (join_at a n ca z p q _ hp hq (HA.out.below hb2) HP.out (HW.out _ _ hp hq).1).mono ?_
  rintro e w3 ⟨c1, rfl, hI, c1n, b3⟩
  have Ic1 : Hid (IsJoin n z p q c1) := hI
  have hb3 := Below.onto hb2 b3
  clear hI b3 hb2
  go_wp2_with fail
  refine (join_at a n ca z c1 r _ c1n hr (HA.out.below hb3) HP.out (HW.out _ _ c1n hr).1).mono ?_
  rintro e w4 ⟨c2, rfl, hI, c2n, b4⟩
  have Ic2 : Hid (IsJoin n z c1 r c2) := hI
  have hb4 := Below.onto hb3 b4
  clear hI b4 hb3
  go_wp2_with fail
  refine (join_at a n ca z q r _ hq hr (HA.out.below hb4) HP.out (HW.out _ _ hq hr).1).mono ?_
  rintro e w5 ⟨c3, rfl, hI, c3n, b5⟩
  have Ic3 : Hid (IsJoin n z q r c3) := hI
  have hb5 := Below.onto hb4 b5
  clear hI b5 hb4
  go_wp2_with fail
  refine (join_at a n ca z p c3 _ hp c3n (HA.out.below hb5) HP.out (HW.out _ _ hp c3n).1).mono ?_
  rintro e w6 ⟨c4, rfl, hI, c4n, b6⟩
  have Ic4 : Hid (IsJoin n z p c3 c4) := hI
  have hb6 := Below.onto hb5 b6
  clear hI b6 hb5
  go_wp2_with fail
  refine (meet_at a n ca z p q _ hp hq (HA.out.below hb6) HP.out (HW.out _ _ hp hq).2).mono ?_
  rintro e w7 ⟨m1, rfl, hI, m1n, b7⟩
  have Im1 : Hid (IsJoin n (turnTo z n) p q m1) := hI
  have hb7 := Below.onto hb6 b7
  clear hI b7 hb6
  go_wp2_with fail
  refine (join_at a n ca z p m1 _ hp m1n (HA.out.below hb7) HP.out (HW.out _ _ hp m1n).1).mono ?_
  rintro e w8 ⟨c5, rfl, hI, c5n, b8⟩
  have Ic5 : Hid (IsJoin n z p m1 c5) := hI
  have hb8 := Below.onto hb7 b8
  clear hI b8 hb7
  go_wp2_with fail
  refine (join_at a n ca z p q _ hp hq (HA.out.below hb8) HP.out (HW.out _ _ hp hq).1).mono ?_
  rintro e w9 ⟨c6, rfl, hI, c6n, b9⟩
  have Ic6 : Hid (IsJoin n z p q c6) := hI
  have hb9 := Below.onto hb8 b9
  clear hI b9 hb8
  go_wp2_with fail
  refine (meet_at a n ca z p c6 _ hp c6n (HA.out.below hb9) HP.out (HW.out _ _ hp c6n).2).mono ?_
  rintro e w10 ⟨m2, rfl, hI, m2n, b10⟩
  have Im2 : Hid (IsJoin n (turnTo z n) p c6 m2) := hI
  have hb10 := Below.onto hb9 b10
  clear hI b10 hb9
  have E1 : Hid (Eql z c2 c4) := alg_assoc HP.out hp hq hr Ic1.out Ic2.out Ic3.out Ic4.out
  have E2 : Hid (Eql z c5 p) := alg_jm HP.out hp Im1.out Ic5.out
  have E3 : Hid (Eql z m2 p) := alg_mj HP.out hp Ic6.out Im2.out
  clear Ic1 Ic2 Ic3 Ic4 Ic5 Ic6 Im1 Im2 HW HL
  go_wp2_with fail
  refine (requal2_at a n ca z c2 c4 _ c2n c4n (by omega) (HA.out.below hb10) HP.out.bds E1.out).mono ?_
  rintro e w11 ⟨rfl, b11⟩
  have hb11 := Below.onto hb10 b11
  go_wp2_with fail
  refine (requal2_at a n ca z c5 p _ c5n hp (by omega) (HA.out.below hb11) HP.out.bds E2.out).mono ?_
  rintro e w12 ⟨rfl, b12⟩
  have hb12 := Below.onto hb11 b12
  go_wp2_with fail
  refine (requal2_at a n ca z m2 p _ m2n hp (by omega) (HA.out.below hb12) HP.out.bds E3.out).mono ?_
  rintro e w13 ⟨rfl, b13⟩
  have hb13 := Below.onto hb12 b13
  go_wp2_with fail
  go_ret
  exact ⟨rfl, hb13⟩

set_option maxRecDepth 100000 in
set_option maxHeartbeats 8000000 in
theorem walk_no (a : Option Addr) (la ca n : Nat) (z : Nat → Int) (p q r : Int) (w : World) (hn17 : n ≤ 17)
    (hfa : ∀ w, Calls Try.prog 7 #[.slice a la ca] w fun e w' => e = .returned (.slice a n ca) ∧ w' = w)
    (ha : Cells w .u64 a n z) (hz : Bds n z) (hno : polE n z ≠ 0 ∨ p < 0 ∨ q < 0 ∨ r < 0 ∨ (n : Int) ≤ p ∨ (n : Int) ≤ q ∨ (n : Int) ≤ r) :
    Calls Try.prog 3 #[.slice a la ca, .int .i64 p, .int .i64 q, .int .i64 r] w fun e w' => e = .returned (.bool true) ∧ Below w.heap.size w w' := by
  have h1 := fun w' h => lattice_un a n ca z w' (by omega) h hz
  have HA : Hid (Cells w .u64 a n z) := ha
  have HNo : Hid (polE n z ≠ 0 ∨ p < 0 ∨ q < 0 ∨ r < 0 ∨ (n : Int) ≤ p ∨ (n : Int) ≤ q ∨ (n : Int) ≤ r) := hno
  clear ha hno
  go_enter Try.func3, Try.ntmps3
  go_wp2_with fail
  refine (awake_any _).mono ?_
  rintro e w0 ⟨rfl, b0⟩
  go_wp2_with fail
  refine (hfa _).mono ?_
  rintro e w1 ⟨rfl, e1⟩
  subst e1
  go_wp2_with fail
  refine (h1 _ (HA.out.below b0)).mono ?_
  rintro e w2 ⟨x0, y0, ok, rfl, hl, b2⟩
  have hb2' := Below.onto b0 b2
  have hb2 := hb2'.alloc hb2'.size (.cells #[.int .i64 x0, .int .i64 y0] 26)
  clear h1 hfa b0 b2 hl hb2' hz
  by_cases hk : polE n z = 0
  · rw [hk]
    cases ok
    · go_wp2_with fail
      go_ret
      exact ⟨rfl, hb2⟩
    by_cases h2 : p < 0
    · go_wp2_with fail
      go_ret
      exact ⟨rfl, hb2⟩
    have h2' : 0 ≤ p := by omega
    clear h2
    by_cases h3 : q < 0
    · go_wp2_with fail
      go_ret
      exact ⟨rfl, hb2⟩
    have h3' : 0 ≤ q := by omega
    clear h3
    by_cases h4 : r < 0
    · go_wp2_with fail
      go_ret
      exact ⟨rfl, hb2⟩
    have h4' : 0 ≤ r := by omega
    clear h4
    by_cases h5 : (n : Int) ≤ p
    · go_wp2_with fail
      go_ret
      exact ⟨rfl, hb2⟩
    have h5' : p < (n : Int) := by omega
    clear h5
    by_cases h6 : (n : Int) ≤ q
    · go_wp2_with fail
      go_ret
      exact ⟨rfl, hb2⟩
    have h6' : q < (n : Int) := by omega
    clear h6
    by_cases h7 : (n : Int) ≤ r
    · go_wp2_with fail
      go_ret
      exact ⟨rfl, hb2⟩
    exfalso
    rcases HNo.out with h | h | h | h | h | h | h
    · exact h hk
    all_goals omega
  · have hne : (polE n z != 0) = true := by simp [hk]
    clear hk
    generalize polE n z = c at *
    go_wp2_with fail
    go_ret
    exact ⟨rfl, hb2⟩

theorem walk (a : Option Addr) (la ca : Nat) (z : Nat → Int) (p q r : Int) (w : World) (ra : IsRow .u64 w a la ca z) :
    Calls Try.prog 3 #[.slice a la ca, .int .i64 p, .int .i64 q, .int .i64 r] w fun e w' => e = .returned (.bool true) ∧ Below w.heap.size w w' := by
  have hz : Bds (min la 17) z := fun j hj => ra.u64 j (by omega)
  have hfa := fun w => few2_any a la ca w ra.2.2.1 ra.2.1
  have ha : Cells w .u64 a (min la 17) z := ra.1.mono (by omega)
  by_cases hno : polE (min la 17) z ≠ 0 ∨ p < 0 ∨ q < 0 ∨ r < 0 ∨ ((min la 17 : Nat) : Int) ≤ p ∨ ((min la 17 : Nat) : Int) ≤ q ∨ ((min la 17 : Nat) : Int) ≤ r
  · exact walk_no a la ca _ z p q r w (by omega) hfa ha hz hno
  · have hk : polE (min la 17) z = 0 := Classical.byContradiction fun h => hno (.inl h)
    have h0 : 0 ≤ p ∧ 0 ≤ q ∧ 0 ≤ r ∧ p < ((min la 17 : Nat) : Int) ∧ q < ((min la 17 : Nat) : Int) ∧ r < ((min la 17 : Nat) : Int) := by
      refine ⟨?_, ?_, ?_, ?_, ?_, ?_⟩ <;> refine Classical.byContradiction fun h => hno ?_ <;> omega
    obtain ⟨p1, q1, r1, p2, q2, r2⟩ := h0
    obtain ⟨p', rfl⟩ := Int.eq_ofNat_of_zero_le p1
    obtain ⟨q', rfl⟩ := Int.eq_ofNat_of_zero_le q1
    obtain ⟨r', rfl⟩ := Int.eq_ofNat_of_zero_le r1
    exact walk_ok a la ca _ z p' q' r' w (by omega) (by omega) (by omega) hfa ha (pol_of hz hk)

set_option maxRecDepth 100000 in
theorem lifted (os : Os) (started : os.Started) (H : Type) (enc : TypeId × Value → H) :
    ReturnsInHanded {} Try.checked os 3 .any (Rows.latticeAlgebraSpec.pre6 enc Try.prog Try.f3 Rows.latticeAlgebraRow.domain false) (Rows.latticeAlgebraSpec.post enc Try.prog Try.f3 false true false false) := by
  refine returnsInHanded_of_change (C := Try.checked) own started (by kernel_rfl) Try.func3
    (ChangeSpec.witness6 (enc := enc) (C := Try.checked) false ⟨#[], #[.slice none 0 0, .int .i64 0, .int .i64 0, .int .i64 0], []⟩ 8 (by kernel_rfl) (by kernel_rfl) (by kernel_rfl) (by kernel_rfl)) ?_
  intro W base args ds gs before hval0 hW hcnd _
  have hval : ∀ (j : Nat) t v, Try.f3.params[j]? = some t → args[j]? = some v → Value.okWide Try.prog W .any base t v := hval0
  have hW' := hW
  obtain ⟨p, q, hA0, hV, rfl, hfz, hnd⟩ := hW
  have hA : DataW.TrodAll enc Try.prog W 0 (fun _ => true) true Try.f3.params.toList args.toList ds p := hA0
  rw [Try.params3] at hA hval
  obtain ⟨v0, vs0, d0, ds0, p0, q0, hargs, rfl, rfl, h0, r0⟩ := trodAll_cons hA
  obtain ⟨v1, vs1, d1, ds1, p1, q1, rfl, rfl, rfl, h1, r1⟩ := trodAll_cons r0
  obtain ⟨v2, vs2, d2, ds2, p2, q2, rfl, rfl, rfl, h2, r2⟩ := trodAll_cons r1
  obtain ⟨v3, vs3, d3, ds3, p3, q3, rfl, rfl, rfl, h3, r3⟩ := trodAll_cons r2
  obtain ⟨rfl, rfl, rfl⟩ := trodAll_nil r3
  obtain rfl : args = #[v0, v1, v2, v3] := by cases args; simp_all
  obtain ⟨rfl, rfl⟩ := trodVars_none hV
  obtain ⟨a0, len0, cap0, rfl⟩ := okWide_slice Try.underlying22 (hval 0 22 v0 rfl rfl)
  have k0 := h0
  have lt0 : ∀ x ∈ p0, x.block < W.heap.size := by obtain ⟨m, hm⟩ := k0; exact DataW.trod_lt m _ _ _ hm
  obtain ⟨z0, w0⟩ : ∃ z, IsRow .u64 W a0 len0 cap0 z := by
    obtain ⟨fuel, hf⟩ := h0
    rcases open_ints Try.underlying22 Try.underlying35 (by kernel_rfl) hf with ⟨hcs, _⟩ | ⟨x, l, c, zs, hcs, _, hl, hm, hz, _, hcell, hwz⟩
    · simp [Value.cells] at hcs
      obtain ⟨rfl, rfl, rfl⟩ := hcs
      exact ⟨_, isRow_nil _ _⟩
    · simp [Value.cells] at hcs
      obtain ⟨rfl, rfl, rfl⟩ := hcs
      exact ⟨_, isRow_some hl hm (by simpa using hz) hcell hwz⟩
  obtain ⟨a1, rfl, rfl, rfl, w1⟩ := open_int Try.underlying3 (hval 1 3 v1 rfl rfl) h1
  obtain ⟨a2, rfl, rfl, rfl, w2⟩ := open_int Try.underlying3 (hval 2 3 v2 rfl rfl) h2
  obtain ⟨a3, rfl, rfl, rfl, w3⟩ := open_int Try.underlying3 (hval 3 3 v3 rfl rfl) h3
  clear hA0 hval0
  refine (walk a0 len0 cap0 z0 a1 a2 a3 W w0).mono fun e W' ⟨he, bel⟩ => ?_
  subst he
  exact ⟨_, rfl, _, _, _, [], _, [], hW', trodAll_mk1 (shut_bool Try.underlying4 _), (trodAll_cons_mk (Below.trod laidOut (by kernel_rfl) (of_decide_eq_true (by kernel_rfl)) k0 bel lt0) (trodAll_cons_mk (shut_int Try.underlying3 w1) (trodAll_cons_mk (shut_int Try.underlying3 w2) (trodAll_cons_mk (shut_int Try.underlying3 w3) trodAll_mk0)))), rfl, bel.frame _, fun h => by cases h⟩

end Go.Proofs.Ytcfpfddbbhphgab.latticeAlgebra
namespace Go.Proofs.Ytcfpfddbbhphgab

/-- The statement LatticeAlgebra. -/
theorem LatticeAlgebraHolds : Rows.LatticeAlgebraSaid :=
  OpenClaim.holds_of_wide 3 Try.f3 rfl rfl rfl rfl rfl rfl rfl ⟨rfl, rfl, rfl, rfl, rfl⟩ rfl rfl rfl rfl rfl (by kernel_rfl) Try.func3 (by kernel_rfl)
    (of_decide_eq_true (by kernel_rfl)) (by unfold Func.isWrapper; first | (rw [if_pos (by decide +kernel)]; kernel_rfl) | (rw [if_neg (by decide +kernel)]; exact ⟨rfl, rfl⟩))
    (fun os started H enc _ => latticeAlgebra.lifted os started H enc)

end Go.Proofs.Ytcfpfddbbhphgab
