/- PROVED: for every start and k the statement OrderPlaces returns true: as many numbers as a ring has places, one behind the other, have each place once, wherever they begin (P7.6). No condition. -/
import Derived.Test.YtlcljchpljeonaaRows
import Derived.Test.YtlcljchpljeonaaORow
import Derived.Test.YtlcljchpljeonaaOPlace
import Derived.Test.YtlcljchpljeonaaORow
import Derived.ProofKit
import Derived.ShutString
import Derived.ChangeOld
import Derived.OpenShut
namespace Go.Proofs.Ytlcljchpljeonaa.orderPlaces
open Go.ChangeShapes Go.WideShapes Go.ChangeAt Go.RowKit

theorem own : ownKnob Try.prog.godebug = none := by kernel_rfl
theorem laidOut : laidOutB Try.prog = true := by kernel_rfl

set_option maxRecDepth 100000 in
set_option maxHeartbeats 4000000 in
theorem walk (f k : Int) (w0 : (Lit.int .u64 f).wf = true) (w : World) :
    Calls Try.prog 8 #[.int .u64 f, .int .i64 k] w fun e w' => e = .returned (.bool true) ∧ Below w.heap.size w w' := by
  obtain ⟨f0, f1⟩ := bounds_u64 w0
  clear w0
  by_cases hk0 : 0 ≤ k
  · by_cases hk1 : k ≤ 8
    · obtain ⟨kk, rfl⟩ := Int.eq_ofNat_of_zero_le hk0
      have hk : kk ≤ 8 := by omega
      have hr := ring_pow kk hk
      have hd := pow_dvd hk
      have hn1 : (2 : Nat) ^ kk ≤ 256 := Nat.pow_le_pow_right (n := 2) (by decide) hk
      have hn0 : 1 ≤ (2 : Nat) ^ kk := Nat.one_le_two_pow
      have hE : wrap64 (2 ^ kk) = ((2 ^ kk : Nat) : Int) := by
        have e : ((2 : Int) ^ kk) = ((2 ^ kk : Nat) : Int) := by simp
        unfold wrap64
        rw [e]
        generalize (2 : Nat) ^ kk = q at *
        omega
      have hP : Hid (∀ x w, 0 ≤ x → Calls Try.prog 18 #[.int .u64 x, .int .i64 ((2 ^ kk : Nat) : Int)] w fun e w' => e = .returned (.tuple #[.int .i64 (x % ((2 ^ kk : Nat) : Int)), .int .i64 0]) ∧ w' = w) := fun x w hx => place_ok x _ w hx (by omega) (by omega) (by rw [hr])
      clear hr
      generalize hq : (2 : Nat) ^ kk = n at *
      clear hq
      have hmk := fun w => make_bools w n (by omega)
      have HD : Hid ((n : Int) ∣ 18446744073709551616) := hd
      clear hd
      go_enter Try.func8, Try.ntmps8
      go_wp2
      rw [hE]
      clear hE
      go_loopw [7] (fun i wr => ∃ j : Nat, j ≤ n ∧ i = .int .i64 j ∧ Hid (Bo wr w.heap.size n (seenB f n j)) ∧ Below w.heap.size w wr) (fun i _ => n - (intOf i).toNat)
      case atStart => exact ⟨0, by omega, rfl, bo_new w n, (Below.refl _ w).alloc (Nat.le_refl _) _⟩
      case round =>
        obtain ⟨j, hj, rfl, hB, hb⟩ := hrel
        by_cases hlt : j < n
        · obtain ⟨x, hx⟩ : ∃ x, IntKind.u64.wrap (f + j) = x := ⟨_, rfl⟩
          have ex : x = (f + j) % 18446744073709551616 := by rw [← hx, IntKind.wrap_u64]
          have hp := fun w => hP.out x w (by omega)
          have e : x % (n : Int) = (f + j) % (n : Int) := by rw [ex, Int.emod_emod_of_dvd _ HD.out]
          have g0 : 0 ≤ x % (n : Int) := Int.emod_nonneg _ (by omega)
          have g1 : x % (n : Int) < n := Int.emod_lt_of_pos _ (by omega)
          obtain ⟨p, ep⟩ := Int.eq_ofNat_of_zero_le g0
          rw [ep] at hp e g1
          have hpn : p < n := by omega
          have hc := (hB.out p hpn).1
          have hf := (hB.out p hpn).2
          rw [seenB_new f hlt e] at hc
          have hz := seen_set f e
          have HZ : Hid (∀ x, seenB f n (j + 1) x = if x = p then true else seenB f n j x) := hz
          clear hz ex e ep g0 g1
          go_wp2_with fail
          refine (hp _).mono ?_
          rintro e w2 ⟨rfl, rfl⟩
          go_wp2_with fail
          go_roundw
          case rel => exact ⟨j + 1, by omega, by go_num, hB.out.set HZ.out, hb.setCell (p := ⟨w.heap.size, p, none⟩) (Nat.le_refl _) _⟩
          case measure => simp [intOf]; omega
        · obtain rfl : j = n := by omega
          go_wp2_with fail
          refine (oalive_any _).mono ?_
          rintro e w9 ⟨rfl, h9⟩
          go_wp2_with fail
          go_ret
          exact ⟨rfl, Below.onto hb h9⟩
    · go_enter Try.func8, Try.ntmps8
      go_wp2_with fail
      refine (oalive_any _).mono ?_
      rintro e w9 ⟨rfl, h9⟩
      go_wp2_with fail
      go_ret
      exact ⟨rfl, h9⟩
  · go_enter Try.func8, Try.ntmps8
    go_wp2_with fail
    refine (oalive_any _).mono ?_
    rintro e w9 ⟨rfl, h9⟩
    go_wp2_with fail
    go_ret
    exact ⟨rfl, h9⟩

set_option maxRecDepth 100000 in
theorem lifted (os : Os) (started : os.Started) (H : Type) (enc : TypeId × Value → H) :
    ReturnsInHanded {} Try.checked os 8 .any (Rows.orderPlacesSpec.pre6 enc Try.prog Try.f8 Rows.orderPlacesRow.domain false) (Rows.orderPlacesSpec.post enc Try.prog Try.f8 false true false false) := by
  refine returnsInHanded_of_change (C := Try.checked) own started (by kernel_rfl) Try.func8
    (ChangeSpec.witness6 (enc := enc) (C := Try.checked) false ⟨#[], #[.int .u64 0, .int .i64 0], []⟩ 8 (by kernel_rfl) (by kernel_rfl) (by kernel_rfl) (by kernel_rfl)) ?_
  intro W base args ds gs before hval0 hW hcnd _
  have hval : ∀ (j : Nat) t v, Try.f8.params[j]? = some t → args[j]? = some v → Value.okWide Try.prog W .any base t v := hval0
  have hW' := hW
  obtain ⟨p, q, hA0, hV, rfl, hfz, hnd⟩ := hW
  have hA : DataW.TrodAll enc Try.prog W 0 (fun _ => true) true Try.f8.params.toList args.toList ds p := hA0
  rw [Try.params8] at hA hval
  obtain ⟨v0, vs0, d0, ds0, p0, q0, hargs, rfl, rfl, h0, r0⟩ := trodAll_cons hA
  obtain ⟨v1, vs1, d1, ds1, p1, q1, rfl, rfl, rfl, h1, r1⟩ := trodAll_cons r0
  obtain ⟨rfl, rfl, rfl⟩ := trodAll_nil r1
  obtain rfl : args = #[v0, v1] := by cases args; simp_all
  obtain ⟨rfl, rfl⟩ := trodVars_none hV
  obtain ⟨a0, rfl, rfl, rfl, w0⟩ := open_int Try.underlying22 (hval 0 22 v0 rfl rfl) h0
  obtain ⟨a1, rfl, rfl, rfl, w1⟩ := open_int Try.underlying3 (hval 1 3 v1 rfl rfl) h1
  clear hA0 hval0
  simp only [List.append_nil] at hW'
  refine (walk a0 a1 w0 W).mono fun e W' ⟨he, bel⟩ => ?_
  subst he
  exact ⟨_, rfl, _, _, _, [], _, [], hW', trodAll_mk1 (shut_bool Try.underlying4 _), (trodAll_cons_mk (shut_int Try.underlying22 w0) (trodAll_cons_mk (shut_int Try.underlying3 w1) trodAll_mk0)), rfl, bel.frame _, fun h => by cases h⟩

end Go.Proofs.Ytlcljchpljeonaa.orderPlaces
namespace Go.Proofs.Ytlcljchpljeonaa

/-- The statement OrderPlaces. -/
theorem OrderPlacesHolds : Rows.OrderPlacesSaid :=
  OpenClaim.holds_of_wide 8 Try.f8 rfl rfl rfl rfl rfl rfl rfl ⟨rfl, rfl, rfl, rfl, rfl⟩ rfl rfl rfl rfl rfl (by kernel_rfl) Try.func8 (by kernel_rfl)
    (of_decide_eq_true (by kernel_rfl)) (by unfold Func.isWrapper; first | (rw [if_pos (by decide +kernel)]; kernel_rfl) | (rw [if_neg (by decide +kernel)]; exact ⟨rfl, rfl⟩))
    (fun os started H enc _ => orderPlaces.lifted os started H enc)

end Go.Proofs.Ytlcljchpljeonaa
