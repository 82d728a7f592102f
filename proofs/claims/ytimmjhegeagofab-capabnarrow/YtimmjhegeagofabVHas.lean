/- Rights: all of some; Narrow. -/
import Derived.Test.YtimmjhegeagofabVAlive
namespace Go.Proofs.Ytimmjhegeagofab
open Go.RowKit Go.Sort
set_option maxRecDepth 100000

def hasN : Nat → Nat → Nat → Bool
  | 0, _, _ => true
  | k + 1, a, b => !(b % 2 == 1 && a % 2 == 0) && hasN k (a / 2) (b / 2)
theorem hasN_and (k : Nat) : ∀ a b, a < 2 ^ k → b < 2 ^ k → hasN k a b = decide (a &&& b = b) := by
  induction k with
  | zero =>
    intro a b ha hb
    obtain rfl : a = 0 := by omega
    obtain rfl : b = 0 := by omega
    rfl
  | succ k ih =>
    intro a b ha hb
    have e := ih (a / 2) (b / 2) (by omega) (by omega)
    unfold hasN
    rw [e, ← Nat.and_div_two]
    have h2 := Nat.and_mod_two_eq_one (a := a) (b := b)
    generalize a &&& b = c at *
    by_cases h : c = b
    · subst h
      by_cases hb1 : c % 2 = 1
      · have := (h2.1 hb1).1
        simp [hb1, this]
      · simp [hb1]
    · rw [decide_eq_false h]
      by_cases hd : c / 2 = b / 2
      · have hm : c % 2 ≠ b % 2 := by omega
        have : b % 2 = 1 ∧ a % 2 = 0 := by omega
        simp [this.1, this.2]
      · simp [hd]
theorem cov_has (a b : Nat) (ha : a < 256) (hb : b < 256) : cov (a : Int) (b : Int) = hasN 8 a b := by
  unfold cov
  rw [u8_and_nat a b ha hb, hasN_and 8 a b (by omega) (by omega)]
  by_cases h : a &&& b = b
  · simp [h]
  · have : ((a &&& b : Nat) : Int) ≠ (b : Int) := by omega
    rw [decide_eq_false h]
    simpa using this
set_option maxHeartbeats 2000000 in
theorem rhas_nat (A B : Nat) (hA : A < 256) (hB : B < 256) (w : World) : Calls Try.prog 43 #[.int .u8 (A : Int), .int .u8 (B : Int)] w fun e w' => e = .returned (.bool (hasN 8 A B)) ∧ w' = w := by
  obtain ⟨V, hV⟩ : ∃ V, V = hasN 8 A B := ⟨_, rfl⟩
  rw [← hV]
  have HV : Hid (hasN (8 - 0) A B = V) := hV.symm
  clear hV
  go_enter Try.func43, Try.ntmps43
  go_wp2_with fail
  go_loopw [0, 1, 5] (fun x y t wr => ∃ (i a b : Nat), i ≤ 8 ∧ x = .int .u8 (a : Int) ∧ y = .int .u8 (b : Int) ∧ t = .int .i64 i ∧ a < 256 ∧ b < 256 ∧ Hid (wr = w) ∧ Hid (hasN (8 - i) a b = V)) (fun _ _ t _ => 8 - (intOf t).toNat)
  case atStart => exact ⟨0, A, B, by omega, rfl, rfl, rfl, hA, hB, rfl, HV.out⟩
  case round =>
    obtain ⟨i, a, b, hi, rfl, rfl, rfl, ha, hb, hw, hv⟩ := hrel
    by_cases hlt : i < 8
    · have he : 8 - i = (8 - (i + 1)) + 1 := by omega
      have hv' := hv.out
      rw [he] at hv'
      unfold hasN at hv'
      by_cases h1 : b % 2 = 1
      · by_cases h2 : a % 2 = 0
        · have HV2 : Hid (V = false) := by show _ = _; rw [← hv']; simp [h1, h2]
          have i1 : (b : Int) % 2 = 1 := by omega
          have i2 : (a : Int) % 2 = 0 := by omega
          clear hv hv' he
          go_wp2_with fail
          go_ret
          exact ⟨by rw [HV2.out]; rfl, hw.out⟩
        · have HV2 : Hid (hasN (8 - (i + 1)) (a / 2) (b / 2) = V) := by show _ = _; rw [← hv']; simp [h2]
          have i1 : (b : Int) % 2 = 1 := by omega
          have i2 : (a : Int) % 2 = 1 := by omega
          clear hv hv' he
          go_wp2_with fail
          exact ⟨⟨i + 1, a / 2, b / 2, by omega, by go_num, by go_num, by go_num, by omega, by omega, hw.out, HV2.out⟩, by simp [intOf]; omega⟩
      · have HV2 : Hid (hasN (8 - (i + 1)) (a / 2) (b / 2) = V) := by show _ = _; rw [← hv']; simp [h1]
        have i1 : (b : Int) % 2 = 0 := by omega
        clear hv hv' he
        go_wp2_with fail
        exact ⟨⟨i + 1, a / 2, b / 2, by omega, by go_num, by go_num, by go_num, by omega, by omega, hw.out, HV2.out⟩, by simp [intOf]; omega⟩
    · obtain rfl : i = 8 := by omega
      have HV2 : Hid (V = true) := by show _ = _; rw [← hv.out]; rfl
      clear hv
      go_wp2_with fail
      go_ret
      exact ⟨by rw [HV2.out]; rfl, hw.out⟩
theorem rhas_any (a b : Int) (a0 : 0 ≤ a) (a1 : a < 256) (b0 : 0 ≤ b) (b1 : b < 256) (w : World) : Calls Try.prog 43 #[.int .u8 a, .int .u8 b] w fun e w' => e = .returned (.bool (cov a b)) ∧ w' = w := by
  obtain ⟨A, rfl⟩ := Int.eq_ofNat_of_zero_le a0
  obtain ⟨B, rfl⟩ := Int.eq_ofNat_of_zero_le b0
  rw [cov_has A B (by omega) (by omega)]
  exact rhas_nat A B (by omega) (by omega) w
end Go.Proofs.Ytimmjhegeagofab
