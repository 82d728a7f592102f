/- What the calls of package order, and of the document's answer, come to: distances, rings, stamps as numbers. -/
import Derived.Test.YtilahfomiofgcaaMem
import Derived.WalkKit
import Derived.WalkSpells
import Derived.WalkLawsBesides
import Derived.Lib.BitFns
import Derived.BigRegion
namespace Go.Proofs.Ytilahfomiofgcaa
open Go.RowKit
set_option maxRecDepth 100000

theorem ret_two {k l : IntKind} {a b c d : Int} (h : a = b) (h' : c = d) : Ending.returned (.tuple #[.int k a, .int l c]) = .returned (.tuple #[.int k b, .int l d]) := by rw [h, h']

/-- the distance from a number to another one -/
def distI (f t : Int) : Int := (t - f + 9223372036854775808) % 18446744073709551616 - 9223372036854775808
/-- to less from, without a sign -/
def lessI (f t : Int) : Int := (t - f) % 18446744073709551616
theorem distI_wrap (f t : Int) : wrap64 (IntKind.u64.wrap (t - f)) = distI f t := by
  rw [IntKind.wrap_u64]; unfold distI wrap64; omega
theorem lessI_wrap (f t : Int) : IntKind.u64.wrap (t - f) = lessI f t := IntKind.wrap_u64 _
theorem lessI_0 (f t : Int) : 0 ≤ lessI f t := by unfold lessI; omega
theorem lessI_1 (f t : Int) : lessI f t < 18446744073709551616 := by unfold lessI; omega
theorem distI_0 (f t : Int) : -9223372036854775808 ≤ distI f t := by unfold distI; omega
theorem distI_1 (f t : Int) : distI f t < 9223372036854775808 := by unfold distI; omega

set_option maxHeartbeats 400000 in
theorem ahead_any (f t : Int) (w : World) :
    Calls Try.prog 42 #[.int .u64 f, .int .u64 t] w fun e w' => e = .returned (.int .i64 (distI f t)) ∧ w' = w := by
  go_enter Try.func42, Try.ntmps42
  go_wp2
  go_ret
  exact ⟨ret_int (distI_wrap f t), rfl⟩
set_option maxHeartbeats 400000 in
theorem within_any (l x h : Int) (w : World) :
    Calls Try.prog 38 #[.int .u64 l, .int .u64 x, .int .u64 h] w fun e w' => e = .returned (.bool (decide (lessI l x < lessI l h))) ∧ w' = w := by
  go_enter Try.func38, Try.ntmps38
  go_wp2
  go_ret
  exact ⟨ret_bool (by rw [← lessI_wrap, ← lessI_wrap]), rfl⟩

/-- how many bits a number has -/
theorem bits_upper : ∀ (k x : Nat), k ≤ 64 → x < 2 ^ k → x < 2 ^ Lib.bitLen x := by
  intro k
  induction k with
  | zero => intro x _ h; obtain rfl : x = 0 := by simpa using h
            decide
  | succ k ih =>
    intro x hk h
    by_cases h0 : x = 0
    · subst h0; decide
    · have hx : x < 2 ^ 64 := Nat.lt_of_lt_of_le h (Nat.pow_le_pow_right (by decide) hk)
      rw [Lib.bitLen_half x h0 hx, Nat.add_comm, Nat.pow_succ]
      have := ih (x / 2) (by omega) (by rw [Nat.pow_succ] at h; omega)
      omega
theorem bits_lower : ∀ (k x : Nat), k ≤ 64 → x < 2 ^ k → ∀ j, j < Lib.bitLen x → 2 ^ j ≤ x := by
  intro k
  induction k with
  | zero => intro x _ h j hj
            obtain rfl : x = 0 := by simpa using h
            exact absurd hj (by simp [Lib.bitLen, Lib.bitLenAux])
  | succ k ih =>
    intro x hk h j hj
    by_cases h0 : x = 0
    · subst h0; exact absurd hj (by simp [Lib.bitLen, Lib.bitLenAux])
    · have hx : x < 2 ^ 64 := Nat.lt_of_lt_of_le h (Nat.pow_le_pow_right (by decide) hk)
      rw [Lib.bitLen_half x h0 hx] at hj
      cases j with
      | zero => simp; omega
      | succ j =>
        have := ih (x / 2) (by omega) (by rw [Nat.pow_succ] at h; omega) j (by omega)
        rw [Nat.pow_succ]; omega

theorem tab_at (i : Nat) (h : i < Lib.len8tab.size) : (Lib.len8tab[i]).toNat = Lib.bitLen i := by
  have h2 : i < 256 := by rw [Lib.len8tab_size] at h; exact h
  have e := Lib.len8_eq ⟨i, h2⟩
  simp only [Lib.len8, Int.toNat_natCast, getElem?_pos Lib.len8tab i h, Option.getD_some] at e
  omega
theorem bits_low (i : Nat) (h : i < 256) : Lib.bitLen i ≤ 8 := Lib.bitLen_le8 ⟨i, h⟩
set_option maxHeartbeats 1000000 in
theorem len64_low (x : Int) (w : World) (h0 : 0 ≤ x) (h1 : x < 65536) :
    Calls Try.prog 56 #[.int .u64 x] w fun e w' => e = .returned (.int .i64 (Lib.bitLen x.toNat)) ∧ w' = w := by
  by_cases h : 256 ≤ x
  · have hi : 0 ≤ x / 256 ∧ x / 256 < (Lib.len8tab.size : Int) := by rw [Lib.len8tab_size]; omega
    go_enter Try.func56, Try.ntmps56
    go_wp2
    go_ret
    refine ⟨ret_int ?_, rfl⟩
    rw [tab_at]
    have e : (x / 256).toNat = x.toNat / 256 := by omega
    have l := bits_low (x / 256).toNat (by omega)
    have s := Lib.bitLen_shift8 x.toNat (by omega) (by omega)
    rw [e] at l ⊢
    unfold wrap64
    omega
  · have hi : 0 ≤ x ∧ x < (Lib.len8tab.size : Int) := by rw [Lib.len8tab_size]; omega
    go_enter Try.func56, Try.ntmps56
    go_wp2
    go_ret
    refine ⟨ret_int ?_, rfl⟩
    rw [tab_at]
    have l := bits_low x.toNat (by omega)
    unfold wrap64
    omega
set_option maxHeartbeats 1000000 in
theorem len_low (x : Int) (w : World) (h0 : 0 ≤ x) (h1 : x < 65536) :
    Calls Try.prog 45 #[.int .u64 x] w fun e w' => e = .returned (.int .i64 (Lib.bitLen x.toNat)) ∧ w' = w := by
  have h := fun w => len64_low x w h0 h1
  generalize Lib.bitLen x.toNat = l at *
  go_enter Try.func45, Try.ntmps45
  go_wp2_with fail
  refine (h _).mono ?_
  rintro e w' ⟨rfl, rfl⟩
  go_wp2_with fail
  go_ret
  exact ⟨rfl, rfl⟩

/-- the size of the least ring with n places -/
def ringK (n : Int) : Nat := Lib.bitLen (n - 1).toNat
def ringN (n : Int) : Nat := 2 ^ ringK n
def okN (n : Int) : Bool := decide (1 ≤ n) && decide (n ≤ 65536)
def sizeN (n : Int) : Int := if okN n then (ringN n : Int) else 0
def errN (n : Int) : Int := if okN n then 0 else 70
theorem ringK_le {n : Int} (h0 : 1 ≤ n) (h1 : n ≤ 65536) : ringK n ≤ 16 := Lib.bitLen_le _ 16 (by decide) (by omega)
theorem ringN_le {n : Int} (h0 : 1 ≤ n) (h1 : n ≤ 65536) : ringN n ≤ 65536 := Nat.pow_le_pow_right (n := 2) (by decide) (ringK_le h0 h1)
theorem ringN_pos (n : Int) : 1 ≤ ringN n := Nat.one_le_two_pow
theorem ringN_ge {n : Int} (h0 : 1 ≤ n) (h1 : n ≤ 65536) : n ≤ ringN n := by
  have := bits_upper 16 (n - 1).toNat (by decide) (by omega)
  unfold ringN ringK
  omega
theorem ringN_below {n : Int} (h0 : 1 ≤ n) (h1 : n ≤ 65536) {j : Nat} (hj : j < ringK n) : ((2 ^ j : Nat) : Int) < n := by
  have := bits_lower 16 (n - 1).toNat (by decide) (by omega) j hj
  omega

set_option maxHeartbeats 1000000 in
theorem size_ok (n : Int) (w : World) (h0 : 1 ≤ n) (h1 : n ≤ 65536) :
    Calls Try.prog 43 #[.int .i64 n] w fun e w' => e = .returned (.tuple #[.int .i64 (ringN n), .int .i64 0]) ∧ w' = w := by
  have h := fun w => len_low (n - 1) w (by omega) (by omega)
  have hk := ringK_le h0 h1
  have hl := ringN_le h0 h1
  have hE : Hid (wrap64 (2 ^ ringK n) = (ringN n : Int)) := by
    show _ = _
    unfold wrap64
    unfold ringN at *
    have := Nat.one_le_two_pow (n := ringK n)
    have e : ((2 : Int) ^ ringK n) = ((2 ^ ringK n : Nat) : Int) := by simp
    rw [e]
    generalize (2 : Nat) ^ ringK n = q at *
    omega
  change ∀ w, Calls Try.prog _ _ w fun e w' => e = .returned (.int .i64 (ringK n : Nat)) ∧ w' = w at h
  generalize ringN n = r at *
  generalize ringK n = k at *
  go_enter Try.func43, Try.ntmps43
  go_wp2_with fail
  refine (h _).mono ?_
  rintro e w' ⟨rfl, rfl⟩
  go_wp2_with fail
  go_ret2
  exact ⟨ret_two (by simpa using hE.out) rfl, rfl⟩
set_option maxHeartbeats 1000000 in
theorem size_bad (n : Int) (w : World) (h : n < 1 ∨ 65536 < n) :
    Calls Try.prog 43 #[.int .i64 n] w fun e w' => e = .returned (.tuple #[.int .i64 0, .int .i64 70]) ∧ w' = w := by
  rcases h with h | h
  · go_enter Try.func43, Try.ntmps43
    go_wp2_with fail
    go_ret2
    exact ⟨rfl, rfl⟩
  · have h' : ¬ n < 1 := by omega
    go_enter Try.func43, Try.ntmps43
    go_wp2_with fail
    go_ret2
    exact ⟨rfl, rfl⟩
theorem osize_any (n : Int) (w : World) :
    Calls Try.prog 43 #[.int .i64 n] w fun e w' => e = .returned (.tuple #[.int .i64 (sizeN n), .int .i64 (errN n)]) ∧ w' = w := by
  by_cases h : 1 ≤ n ∧ n ≤ 65536
  · have e : okN n = true := by simp [okN, h]
    unfold sizeN errN
    rw [e]
    exact size_ok n w h.1 h.2
  · have e : okN n = false := by simp [okN]; omega
    unfold sizeN errN
    rw [e]
    exact size_bad n w (by omega)

/-- may a size be a ring's? -/
def ringB (n : Int) : Bool := okN n && decide ((ringN n : Int) = n)
def placeI (x n : Int) : Int := if ringB n then x % n else 0
def errP (n : Int) : Int := if ringB n then 0 else 70

set_option maxHeartbeats 1000000 in
theorem place_ok (x n : Int) (w : World) (hx : 0 ≤ x) (h0 : 1 ≤ n) (h1 : n ≤ 65536) (hr : (ringN n : Int) = n) :
    Calls Try.prog 37 #[.int .u64 x, .int .i64 n] w fun e w' => e = .returned (.tuple #[.int .i64 (x % n), .int .i64 0]) ∧ w' = w := by
  have h := fun w => size_ok n w h0 h1
  rw [hr] at h
  have hm : Int.tmod x n = x % n := Int.tmod_eq_emod_of_nonneg hx
  have hm0 : 0 ≤ x % n := Int.emod_nonneg _ (by omega)
  have hm1 : x % n < n := Int.emod_lt_of_pos _ (by omega)
  clear hr
  generalize x % n = r at *
  go_enter Try.func37, Try.ntmps37
  go_wp2_with fail
  refine (h _).mono ?_
  rintro e w' ⟨rfl, rfl⟩
  go_wp2_with fail
  go_ret2
  exact ⟨rfl, rfl⟩
set_option maxHeartbeats 1000000 in
theorem place_bad (x n : Int) (w : World) (h : n < 1 ∨ 65536 < n) :
    Calls Try.prog 37 #[.int .u64 x, .int .i64 n] w fun e w' => e = .returned (.tuple #[.int .i64 0, .int .i64 70]) ∧ w' = w := by
  have h' := fun w => size_bad n w h
  clear h
  go_enter Try.func37, Try.ntmps37
  go_wp2_with fail
  refine (h' _).mono ?_
  rintro e w' ⟨rfl, rfl⟩
  go_wp2_with fail
  go_ret2
  exact ⟨rfl, rfl⟩
set_option maxHeartbeats 1000000 in
theorem place_no (x n : Int) (w : World) (h0 : 1 ≤ n) (h1 : n ≤ 65536) (hr : ¬ (ringN n : Int) = n) :
    Calls Try.prog 37 #[.int .u64 x, .int .i64 n] w fun e w' => e = .returned (.tuple #[.int .i64 0, .int .i64 70]) ∧ w' = w := by
  have h := fun w => size_ok n w h0 h1
  generalize (ringN n : Int) = r at *
  go_enter Try.func37, Try.ntmps37
  go_wp2_with fail
  refine (h _).mono ?_
  rintro e w' ⟨rfl, rfl⟩
  go_wp2_with fail
  go_ret2
  exact ⟨rfl, rfl⟩
theorem place_any (x n : Int) (w : World) (hx : 0 ≤ x) :
    Calls Try.prog 37 #[.int .u64 x, .int .i64 n] w fun e w' => e = .returned (.tuple #[.int .i64 (placeI x n), .int .i64 (errP n)]) ∧ w' = w := by
  unfold placeI errP
  by_cases h : 1 ≤ n ∧ n ≤ 65536
  · have e : okN n = true := by simp [okN, h]
    by_cases hr : (ringN n : Int) = n
    · rw [show ringB n = true by simp [ringB, e, hr]]
      exact place_ok x n w hx h.1 h.2 hr
    · rw [show ringB n = false by simp [ringB, hr]]
      exact place_no x n w h.1 h.2 hr
  · have e : okN n = false := by simp [okN]; omega
    rw [show ringB n = false by simp [ringB, e]]
    exact place_bad x n w (by omega)

end Go.Proofs.Ytilahfomiofgcaa
