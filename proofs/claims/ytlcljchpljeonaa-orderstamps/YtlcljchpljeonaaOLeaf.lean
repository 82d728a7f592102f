/- What the calls of package order, and of the document's answer, come to: distances, rings, stamps as numbers. -/
import Derived.Test.YtlcljchpljeonaaMem
import Derived.WalkKit
import Derived.WalkSpells
import Derived.WalkLawsBesides
import Derived.Lib.BitFns
import Derived.BigRegion
namespace Go.Proofs.Ytlcljchpljeonaa
open Go.RowKit
set_option maxRecDepth 100000

theorem ret_two {k l : IntKind} {a b c d : Int} (h : a = b) (h' : c = d) : Ending.returned (.tuple #[.int k a, .int l c]) = .returned (.tuple #[.int k b, .int l d]) := by rw [h, h']

/-- the distance from a number to another one -/
def distI (f t : Int) : Int := (t - f + 9223372036854775808) % 18446744073709551616 - 9223372036854775808
/-- to less from, without a sign -/
def lessI (f t : Int) : Int := (t - f) % 18446744073709551616
theorem distI_wrap (f t : Int) : wrap64 (IntKind.u64.wrap (t - f)) = distI f t := by
  rw [IntKind.wrap_u64]; unfold distI wrap64; omega
theorem lessI_wrap (f t : Int) : IntKind.u64.wrap (t - f) = lessI f t := IntKind.wrap_u64 _
theorem lessI_0 (f t : Int) : 0 ≤ lessI f t := by unfold lessI; omega
theorem lessI_1 (f t : Int) : lessI f t < 18446744073709551616 := by unfold lessI; omega
theorem distI_0 (f t : Int) : -9223372036854775808 ≤ distI f t := by unfold distI; omega
theorem distI_1 (f t : Int) : distI f t < 9223372036854775808 := by unfold distI; omega

set_option maxHeartbeats 400000 in
theorem ahead_any (f t : Int) (w : World) :
    Calls Try.prog 9 #[.int .u64 f, .int .u64 t] w fun e w' => e = .returned (.int .i64 (distI f t)) ∧ w' = w := by
  go_enter Try.func9, Try.ntmps9
  go_wp2
  go_ret
  exact ⟨ret_int (distI_wrap f t), rfl⟩
set_option maxHeartbeats 400000 in
theorem before_any (a b : Int) (w : World) :
    Calls Try.prog 11 #[.int .u64 a, .int .u64 b] w fun e w' => e = .returned (.bool (decide (0 < distI a b))) ∧ w' = w := by
  have h := fun w => ahead_any a b w
  generalize distI a b = d at *
  go_enter Try.func11, Try.ntmps11
  go_wp2_with fail
  refine (h _).mono ?_
  rintro e w' ⟨rfl, rfl⟩
  go_wp2_with fail
  go_ret
  exact ⟨rfl, rfl⟩
set_option maxHeartbeats 400000 in
theorem within_any (l x h : Int) (w : World) :
    Calls Try.prog 13 #[.int .u64 l, .int .u64 x, .int .u64 h] w fun e w' => e = .returned (.bool (decide (lessI l x < lessI l h))) ∧ w' = w := by
  go_enter Try.func13, Try.ntmps13
  go_wp2
  go_ret
  exact ⟨ret_bool (by rw [← lessI_wrap, ← lessI_wrap]), rfl⟩

set_option maxHeartbeats 400000 in
theorem rahead_any (f t : Int) (w : World) :
    Calls Try.prog 10 #[.int .u64 f, .int .u64 t] w fun e w' => e = .returned (.int .i64 (distI f t)) ∧ w' = w := by
  have h0 := lessI_0 f t
  have h1 := lessI_1 f t
  have hw := lessI_wrap f t
  have hd : Hid (lessI f t = (t - f) % 18446744073709551616) := rfl
  generalize lessI f t = d at *
  by_cases h : 9223372036854775807 < d
  · go_enter Try.func10, Try.ntmps10
    go_wp2
    go_ret
    refine ⟨ret_int ?_, rfl⟩
    have := hd.out
    unfold distI
    omega
  · go_enter Try.func10, Try.ntmps10
    go_wp2
    go_ret
    refine ⟨ret_int ?_, rfl⟩
    have := hd.out
    unfold distI
    omega
set_option maxHeartbeats 400000 in
theorem rbefore_any (a b : Int) (w : World) :
    Calls Try.prog 12 #[.int .u64 a, .int .u64 b] w fun e w' => e = .returned (.bool (decide (0 < distI a b))) ∧ w' = w := by
  have h := fun w => rahead_any a b w
  generalize distI a b = d at *
  go_enter Try.func12, Try.ntmps12
  go_wp2_with fail
  refine (h _).mono ?_
  rintro e w' ⟨rfl, rfl⟩
  go_wp2_with fail
  go_ret
  exact ⟨rfl, rfl⟩
set_option maxHeartbeats 400000 in
theorem rwithin_any (l x h : Int) (w : World) :
    Calls Try.prog 14 #[.int .u64 l, .int .u64 x, .int .u64 h] w fun e w' => e = .returned (.bool (decide (lessI l x < lessI l h))) ∧ w' = w := by
  go_enter Try.func14, Try.ntmps14
  go_wp2
  go_ret
  exact ⟨ret_bool (by rw [← lessI_wrap, ← lessI_wrap]), rfl⟩

/-- how many bits a number has -/
theorem bits_upper : ∀ (k x : Nat), k ≤ 64 → x < 2 ^ k → x < 2 ^ Lib.bitLen x := by
  intro k
  induction k with
  | zero => intro x _ h; obtain rfl : x = 0 := by simpa using h
            decide
  | succ k ih =>
    intro x hk h
    by_cases h0 : x = 0
    · subst h0; decide
    · have hx : x < 2 ^ 64 := Nat.lt_of_lt_of_le h (Nat.pow_le_pow_right (by decide) hk)
      rw [Lib.bitLen_half x h0 hx, Nat.add_comm, Nat.pow_succ]
      have := ih (x / 2) (by omega) (by rw [Nat.pow_succ] at h; omega)
      omega
theorem bits_lower : ∀ (k x : Nat), k ≤ 64 → x < 2 ^ k → ∀ j, j < Lib.bitLen x → 2 ^ j ≤ x := by
  intro k
  induction k with
  | zero => intro x _ h j hj
            obtain rfl : x = 0 := by simpa using h
            exact absurd hj (by simp [Lib.bitLen, Lib.bitLenAux])
  | succ k ih =>
    intro x hk h j hj
    by_cases h0 : x = 0
    · subst h0; exact absurd hj (by simp [Lib.bitLen, Lib.bitLenAux])
    · have hx : x < 2 ^ 64 := Nat.lt_of_lt_of_le h (Nat.pow_le_pow_right (by decide) hk)
      rw [Lib.bitLen_half x h0 hx] at hj
      cases j with
      | zero => simp; omega
      | succ j =>
        have := ih (x / 2) (by omega) (by rw [Nat.pow_succ] at h; omega) j (by omega)
        rw [Nat.pow_succ]; omega

theorem tab_at (i : Nat) (h : i < Lib.len8tab.size) : (Lib.len8tab[i]).toNat = Lib.bitLen i := by
  have h2 : i < 256 := by rw [Lib.len8tab_size] at h; exact h
  have e := Lib.len8_eq ⟨i, h2⟩
  simp only [Lib.len8, Int.toNat_natCast, getElem?_pos Lib.len8tab i h, Option.getD_some] at e
  omega
theorem bits_low (i : Nat) (h : i < 256) : Lib.bitLen i ≤ 8 := Lib.bitLen_le8 ⟨i, h⟩
set_option maxHeartbeats 1000000 in
theorem len64_low (x : Int) (w : World) (h0 : 0 ≤ x) (h1 : x < 65536) :
    Calls Try.prog 36 #[.int .u64 x] w fun e w' => e = .returned (.int .i64 (Lib.bitLen x.toNat)) ∧ w' = w := by
  by_cases h : 256 ≤ x
  · have hi : 0 ≤ x / 256 ∧ x / 256 < (Lib.len8tab.size : Int) := by rw [Lib.len8tab_size]; omega
    go_enter Try.func36, Try.ntmps36
    go_wp2
    go_ret
    refine ⟨ret_int ?_, rfl⟩
    rw [tab_at]
    have e : (x / 256).toNat = x.toNat / 256 := by omega
    have l := bits_low (x / 256).toNat (by omega)
    have s := Lib.bitLen_shift8 x.toNat (by omega) (by omega)
    rw [e] at l ⊢
    unfold wrap64
    omega
  · have hi : 0 ≤ x ∧ x < (Lib.len8tab.size : Int) := by rw [Lib.len8tab_size]; omega
    go_enter Try.func36, Try.ntmps36
    go_wp2
    go_ret
    refine ⟨ret_int ?_, rfl⟩
    rw [tab_at]
    have l := bits_low x.toNat (by omega)
    unfold wrap64
    omega
set_option maxHeartbeats 1000000 in
theorem len_low (x : Int) (w : World) (h0 : 0 ≤ x) (h1 : x < 65536) :
    Calls Try.prog 29 #[.int .u64 x] w fun e w' => e = .returned (.int .i64 (Lib.bitLen x.toNat)) ∧ w' = w := by
  have h := fun w => len64_low x w h0 h1
  generalize Lib.bitLen x.toNat = l at *
  go_enter Try.func29, Try.ntmps29
  go_wp2_with fail
  refine (h _).mono ?_
  rintro e w' ⟨rfl, rfl⟩
  go_wp2_with fail
  go_ret
  exact ⟨rfl, rfl⟩

/-- the size of the least ring with n places -/
def ringK (n : Int) : Nat := Lib.bitLen (n - 1).toNat
def ringN (n : Int) : Nat := 2 ^ ringK n
def okN (n : Int) : Bool := decide (1 ≤ n) && decide (n ≤ 65536)
def sizeN (n : Int) : Int := if okN n then (ringN n : Int) else 0
def errN (n : Int) : Int := if okN n then 0 else 70
theorem ringK_le {n : Int} (h0 : 1 ≤ n) (h1 : n ≤ 65536) : ringK n ≤ 16 := Lib.bitLen_le _ 16 (by decide) (by omega)
theorem ringN_le {n : Int} (h0 : 1 ≤ n) (h1 : n ≤ 65536) : ringN n ≤ 65536 := Nat.pow_le_pow_right (n := 2) (by decide) (ringK_le h0 h1)
theorem ringN_pos (n : Int) : 1 ≤ ringN n := Nat.one_le_two_pow
theorem ringN_ge {n : Int} (h0 : 1 ≤ n) (h1 : n ≤ 65536) : n ≤ ringN n := by
  have := bits_upper 16 (n - 1).toNat (by decide) (by omega)
  unfold ringN ringK
  omega
theorem ringN_below {n : Int} (h0 : 1 ≤ n) (h1 : n ≤ 65536) {j : Nat} (hj : j < ringK n) : ((2 ^ j : Nat) : Int) < n := by
  have := bits_lower 16 (n - 1).toNat (by decide) (by omega) j hj
  omega

set_option maxHeartbeats 1000000 in
theorem size_ok (n : Int) (w : World) (h0 : 1 ≤ n) (h1 : n ≤ 65536) :
    Calls Try.prog 16 #[.int .i64 n] w fun e w' => e = .returned (.tuple #[.int .i64 (ringN n), .int .i64 0]) ∧ w' = w := by
  have h := fun w => len_low (n - 1) w (by omega) (by omega)
  have hk := ringK_le h0 h1
  have hl := ringN_le h0 h1
  have hE : Hid (wrap64 (2 ^ ringK n) = (ringN n : Int)) := by
    show _ = _
    unfold wrap64
    unfold ringN at *
    have := Nat.one_le_two_pow (n := ringK n)
    have e : ((2 : Int) ^ ringK n) = ((2 ^ ringK n : Nat) : Int) := by simp
    rw [e]
    generalize (2 : Nat) ^ ringK n = q at *
    omega
  change ∀ w, Calls Try.prog _ _ w fun e w' => e = .returned (.int .i64 (ringK n : Nat)) ∧ w' = w at h
  generalize ringN n = r at *
  generalize ringK n = k at *
  go_enter Try.func16, Try.ntmps16
  go_wp2_with fail
  refine (h _).mono ?_
  rintro e w' ⟨rfl, rfl⟩
  go_wp2_with fail
  go_ret2
  exact ⟨ret_two (by simpa using hE.out) rfl, rfl⟩
set_option maxHeartbeats 1000000 in
theorem size_bad (n : Int) (w : World) (h : n < 1 ∨ 65536 < n) :
    Calls Try.prog 16 #[.int .i64 n] w fun e w' => e = .returned (.tuple #[.int .i64 0, .int .i64 70]) ∧ w' = w := by
  rcases h with h | h
  · go_enter Try.func16, Try.ntmps16
    go_wp2_with fail
    go_ret2
    exact ⟨rfl, rfl⟩
  · have h' : ¬ n < 1 := by omega
    go_enter Try.func16, Try.ntmps16
    go_wp2_with fail
    go_ret2
    exact ⟨rfl, rfl⟩
theorem osize_any (n : Int) (w : World) :
    Calls Try.prog 16 #[.int .i64 n] w fun e w' => e = .returned (.tuple #[.int .i64 (sizeN n), .int .i64 (errN n)]) ∧ w' = w := by
  by_cases h : 1 ≤ n ∧ n ≤ 65536
  · have e : okN n = true := by simp [okN, h]
    unfold sizeN errN
    rw [e]
    exact size_ok n w h.1 h.2
  · have e : okN n = false := by simp [okN]; omega
    unfold sizeN errN
    rw [e]
    exact size_bad n w (by omega)

set_option maxHeartbeats 1000000 in
theorem rsize_ok (n : Int) (w : World) (h0 : 1 ≤ n) (h1 : n ≤ 65536) :
    Calls Try.prog 17 #[.int .i64 n] w fun e w' => e = .returned (.tuple #[.int .i64 (ringN n), .int .i64 0]) ∧ w' = w := by
  obtain ⟨r, hr⟩ : ∃ r : Int, r = (ringN n : Int) := ⟨_, rfl⟩
  rw [← hr]
  replace hr : Hid (r = (ringN n : Int)) := hr
  go_enter Try.func17, Try.ntmps17
  go_wp2
  go_loop [4] (fun s => ∃ j : Nat, j ≤ ringK n ∧ s = .int .i64 ((2 ^ j : Nat) : Int)) (fun s => (2 * n - intOf s).toNat)
  case atStart => exact ⟨0, by omega, by simp⟩
  case round =>
    obtain ⟨j, hj, rfl⟩ := hrel
    by_cases hlt : j < ringK n
    · have hb := ringN_below h0 h1 hlt
      have hp : (1 : Nat) ≤ 2 ^ j := Nat.one_le_two_pow
      have hs : Hid ((2 : Nat) ^ (j + 1) = 2 ^ j * 2) := Nat.pow_succ 2 j
      generalize (2 : Nat) ^ j = q at *
      go_wp2
      go_round
      case rel => exact ⟨j + 1, by omega, by rw [hs.out]; go_num⟩
      case measure => simp [intOf]; omega
    · obtain rfl : j = ringK n := by omega
      have hb := ringN_ge h0 h1
      have hr2 : Hid (r = ((2 ^ ringK n : Nat) : Int)) := hr
      change n ≤ ((2 ^ ringK n : Nat) : Int) at hb
      clear hr
      generalize (2 : Nat) ^ ringK n = q at *
      obtain rfl := hr2.out
      go_wp2
      go_ret2
      exact ⟨rfl, rfl⟩
set_option maxHeartbeats 1000000 in
theorem rsize_bad (n : Int) (w : World) (h : n < 1 ∨ 65536 < n) :
    Calls Try.prog 17 #[.int .i64 n] w fun e w' => e = .returned (.tuple #[.int .i64 0, .int .i64 70]) ∧ w' = w := by
  rcases h with h | h
  · go_enter Try.func17, Try.ntmps17
    go_wp2_with fail
    go_ret2
    exact ⟨rfl, rfl⟩
  · have h' : ¬ n < 1 := by omega
    go_enter Try.func17, Try.ntmps17
    go_wp2_with fail
    go_ret2
    exact ⟨rfl, rfl⟩
theorem rsize_any (n : Int) (w : World) :
    Calls Try.prog 17 #[.int .i64 n] w fun e w' => e = .returned (.tuple #[.int .i64 (sizeN n), .int .i64 (errN n)]) ∧ w' = w := by
  by_cases h : 1 ≤ n ∧ n ≤ 65536
  · have e : okN n = true := by simp [okN, h]
    unfold sizeN errN
    rw [e]
    exact rsize_ok n w h.1 h.2
  · have e : okN n = false := by simp [okN]; omega
    unfold sizeN errN
    rw [e]
    exact rsize_bad n w (by omega)

/-- may a size be a ring's? -/
def ringB (n : Int) : Bool := okN n && decide ((ringN n : Int) = n)
def placeI (x n : Int) : Int := if ringB n then x % n else 0
def errP (n : Int) : Int := if ringB n then 0 else 70

set_option maxHeartbeats 1000000 in
theorem place_ok (x n : Int) (w : World) (hx : 0 ≤ x) (h0 : 1 ≤ n) (h1 : n ≤ 65536) (hr : (ringN n : Int) = n) :
    Calls Try.prog 18 #[.int .u64 x, .int .i64 n] w fun e w' => e = .returned (.tuple #[.int .i64 (x % n), .int .i64 0]) ∧ w' = w := by
  have h := fun w => size_ok n w h0 h1
  rw [hr] at h
  have hm : Int.tmod x n = x % n := Int.tmod_eq_emod_of_nonneg hx
  have hm0 : 0 ≤ x % n := Int.emod_nonneg _ (by omega)
  have hm1 : x % n < n := Int.emod_lt_of_pos _ (by omega)
  clear hr
  generalize x % n = r at *
  go_enter Try.func18, Try.ntmps18
  go_wp2_with fail
  refine (h _).mono ?_
  rintro e w' ⟨rfl, rfl⟩
  go_wp2_with fail
  go_ret2
  exact ⟨rfl, rfl⟩
set_option maxHeartbeats 1000000 in
theorem place_bad (x n : Int) (w : World) (h : n < 1 ∨ 65536 < n) :
    Calls Try.prog 18 #[.int .u64 x, .int .i64 n] w fun e w' => e = .returned (.tuple #[.int .i64 0, .int .i64 70]) ∧ w' = w := by
  have h' := fun w => size_bad n w h
  clear h
  go_enter Try.func18, Try.ntmps18
  go_wp2_with fail
  refine (h' _).mono ?_
  rintro e w' ⟨rfl, rfl⟩
  go_wp2_with fail
  go_ret2
  exact ⟨rfl, rfl⟩
set_option maxHeartbeats 1000000 in
theorem place_no (x n : Int) (w : World) (h0 : 1 ≤ n) (h1 : n ≤ 65536) (hr : ¬ (ringN n : Int) = n) :
    Calls Try.prog 18 #[.int .u64 x, .int .i64 n] w fun e w' => e = .returned (.tuple #[.int .i64 0, .int .i64 70]) ∧ w' = w := by
  have h := fun w => size_ok n w h0 h1
  generalize (ringN n : Int) = r at *
  go_enter Try.func18, Try.ntmps18
  go_wp2_with fail
  refine (h _).mono ?_
  rintro e w' ⟨rfl, rfl⟩
  go_wp2_with fail
  go_ret2
  exact ⟨rfl, rfl⟩
theorem place_any (x n : Int) (w : World) (hx : 0 ≤ x) :
    Calls Try.prog 18 #[.int .u64 x, .int .i64 n] w fun e w' => e = .returned (.tuple #[.int .i64 (placeI x n), .int .i64 (errP n)]) ∧ w' = w := by
  unfold placeI errP
  by_cases h : 1 ≤ n ∧ n ≤ 65536
  · have e : okN n = true := by simp [okN, h]
    by_cases hr : (ringN n : Int) = n
    · rw [show ringB n = true by simp [ringB, e, hr]]
      exact place_ok x n w hx h.1 h.2 hr
    · rw [show ringB n = false by simp [ringB, hr]]
      exact place_no x n w h.1 h.2 hr
  · have e : okN n = false := by simp [okN]; omega
    rw [show ringB n = false by simp [ringB, e]]
    exact place_bad x n w (by omega)

set_option maxHeartbeats 1000000 in
theorem rring_any (n : Int) (w : World) :
    Calls Try.prog 30 #[.int .i64 n] w fun e w' => e = .returned (.bool (ringB n)) ∧ w' = w := by
  have hc := fun w => rsize_any n w
  by_cases h : okN n = true
  · have e1 : errN n = 0 := by simp [errN, h]
    have e2 : sizeN n = ringN n := by simp [sizeN, h]
    rw [e1, e2] at hc
    have e3 : Hid (ringB n = decide ((ringN n : Int) = n)) := by show _ = _; simp [ringB, h]
    clear e1 e2
    generalize (ringN n : Int) = r at *
    go_enter Try.func30, Try.ntmps30
    go_wp2_with fail
    refine (hc _).mono ?_
    rintro e w' ⟨rfl, rfl⟩
    go_wp2_with fail
    go_ret
    exact ⟨ret_bool (by rw [e3.out]; first | rfl | simp), rfl⟩
  · have e1 : errN n = 70 := by simp [errN, h]
    have e3 : Hid (ringB n = false) := by show _ = _; simp [ringB, h]
    rw [e1] at hc
    clear e1
    generalize sizeN n = r at *
    go_enter Try.func30, Try.ntmps30
    go_wp2_with fail
    refine (hc _).mono ?_
    rintro e w' ⟨rfl, rfl⟩
    go_wp2_with fail
    go_ret
    exact ⟨ret_bool (by rw [e3.out]), rfl⟩
set_option maxHeartbeats 1000000 in
theorem rplace_any (x n : Int) (w : World) (hx : 0 ≤ x) :
    Calls Try.prog 19 #[.int .u64 x, .int .i64 n] w fun e w' => e = .returned (.tuple #[.int .i64 (placeI x n), .int .i64 (errP n)]) ∧ w' = w := by
  have h := fun w => rring_any n w
  cases hr : ringB n
  · have e1 : placeI x n = 0 := by simp [placeI, hr]
    have e2 : errP n = 70 := by simp [errP, hr]
    rw [e1, e2]
    rw [hr] at h
    clear hr e1 e2
    go_enter Try.func19, Try.ntmps19
    go_wp2_with fail
    refine (h _).mono ?_
    rintro e w' ⟨rfl, rfl⟩
    go_wp2_with fail
    go_ret2
    exact ⟨rfl, rfl⟩
  · have e1 : placeI x n = x % n := by simp [placeI, hr]
    have e2 : errP n = 0 := by simp [errP, hr]
    rw [e1, e2]
    rw [hr] at h
    have h2 : 1 ≤ n ∧ n ≤ 65536 := by simp [ringB, okN] at hr; omega
    obtain ⟨h0, h1⟩ := h2
    have hm : Int.tmod x n = x % n := Int.tmod_eq_emod_of_nonneg hx
    have hm0 : 0 ≤ x % n := Int.emod_nonneg _ (by omega)
    have hm1 : x % n < n := Int.emod_lt_of_pos _ (by omega)
    clear hr e1 e2
    generalize x % n = r at *
    go_enter Try.func19, Try.ntmps19
    go_wp2_with fail
    refine (h _).mono ?_
    rintro e w' ⟨rfl, rfl⟩
    go_wp2_with fail
    go_ret2
    exact ⟨rfl, rfl⟩

end Go.Proofs.Ytlcljchpljeonaa
