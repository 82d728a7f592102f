/- What the calls of package order, and of the document's answer, come to: distances, rings, stamps as numbers. -/
import Derived.Test.YtcfmbppnghlkaaaMem
import Derived.WalkKit
import Derived.WalkSpells
import Derived.WalkLawsBesides
import Derived.Lib.BitFns
import Derived.BigRegion
namespace Go.Proofs.Ytcfmbppnghlkaaa
open Go.RowKit
set_option maxRecDepth 100000

theorem ret_two {k l : IntKind} {a b c d : Int} (h : a = b) (h' : c = d) : Ending.returned (.tuple #[.int k a, .int l c]) = .returned (.tuple #[.int k b, .int l d]) := by rw [h, h']

/-- the distance from a number to another one -/
def distI (f t : Int) : Int := (t - f + 9223372036854775808) % 18446744073709551616 - 9223372036854775808
/-- to less from, without a sign -/
def lessI (f t : Int) : Int := (t - f) % 18446744073709551616
theorem distI_wrap (f t : Int) : wrap64 (IntKind.u64.wrap (t - f)) = distI f t := by
  rw [IntKind.wrap_u64]; unfold distI wrap64; omega
theorem lessI_wrap (f t : Int) : IntKind.u64.wrap (t - f) = lessI f t := IntKind.wrap_u64 _
theorem lessI_0 (f t : Int) : 0 ≤ lessI f t := by unfold lessI; omega
theorem lessI_1 (f t : Int) : lessI f t < 18446744073709551616 := by unfold lessI; omega
theorem distI_0 (f t : Int) : -9223372036854775808 ≤ distI f t := by unfold distI; omega
theorem distI_1 (f t : Int) : distI f t < 9223372036854775808 := by unfold distI; omega

/-- how many bits a number has -/
theorem bits_upper : ∀ (k x : Nat), k ≤ 64 → x < 2 ^ k → x < 2 ^ Lib.bitLen x := by
  intro k
  induction k with
  | zero => intro x _ h; obtain rfl : x = 0 := by simpa using h
            decide
  | succ k ih =>
    intro x hk h
    by_cases h0 : x = 0
    · subst h0; decide
    · have hx : x < 2 ^ 64 := Nat.lt_of_lt_of_le h (Nat.pow_le_pow_right (by decide) hk)
      rw [Lib.bitLen_half x h0 hx, Nat.add_comm, Nat.pow_succ]
      have := ih (x / 2) (by omega) (by rw [Nat.pow_succ] at h; omega)
      omega
theorem bits_lower : ∀ (k x : Nat), k ≤ 64 → x < 2 ^ k → ∀ j, j < Lib.bitLen x → 2 ^ j ≤ x := by
  intro k
  induction k with
  | zero => intro x _ h j hj
            obtain rfl : x = 0 := by simpa using h
            exact absurd hj (by simp [Lib.bitLen, Lib.bitLenAux])
  | succ k ih =>
    intro x hk h j hj
    by_cases h0 : x = 0
    · subst h0; exact absurd hj (by simp [Lib.bitLen, Lib.bitLenAux])
    · have hx : x < 2 ^ 64 := Nat.lt_of_lt_of_le h (Nat.pow_le_pow_right (by decide) hk)
      rw [Lib.bitLen_half x h0 hx] at hj
      cases j with
      | zero => simp; omega
      | succ j =>
        have := ih (x / 2) (by omega) (by rw [Nat.pow_succ] at h; omega) j (by omega)
        rw [Nat.pow_succ]; omega

theorem tab_at (i : Nat) (h : i < Lib.len8tab.size) : (Lib.len8tab[i]).toNat = Lib.bitLen i := by
  have h2 : i < 256 := by rw [Lib.len8tab_size] at h; exact h
  have e := Lib.len8_eq ⟨i, h2⟩
  simp only [Lib.len8, Int.toNat_natCast, getElem?_pos Lib.len8tab i h, Option.getD_some] at e
  omega
theorem bits_low (i : Nat) (h : i < 256) : Lib.bitLen i ≤ 8 := Lib.bitLen_le8 ⟨i, h⟩
/-- the size of the least ring with n places -/
def ringK (n : Int) : Nat := Lib.bitLen (n - 1).toNat
def ringN (n : Int) : Nat := 2 ^ ringK n
def okN (n : Int) : Bool := decide (1 ≤ n) && decide (n ≤ 65536)
def sizeN (n : Int) : Int := if okN n then (ringN n : Int) else 0
def errN (n : Int) : Int := if okN n then 0 else 70
theorem ringK_le {n : Int} (h0 : 1 ≤ n) (h1 : n ≤ 65536) : ringK n ≤ 16 := Lib.bitLen_le _ 16 (by decide) (by omega)
theorem ringN_le {n : Int} (h0 : 1 ≤ n) (h1 : n ≤ 65536) : ringN n ≤ 65536 := Nat.pow_le_pow_right (n := 2) (by decide) (ringK_le h0 h1)
theorem ringN_pos (n : Int) : 1 ≤ ringN n := Nat.one_le_two_pow
theorem ringN_ge {n : Int} (h0 : 1 ≤ n) (h1 : n ≤ 65536) : n ≤ ringN n := by
  have := bits_upper 16 (n - 1).toNat (by decide) (by omega)
  unfold ringN ringK
  omega
theorem ringN_below {n : Int} (h0 : 1 ≤ n) (h1 : n ≤ 65536) {j : Nat} (hj : j < ringK n) : ((2 ^ j : Nat) : Int) < n := by
  have := bits_lower 16 (n - 1).toNat (by decide) (by omega) j hj
  omega

/-- may a size be a ring's? -/
def ringB (n : Int) : Bool := okN n && decide ((ringN n : Int) = n)
def placeI (x n : Int) : Int := if ringB n then x % n else 0
def errP (n : Int) : Int := if ringB n then 0 else 70

end Go.Proofs.Ytcfmbppnghlkaaa
