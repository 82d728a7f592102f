/- Plain facts on sets as numbers of 64 bits: no program is named here. -/
import Derived.WalkKit
import Derived.Laws.Bits64
import Derived.Laws.BitsAllLaws
namespace Go.Proofs.Ytiaacjollcccaaa

def big : Int := 18446744073709551616
/-- bit k of s -/
def tb (s : Int) (k : Nat) : Bool := s.toNat.testBit k
/-- is i a member of s? -/
def hasB (s i : Int) : Bool := decide (0 ≤ i) && (decide (i < 64) && tb s i.toNat)
/-- s, and the member k -/
def setI (s : Int) (k : Nat) : Int := ((s.toNat ||| 2 ^ k : Nat) : Int)
/-- the members of s below n, rising -/
def memsTo (s : Int) (n : Nat) : List Nat := (List.range n).filter (fun k => tb s k)
def mems (s : Int) : List Nat := memsTo s 64

theorem memsTo_zero (s : Int) : memsTo s 0 = [] := rfl
theorem memsTo_succ (s : Int) (n : Nat) : memsTo s (n + 1) = memsTo s n ++ (if tb s n then [n] else []) := by
  unfold memsTo
  rw [List.range_succ, List.filter_append]
  cases h : tb s n <;> simp [h]
theorem memsTo_hit (s : Int) (n : Nat) (h : tb s n = true) : memsTo s (n + 1) = memsTo s n ++ [n] := by rw [memsTo_succ, if_pos h]
theorem memsTo_miss (s : Int) (n : Nat) (h : tb s n = false) : memsTo s (n + 1) = memsTo s n := by rw [memsTo_succ]; simp [h]
theorem memsTo_le (s : Int) (n : Nat) : (memsTo s n).length ≤ n := by
  have := List.length_filter_le (fun k => tb s k) (List.range n)
  simpa [memsTo] using this
theorem mem_memsTo {s : Int} {n k : Nat} : k ∈ memsTo s n ↔ k < n ∧ tb s k = true := by simp [memsTo]
theorem mem_mems {s : Int} {k : Nat} : k ∈ mems s ↔ k < 64 ∧ tb s k = true := mem_memsTo

theorem lt_pow {s : Int} (h1 : s < 18446744073709551616) : s.toNat < 2 ^ 64 := by omega
theorem setI_nonneg (s : Int) (k : Nat) : 0 ≤ setI s k := by unfold setI; omega
theorem setI_lt {s : Int} {k : Nat} (h1 : s < 18446744073709551616) (hk : k < 64) : setI s k < 18446744073709551616 := by
  have h := Nat.or_lt_two_pow (lt_pow h1) (Nat.pow_lt_pow_right (a := 2) (by decide) hk)
  unfold setI; omega
theorem tb_setI (s : Int) (k j : Nat) : tb (setI s k) j = (tb s j || decide (k = j)) := by
  unfold tb setI
  rw [Int.toNat_natCast, Nat.testBit_or, Nat.testBit_two_pow]
theorem tb_ge {s : Int} (h1 : s < 18446744073709551616) {j : Nat} (hj : 64 ≤ j) : tb s j = false :=
  Nat.testBit_lt_two_pow (Nat.lt_of_lt_of_le (lt_pow h1) (Nat.pow_le_pow_right (by decide) hj))
theorem tb_zero (j : Nat) : tb 0 j = false := by simp [tb]
/-- two sets with the same members are one -/
theorem eq_of_tb {s t : Int} (h0 : 0 ≤ s) (g0 : 0 ≤ t) (h : ∀ j, tb s j = tb t j) : s = t := by
  have : s.toNat = t.toNat := Nat.eq_of_testBit_eq h
  omega
theorem eq_of_tb64 {s t : Int} (h0 : 0 ≤ s) (h1 : s < 18446744073709551616) (g0 : 0 ≤ t) (g1 : t < 18446744073709551616) (h : ∀ j, j < 64 → tb s j = tb t j) : s = t :=
  eq_of_tb h0 g0 fun j => by
    by_cases hj : j < 64
    · exact h j hj
    · rw [tb_ge h1 (by omega), tb_ge g1 (by omega)]
theorem setI_of_has {s : Int} {k : Nat} (h0 : 0 ≤ s) (h : tb s k = true) : setI s k = s :=
  eq_of_tb (setI_nonneg _ _) h0 fun j => by
    rw [tb_setI]
    by_cases e : k = j
    · subst e; simp [h]
    · simp [e]

/-! ### how the walk spells it -/
theorem pow_cast (k : Nat) : (2 : Int) ^ k = ((2 ^ k : Nat) : Int) := by simp
theorem div_pow_lt {s : Int} (h0 : 0 ≤ s) (h1 : s < 18446744073709551616) (k : Nat) : 0 ≤ s / 2 ^ k ∧ s / 2 ^ k < 18446744073709551616 := by
  have hp : (0 : Int) < 2 ^ k := Int.pow_pos (by decide)
  refine ⟨Int.ediv_nonneg h0 (Int.le_of_lt hp), ?_⟩
  exact Int.lt_of_le_of_lt (Int.ediv_le_self _ h0) h1
theorem toNat_div_pow {s : Int} (h0 : 0 ≤ s) (k : Nat) : (s / 2 ^ k).toNat = s.toNat / 2 ^ k := by
  obtain ⟨n, rfl⟩ := Int.eq_ofNat_of_zero_le h0
  rw [pow_cast, ← Int.natCast_ediv, Int.toNat_natCast, Int.toNat_natCast]
/-- 's>>k & 1 == 1' -/
theorem shr_and {s : Int} (h0 : 0 ≤ s) (h1 : s < 18446744073709551616) (k : Nat) : (bits .and .u64 (s / 2 ^ k) 1 == 1) = tb s k := by
  obtain ⟨g0, g1⟩ := div_pow_lt h0 h1 k
  rw [u64_and _ _ g0 g1 (by decide) (by decide), toNat_div_pow h0]
  unfold tb
  rw [Nat.testBit_eq_decide_div_mod_eq]
  have : s.toNat / 2 ^ k &&& Int.toNat 1 = s.toNat / 2 ^ k % 2 := Nat.and_two_pow_sub_one_eq_mod _ 1
  rw [this]
  generalize s.toNat / 2 ^ k % 2 = q
  rw [Bool.eq_iff_iff, beq_iff_eq, decide_eq_true_iff]
  omega
/-- 's | 1<<k' -/
theorem or_bit {s : Int} (h0 : 0 ≤ s) (h1 : s < 18446744073709551616) {k : Nat} (hk : k < 64) : bits .or .u64 s (IntKind.u64.wrap (2 ^ min k 64)) = setI s k := by
  rw [Nat.min_eq_left (by omega)]
  have hp : (2 : Nat) ^ k < 2 ^ 64 := Nat.pow_lt_pow_right (by decide) hk
  have e : IntKind.u64.wrap (2 ^ k) = ((2 ^ k : Nat) : Int) := by
    rw [IntKind.wrap_u64, pow_cast]
    generalize (2 : Nat) ^ k = q at *
    omega
  rw [e]
  unfold setI
  generalize (2 : Nat) ^ k = q at *
  rw [u64_or _ _ h0 h1 (by omega) (by omega), Int.toNat_natCast]
theorem or_bit' {s : Int} (h0 : 0 ≤ s) (h1 : s < 18446744073709551616) {k : Nat} (hk : k < 64) : bits .or .u64 s (IntKind.u64.wrap (2 ^ k)) = setI s k := by
  have := or_bit h0 h1 hk
  rwa [Nat.min_eq_left (by omega)] at this
/-- the set of all members below n -/
theorem below_eq {n : Nat} (hn : n ≤ 64) : IntKind.u64.wrap (IntKind.u64.wrap (2 ^ min n 64) - 1) = ((2 ^ n - 1 : Nat) : Int) := by
  rw [Nat.min_eq_left hn]
  have hq : 0 < (2 : Nat) ^ n := Nat.pow_pos (by decide)
  have hp : (2 : Nat) ^ n ≤ 2 ^ 64 := Nat.pow_le_pow_right (by decide) hn
  rw [IntKind.wrap_u64, IntKind.wrap_u64, pow_cast]
  generalize (2 : Nat) ^ n = q at *
  omega
theorem below_big {n : Nat} (hn : 64 ≤ n) : IntKind.u64.wrap (IntKind.u64.wrap (2 ^ min n 64) - 1) = 18446744073709551615 := by
  rw [Nat.min_eq_right hn]; decide
theorem low_lt (n : Nat) (hn : n ≤ 64) : ((2 ^ n - 1 : Nat) : Int) < 18446744073709551616 := by
  have hp : (2 : Nat) ^ n ≤ 2 ^ 64 := Nat.pow_le_pow_right (by decide) hn
  omega
theorem tb_and_low (s : Int) (n j : Nat) : ((s.toNat &&& (2 ^ n - 1) : Nat)).testBit j = (decide (j < n) && tb s j) := by
  rw [Nat.testBit_and, Nat.testBit_two_pow_sub_one]; unfold tb; exact Bool.and_comm _ _

/-! ### how many members -/
def pop : Nat → Nat → Nat
  | 0, _ => 0
  | n + 1, x => x % 2 + pop n (x / 2)
theorem pop_eq (n : Nat) : ∀ x : Nat, ((List.range n).filter (fun k => x.testBit k)).length = pop n x := by
  induction n with
  | zero => intro x; rfl
  | succ n ih =>
    intro x
    rw [List.range_succ_eq_map, List.filter_cons, List.filter_map]
    have e : ((List.range n).filter ((fun k => x.testBit k) ∘ Nat.succ)).length = pop n (x / 2) := by
      rw [← ih (x / 2)]
      congr 2
      funext k
      simp [Nat.testBit_succ]
    have hb : x.testBit 0 = decide (x % 2 = 1) := by rw [Nat.testBit_zero]
    unfold pop
    rw [hb]
    rcases Nat.mod_two_eq_zero_or_one x with h | h
    · simp [h, e]
    · simp [h, e]; omega
theorem mems_pop (s : Int) : (mems s).length = pop 64 s.toNat := pop_eq 64 s.toNat
theorem pop_add (m : Nat) : ∀ (n x : Nat), pop (m + n) x = pop m (x % 2 ^ m) + pop n (x / 2 ^ m) := by
  induction m with
  | zero => intro n x; simp [pop]
  | succ m ih =>
    intro n x
    rw [show m + 1 + n = (m + n) + 1 by omega]
    show x % 2 + pop (m + n) (x / 2) = x % 2 ^ (m + 1) % 2 + pop m (x % 2 ^ (m + 1) / 2) + pop n (x / 2 ^ (m + 1))
    rw [ih n (x / 2), Nat.div_div_eq_div_mul]
    have e1 : x % 2 ^ (m + 1) % 2 = x % 2 := Nat.mod_mod_of_dvd x ⟨2 ^ m, by rw [Nat.pow_succ, Nat.mul_comm]⟩
    have e2 : x % 2 ^ (m + 1) / 2 = x / 2 % 2 ^ m := by rw [Nat.pow_succ, Nat.mul_comm (2 ^ m) 2, Nat.mod_mul_right_div_self]
    rw [e1, e2, Nat.pow_succ, Nat.mul_comm (2 ^ m) 2]
    omega

theorem and_chunk (c d y m : Nat) (hc : c < 256) (hd : d < 256) : (c + 256 * y) &&& (d + 256 * m) = (c &&& d) + 256 * (y &&& m) := by
  apply Nat.eq_of_testBit_eq
  intro j
  have hcd : c &&& d < 2 ^ 8 := Nat.and_lt_two_pow _ (by omega)
  rw [Nat.testBit_and, show c + 256 * y = 2 ^ 8 * y + c by omega, show d + 256 * m = 2 ^ 8 * m + d by omega, show (c &&& d) + 256 * (y &&& m) = 2 ^ 8 * (y &&& m) + (c &&& d) by omega]
  rw [Nat.testBit_two_pow_mul_add _ (by omega : c < 2 ^ 8), Nat.testBit_two_pow_mul_add _ (by omega : d < 2 ^ 8), Nat.testBit_two_pow_mul_add _ hcd]
  by_cases h : j < 8 <;> simp [h, Nat.testBit_and]

end Go.Proofs.Ytiaacjollcccaaa
