/- What the small functions of package bits and of the document's answer come to: members, numbers of members. -/
import Derived.Test.YtiaacjollcccaaaChecked
import Derived.Test.YtiaacjollcccaaaMath2
import Derived.WalkKit
import Derived.WalkSpells
import Derived.WalkLawsBesides
namespace Go.Proofs.Ytiaacjollcccaaa
open Go.RowKit

theorem ret_int {k : IntKind} {a b : Int} (h : a = b) : Ending.returned (.int k a) = .returned (.int k b) := by rw [h]
theorem ret_bool {a b : Bool} (h : a = b) : Ending.returned (.bool a) = .returned (.bool b) := by rw [h]

def mayB (i : Int) : Bool := decide (0 ≤ i) && decide (i < 64)
theorem mayB_true {i : Int} (h0 : 0 ≤ i) (h1 : i < 64) : mayB i = true := by simp [mayB, h0, h1]
theorem mayB_false {i : Int} (h : i < 0 ∨ 64 ≤ i) : mayB i = false := by simp [mayB]; omega
theorem hasB_of {s i : Int} (h0 : 0 ≤ i) (h1 : i < 64) : hasB s i = tb s i.toNat := by simp [hasB, h0, h1]
theorem hasB_out {s i : Int} (h : i < 0 ∨ 64 ≤ i) : hasB s i = false := by
  rcases h with h | h
  · simp [hasB, show ¬ (0 ≤ i) by omega]
  · simp [hasB, show ¬ (i < 64) by omega]

/-- what 'below' answers -/
def lowI (n : Nat) : Int := ((2 ^ (min n 64) - 1 : Nat) : Int)
theorem lowI_nonneg (n : Nat) : 0 ≤ lowI n := by unfold lowI; omega
theorem lowI_lt (n : Nat) : lowI n < 18446744073709551616 := low_lt _ (by omega)
/-- how many members are below i -/
def rankI (s i : Int) : Nat := (memsTo s (min i.toNat 64)).length
theorem filter_low (s : Int) (m d : Nat) : (List.range (m + d)).filter (fun k => decide (k < m) && tb s k) = memsTo s m := by
  induction d with
  | zero =>
    unfold memsTo
    apply List.filter_congr
    intro x hx
    have : x < m := by simpa using hx
    simp [this]
  | succ d ih => rw [show m + (d + 1) = (m + d) + 1 by omega, List.range_succ, List.filter_append, ih]; simp; omega
theorem and_low_eq (s : Int) (hs0 : 0 ≤ s) (hs1 : s < 18446744073709551616) (n : Nat) : ∃ t, bits .and .u64 s (lowI n) = t ∧ 0 ≤ t ∧ t < 18446744073709551616 ∧ (mems t).length = (memsTo s (min n 64)).length := by
  have hm : min n 64 ≤ 64 := by omega
  refine ⟨((s.toNat &&& (2 ^ (min n 64) - 1) : Nat) : Int), ?_, by omega, ?_, ?_⟩
  · rw [u64_and _ _ hs0 hs1 (lowI_nonneg n) (lowI_lt n)]; unfold lowI; rw [Int.toNat_natCast]
  · have := Nat.and_le_left (n := s.toNat) (m := 2 ^ (min n 64) - 1); omega
  · generalize min n 64 = m at hm
    have e : (fun k => tb ((s.toNat &&& (2 ^ m - 1) : Nat) : Int) k) = fun k => (decide (k < m) && tb s k) := funext fun j => by
      have := tb_and_low s m j
      unfold tb at this ⊢
      rw [Int.toNat_natCast]; exact this
    rw [← filter_low s m (64 - m), show m + (64 - m) = 64 by omega]
    unfold mems
    conv => lhs; unfold memsTo
    rw [e]

theorem div_step {s : Int} (h0 : 0 ≤ s) (j : Nat) : s / 2 ^ j / 2 = s / 2 ^ (j + 1) := by
  obtain ⟨n, rfl⟩ := Int.eq_ofNat_of_zero_le h0
  rw [pow_cast, pow_cast, ← Int.natCast_ediv, ← Int.natCast_ediv, Nat.pow_succ, ← Nat.div_div_eq_div_mul]
  omega
theorem mod_bit {s : Int} (h0 : 0 ≤ s) (j : Nat) : (s / 2 ^ j % 2 == 1) = tb s j := by
  unfold tb
  rw [Nat.testBit_eq_decide_div_mod_eq, ← toNat_div_pow h0]
  have hp : (0 : Int) < 2 ^ j := Int.pow_pos (by decide)
  have := Int.ediv_nonneg h0 (Int.le_of_lt hp)
  generalize s / 2 ^ j = q at *
  rw [Bool.eq_iff_iff, beq_iff_eq, decide_eq_true_iff]
  omega
theorem add_bit {x k : Nat} (hx : x < 18446744073709551616) (hk : k < 64) (h : x.testBit k = false) : x + 2 ^ k = x ||| 2 ^ k := by
  have hp : (2 : Nat) ^ k < 2 ^ 64 := Nat.pow_lt_pow_right (by decide) hk
  have hx' : x < 2 ^ 65 := by omega
  have hp' : (2 : Nat) ^ k < 2 ^ 65 := by omega
  have hb : (BitVec.ofNat 65 x) &&& (BitVec.ofNat 65 (2 ^ k)) = 0#65 := by
    apply BitVec.eq_of_toNat_eq
    rw [BitVec.toNat_and, BitVec.toNat_ofNat, BitVec.toNat_ofNat, Nat.mod_eq_of_lt hx', Nat.mod_eq_of_lt hp']
    show x &&& 2 ^ k = 0
    apply Nat.eq_of_testBit_eq
    intro j
    rw [Nat.testBit_and, Nat.testBit_two_pow]
    by_cases e : k = j
    · subst e; simp [h]
    · simp [e]
  have := congrArg BitVec.toNat (BitVec.add_eq_or_of_and_eq_zero _ _ hb)
  rw [BitVec.toNat_add, BitVec.toNat_or, BitVec.toNat_ofNat, BitVec.toNat_ofNat, Nat.mod_eq_of_lt hx', Nat.mod_eq_of_lt hp'] at this
  generalize (2 : Nat) ^ k = q at *
  omega
theorem setI_add {s : Int} (hs0 : 0 ≤ s) (hs1 : s < 18446744073709551616) {k : Nat} (hk : k < 64) (h : tb s k = false) : s + 2 ^ k = setI s k := by
  unfold setI
  rw [← add_bit (by omega) hk h, pow_cast]
  omega
end Go.Proofs.Ytiaacjollcccaaa
