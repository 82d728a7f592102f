/- Which rows are a relation: bits.Check and the document's Check; few, Within. -/
import Derived.Test.YtiaacjollcccaaaRef
namespace Go.Proofs.Ytiaacjollcccaaa
open Go.RowKit

/-- a row whose members are all below n -/
def rowOk (n : Nat) (r : Int) : Bool := (mems r).all fun k => decide (k < n)
theorem rowOk_iff {n : Nat} {r : Int} : rowOk n r = true ↔ ∀ k, k < 64 → tb r k = true → k < n := by
  unfold rowOk
  rw [List.all_eq_true]
  constructor
  · intro h k hk ht; simpa using h k (mem_mems.2 ⟨hk, ht⟩)
  · intro h k hk; obtain ⟨h1, h2⟩ := mem_mems.1 hk; simpa using h k h1 h2
def chkB (n : Nat) (z : Nat → Int) : Bool := (List.range n).all fun j => rowOk n (z j)
theorem chkB_iff {n : Nat} {z : Nat → Int} : chkB n z = true ↔ ∀ j, j < n → rowOk n (z j) = true := by
  unfold chkB; rw [List.all_eq_true]; simp
def chkI (n : Nat) (z : Nat → Int) : Int := if 64 < n then 3 else if chkB n z then 0 else 10

theorem andNot_eq {r : Int} (hr0 : 0 ≤ r) (hr1 : r < 18446744073709551616) {n : Nat} (hn : n ≤ 64) : (bits .andNot .u64 r (lowI n) != 0) = !rowOk n r := by
  rw [u64_andNot _ _ hr0 hr1 (lowI_nonneg n) (lowI_lt n)]
  have hb : ∀ j, (r.toNat &&& (18446744073709551615 - (lowI n).toNat)).testBit j = (tb r j && (decide (j < 64) && !decide (j < n))) := by
    intro j
    have hl : (lowI n).toNat = 2 ^ n - 1 := by unfold lowI; rw [Int.toNat_natCast, Nat.min_eq_left hn]
    have hp : (2 : Nat) ^ n ≤ 2 ^ 64 := Nat.pow_le_pow_right (by decide) hn
    have hq : 0 < (2 : Nat) ^ n := Nat.pow_pos (by decide)
    rw [hl, show 18446744073709551615 - (2 ^ n - 1) = 2 ^ 64 - ((2 ^ n - 1) + 1) by omega, Nat.testBit_and, Nat.testBit_two_pow_sub_succ (by omega), Nat.testBit_two_pow_sub_one]
    rfl
  cases h : rowOk n r
  · rw [show (!false) = true from rfl]
    have h' : ¬ rowOk n r = true := by rw [h]; decide
    rw [rowOk_iff] at h'
    simp only [Classical.not_forall] at h'
    obtain ⟨k, hk, ht, hkn⟩ := h'
    have := hb k
    rw [ht] at this
    simp [hk, hkn] at this
    rw [bne_iff_ne]
    intro e
    have e0 : r.toNat &&& (18446744073709551615 - (lowI n).toNat) = 0 := by omega
    have h2 := hb k
    rw [e0, ht] at h2
    simp [hk, hkn] at h2
  · have h' := rowOk_iff.1 h
    have e0 : r.toNat &&& (18446744073709551615 - (lowI n).toNat) = 0 := by
      apply Nat.eq_of_testBit_eq
      intro j
      rw [hb j, Nat.zero_testBit]
      cases ht : tb r j
      · simp
      · by_cases hj : j < 64
        · have := h' j hj ht; simp [hj, this]
        · simp [hj]
    rw [e0]; rfl

/-- a row that holds no row's number too much: asked of its greatest member -/
theorem mems_last {r : Int} {n : Nat} {m : Nat} (hm : (mems r).length = m + 1) : rowOk n r = decide (memAt r m < (n : Int)) := by
  have hsorted : (mems r).Pairwise (· < ·) := List.Pairwise.filter _ List.pairwise_lt_range
  have hl : m < (mems r).length := by omega
  have hat : memAt r m = (((mems r)[m]'hl : Nat) : Int) := by simp [memAt, hl]
  rw [hat, Bool.eq_iff_iff]
  unfold rowOk
  rw [List.all_eq_true, decide_eq_true_iff]
  constructor
  · intro h; have := h _ (List.getElem_mem hl); simp at this; omega
  · intro h x hx
    obtain ⟨i, hi, rfl⟩ := List.mem_iff_getElem.1 hx
    have : (mems r)[i] ≤ (mems r)[m] := by
      by_cases e : i = m
      · subst e; exact Nat.le_refl _
      · exact Nat.le_of_lt (List.pairwise_iff_getElem.1 hsorted i m hi hl (by omega))
    simp; omega
theorem mems_none {r : Int} {n : Nat} (hm : (mems r).length = 0) : rowOk n r = true := by
  have : mems r = [] := List.length_eq_zero_iff.1 hm
  simp [rowOk, this]

/-- has row y all that row x has? -/
def subB (x y : Int) : Bool := (List.range 64).all fun j => !tb x j || tb y j
theorem subB_iff {x y : Int} : subB x y = true ↔ ∀ j, j < 64 → tb x j = true → tb y j = true := by
  unfold subB
  rw [List.all_eq_true]
  constructor
  · intro h j hj ht; have := h j (by simpa using hj); simpa [ht] using this
  · intro h j hj; have hj' : j < 64 := by simpa using hj
    cases ht : tb x j
    · rfl
    · simp [h j hj' ht]
def subAll (n m : Nat) (z y : Nat → Int) : Bool := (List.range (min n m)).all fun i => subB (z i) (y i)
theorem subAll_iff {n m : Nat} {z y : Nat → Int} : subAll n m z y = true ↔ ∀ i, i < n → i < m → subB (z i) (y i) = true := by
  unfold subAll
  rw [List.all_eq_true]
  constructor
  · intro h i h1 h2; exact h i (by simp; omega)
  · intro h i hi; have : i < min n m := by simpa using hi
    exact h i (by omega) (by omega)
theorem beq_cast (k m : Nat) : ((k : Int) == (m : Int)) = decide (k = m) := by
  rw [Bool.eq_iff_iff, beq_iff_eq, decide_eq_true_iff]; omega
def withinB (n m : Nat) (z y : Nat → Int) : Bool := subAll n m z y && decide (n = m)

end Go.Proofs.Ytiaacjollcccaaa
