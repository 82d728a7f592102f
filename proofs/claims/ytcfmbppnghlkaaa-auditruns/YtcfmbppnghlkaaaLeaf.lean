/- What the small functions of package bits and of the document's answer come to: members, numbers of members. -/
import Derived.Test.YtcfmbppnghlkaaaChecked
import Derived.Test.YtcfmbppnghlkaaaMath2
import Derived.WalkKit
import Derived.WalkSpells
import Derived.WalkLawsBesides
namespace Go.Proofs.Ytcfmbppnghlkaaa
open Go.RowKit

theorem ret_int {k : IntKind} {a b : Int} (h : a = b) : Ending.returned (.int k a) = .returned (.int k b) := by rw [h]
theorem ret_bool {a b : Bool} (h : a = b) : Ending.returned (.bool a) = .returned (.bool b) := by rw [h]

def mayB (i : Int) : Bool := decide (0 ≤ i) && decide (i < 64)
theorem mayB_true {i : Int} (h0 : 0 ≤ i) (h1 : i < 64) : mayB i = true := by simp [mayB, h0, h1]
theorem mayB_false {i : Int} (h : i < 0 ∨ 64 ≤ i) : mayB i = false := by simp [mayB]; omega
theorem hasB_of {s i : Int} (h0 : 0 ≤ i) (h1 : i < 64) : hasB s i = tb s i.toNat := by simp [hasB, h0, h1]
theorem hasB_out {s i : Int} (h : i < 0 ∨ 64 ≤ i) : hasB s i = false := by
  rcases h with h | h
  · simp [hasB, show ¬ (0 ≤ i) by omega]
  · simp [hasB, show ¬ (i < 64) by omega]

set_option maxHeartbeats 400000 in
theorem may_yes (i : Int) (w : World) (h0 : 0 ≤ i) (h1 : i < 64) :
    Calls Try.prog 58 #[.int .i64 i] w fun e w' => e = .returned (.bool true) ∧ w' = w := by
  go_enter Try.func58, Try.ntmps58
  go_wp2
  go_ret
  exact ⟨ret_bool (by simp), rfl⟩
set_option maxHeartbeats 400000 in
theorem may_no (i : Int) (w : World) (h : i < 0 ∨ 64 ≤ i) :
    Calls Try.prog 58 #[.int .i64 i] w fun e w' => e = .returned (.bool false) ∧ w' = w := by
  rcases h with h | h
  · go_enter Try.func58, Try.ntmps58
    go_wp2
    go_ret
    exact ⟨rfl, rfl⟩
  · have h' : 0 ≤ i := by omega
    go_enter Try.func58, Try.ntmps58
    go_wp2
    go_ret
    exact ⟨ret_bool (by simp; omega), rfl⟩

set_option maxHeartbeats 400000 in
theorem has_any (s i : Int) (w : World) (hs0 : 0 ≤ s) (hs1 : s < 18446744073709551616) :
    Calls Try.prog 49 #[.int .u64 s, .int .i64 i] w fun e w' => e = .returned (.bool (hasB s i)) ∧ w' = w := by
  by_cases h : 0 ≤ i ∧ i < 64
  · obtain ⟨h0, h1⟩ := h
    go_enter Try.func49, Try.ntmps49
    go_wp2_with (go_at_call 58; refine (may_yes _ _ h0 h1).mono ?_; rintro e w' ⟨rfl, rfl⟩)
    go_ret
    exact ⟨ret_bool (by rw [hasB_of h0 h1]; exact shr_and hs0 hs1 _), rfl⟩
  · have h2 : i < 0 ∨ 64 ≤ i := by omega
    clear h
    go_enter Try.func49, Try.ntmps49
    go_wp2_with (go_at_call 58; refine (may_no _ _ h2).mono ?_; rintro e w' ⟨rfl, rfl⟩)
    go_ret
    exact ⟨ret_bool (by rw [hasB_out h2]), rfl⟩
/-- at a number from 0 to 63, with the answer known -/
theorem has_at (s : Int) (k : Nat) (w : World) (hs0 : 0 ≤ s) (hs1 : s < 18446744073709551616) (hk : k < 64) (b : Bool) (hb : tb s k = b) :
    Calls Try.prog 49 #[.int .u64 s, .int .i64 k] w fun e w' => e = .returned (.bool b) ∧ w' = w := by
  refine (has_any s k w hs0 hs1).mono ?_
  rintro e w' ⟨rfl, rfl⟩
  exact ⟨ret_bool (by rw [hasB_of (by omega) (by omega), Int.toNat_natCast]; exact hb), rfl⟩

/-- what 'below' answers -/
def lowI (n : Nat) : Int := ((2 ^ (min n 64) - 1 : Nat) : Int)
theorem lowI_nonneg (n : Nat) : 0 ≤ lowI n := by unfold lowI; omega
theorem lowI_lt (n : Nat) : lowI n < 18446744073709551616 := low_lt _ (by omega)
/-- how many members are below i -/
def rankI (s i : Int) : Nat := (memsTo s (min i.toNat 64)).length
theorem filter_low (s : Int) (m d : Nat) : (List.range (m + d)).filter (fun k => decide (k < m) && tb s k) = memsTo s m := by
  induction d with
  | zero =>
    unfold memsTo
    apply List.filter_congr
    intro x hx
    have : x < m := by simpa using hx
    simp [this]
  | succ d ih => rw [show m + (d + 1) = (m + d) + 1 by omega, List.range_succ, List.filter_append, ih]; simp; omega
theorem and_low_eq (s : Int) (hs0 : 0 ≤ s) (hs1 : s < 18446744073709551616) (n : Nat) : ∃ t, bits .and .u64 s (lowI n) = t ∧ 0 ≤ t ∧ t < 18446744073709551616 ∧ (mems t).length = (memsTo s (min n 64)).length := by
  have hm : min n 64 ≤ 64 := by omega
  refine ⟨((s.toNat &&& (2 ^ (min n 64) - 1) : Nat) : Int), ?_, by omega, ?_, ?_⟩
  · rw [u64_and _ _ hs0 hs1 (lowI_nonneg n) (lowI_lt n)]; unfold lowI; rw [Int.toNat_natCast]
  · have := Nat.and_le_left (n := s.toNat) (m := 2 ^ (min n 64) - 1); omega
  · generalize min n 64 = m at hm
    have e : (fun k => tb ((s.toNat &&& (2 ^ m - 1) : Nat) : Int) k) = fun k => (decide (k < m) && tb s k) := funext fun j => by
      have := tb_and_low s m j
      unfold tb at this ⊢
      rw [Int.toNat_natCast]; exact this
    rw [← filter_low s m (64 - m), show m + (64 - m) = 64 by omega]
    unfold mems
    conv => lhs; unfold memsTo
    rw [e]

theorem div_step {s : Int} (h0 : 0 ≤ s) (j : Nat) : s / 2 ^ j / 2 = s / 2 ^ (j + 1) := by
  obtain ⟨n, rfl⟩ := Int.eq_ofNat_of_zero_le h0
  rw [pow_cast, pow_cast, ← Int.natCast_ediv, ← Int.natCast_ediv, Nat.pow_succ, ← Nat.div_div_eq_div_mul]
  omega
theorem mod_bit {s : Int} (h0 : 0 ≤ s) (j : Nat) : (s / 2 ^ j % 2 == 1) = tb s j := by
  unfold tb
  rw [Nat.testBit_eq_decide_div_mod_eq, ← toNat_div_pow h0]
  have hp : (0 : Int) < 2 ^ j := Int.pow_pos (by decide)
  have := Int.ediv_nonneg h0 (Int.le_of_lt hp)
  generalize s / 2 ^ j = q at *
  rw [Bool.eq_iff_iff, beq_iff_eq, decide_eq_true_iff]
  omega
theorem add_bit {x k : Nat} (hx : x < 18446744073709551616) (hk : k < 64) (h : x.testBit k = false) : x + 2 ^ k = x ||| 2 ^ k := by
  have hp : (2 : Nat) ^ k < 2 ^ 64 := Nat.pow_lt_pow_right (by decide) hk
  have hx' : x < 2 ^ 65 := by omega
  have hp' : (2 : Nat) ^ k < 2 ^ 65 := by omega
  have hb : (BitVec.ofNat 65 x) &&& (BitVec.ofNat 65 (2 ^ k)) = 0#65 := by
    apply BitVec.eq_of_toNat_eq
    rw [BitVec.toNat_and, BitVec.toNat_ofNat, BitVec.toNat_ofNat, Nat.mod_eq_of_lt hx', Nat.mod_eq_of_lt hp']
    show x &&& 2 ^ k = 0
    apply Nat.eq_of_testBit_eq
    intro j
    rw [Nat.testBit_and, Nat.testBit_two_pow]
    by_cases e : k = j
    · subst e; simp [h]
    · simp [e]
  have := congrArg BitVec.toNat (BitVec.add_eq_or_of_and_eq_zero _ _ hb)
  rw [BitVec.toNat_add, BitVec.toNat_or, BitVec.toNat_ofNat, BitVec.toNat_ofNat, Nat.mod_eq_of_lt hx', Nat.mod_eq_of_lt hp'] at this
  generalize (2 : Nat) ^ k = q at *
  omega
theorem setI_add {s : Int} (hs0 : 0 ≤ s) (hs1 : s < 18446744073709551616) {k : Nat} (hk : k < 64) (h : tb s k = false) : s + 2 ^ k = setI s k := by
  unfold setI
  rw [← add_bit (by omega) hk h, pow_cast]
  omega
set_option maxHeartbeats 400000 in
theorem rhas_yes (s : Int) (k : Nat) (w : World) (hk : k < 64) (hs0 : 0 ≤ s) (hs1 : s < 18446744073709551616) :
    Calls Try.prog 40 #[.int .u64 s, .int .i64 k] w fun e w' => e = .returned (.bool (tb s k)) ∧ w' = w := by
  go_enter Try.func40, Try.ntmps40
  go_wp2
  go_loop [0, 1] (fun t i => ∃ j : Nat, j ≤ k ∧ t = .int .u64 (s / 2 ^ j) ∧ i = .int .i64 ((k : Int) - j)) (fun _ i => (intOf i).toNat)
  case atStart => exact ⟨0, by omega, by simp, by simp⟩
  case round =>
    obtain ⟨j, hj, rfl, rfl⟩ := hrel
    have hd := div_pow_lt hs0 hs1 j
    by_cases hlt : j < k
    · go_wp2
      go_round
      case rel => exact ⟨j + 1, by omega, by rw [← div_step hs0], by go_num⟩
      case measure => simp [intOf]; omega
    · obtain rfl : j = k := by omega
      go_wp2
      go_ret
      exact ⟨ret_bool (mod_bit hs0 j), rfl⟩

set_option maxHeartbeats 400000 in
theorem rhas_any (s i : Int) (w : World) (hs0 : 0 ≤ s) (hs1 : s < 18446744073709551616) :
    Calls Try.prog 40 #[.int .u64 s, .int .i64 i] w fun e w' => e = .returned (.bool (hasB s i)) ∧ w' = w := by
  by_cases h : 0 ≤ i ∧ i < 64
  · obtain ⟨h0, h1⟩ := h
    obtain ⟨k, rfl⟩ := Int.eq_ofNat_of_zero_le h0
    refine (rhas_yes s k w (by omega) hs0 hs1).mono ?_
    rintro e w' ⟨rfl, rfl⟩
    exact ⟨ret_bool (by rw [hasB_of h0 h1, Int.toNat_natCast]), rfl⟩
  · have h2 : i < 0 ∨ 64 ≤ i := by omega
    clear h
    have e1 := hasB_out (s := s) h2
    rcases h2 with h2 | h2
    · go_enter Try.func40, Try.ntmps40
      go_wp2
      go_ret
      exact ⟨ret_bool e1.symm, rfl⟩
    · have h3 : 0 ≤ i := by omega
      go_enter Try.func40, Try.ntmps40
      go_wp2
      go_ret
      exact ⟨ret_bool e1.symm, rfl⟩
theorem rhas_at (s : Int) (k : Nat) (w : World) (hs0 : 0 ≤ s) (hs1 : s < 18446744073709551616) (hk : k < 64) (b : Bool) (hb : tb s k = b) :
    Calls Try.prog 40 #[.int .u64 s, .int .i64 k] w fun e w' => e = .returned (.bool b) ∧ w' = w := by
  subst hb
  exact rhas_yes s k w hk hs0 hs1

end Go.Proofs.Ytcfmbppnghlkaaa
