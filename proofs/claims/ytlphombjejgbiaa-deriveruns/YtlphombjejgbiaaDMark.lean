/- Marks: a bit for each node. -/
import Derived.Test.YtlphombjejgbiaaKOps
import Derived.Test.YtlphombjejgbiaaLeaf
import Derived.BigRegion
namespace Go.Proofs.Ytlphombjejgbiaa
open Go.RowKit
attribute [local go_sem] Oper.semAt_some
set_option maxRecDepth 100000

/-- the words of marks in block b: at 1 to 16 -/
def Wds (w : World) (b : Nat) (z : Nat → Int) : Prop := ∀ i, i < 16 → w.cell? ⟨b, 1 + i, none⟩ = some (.int .u64 (z i)) ∧ 0 ≤ z i ∧ z i < 18446744073709551616

theorem shr6 {x i j : Nat} (e : x = 64 * i + j) (hj : j < 64) : Op.shift .shr .i64 (x : Int) .u64 6 = pure (.int .i64 (i : Int)) := by
  have h := shift_shr .i64 .u64 (x : Int) 6 (by omega) (by decide)
  rw [show (x : Int) / 2 ^ (6 : Int).toNat = (i : Int) from by simp; omega] at h
  exact h
theorem i64_and63 (n : Int) : bits .and .i64 n 63 = n % 64 := by
  have h63 : (BitVec.ofInt 64 63).toNat = 2 ^ 6 - 1 := by decide
  have key : (BitVec.ofInt 64 n &&& BitVec.ofInt 64 63).toNat = (n % ((2 ^ 64 : Nat) : Int)).toNat % 2 ^ 6 := by
    rw [BitVec.toNat_and, BitVec.toNat_ofInt, h63, Nat.and_two_pow_sub_one_eq_mod]
  show IntKind.i64.wrap ((BitVec.ofInt 64 n &&& BitVec.ofInt 64 63).toNat : Nat) = n % 64
  rw [key, IntKind.wrap_i64]
  omega
theorem and63 {x i j : Nat} (e : x = 64 * i + j) (hj : j < 64) : bits .and .i64 (x : Int) 63 = (j : Int) := by
  rw [i64_and63]; omega
/-- a word without a bit -/
def clrI (s : Int) (k : Nat) : Int := ((s.toNat &&& (18446744073709551615 - 2 ^ k) : Nat) : Int)
theorem clrI_nonneg (s : Int) (k : Nat) : 0 ≤ clrI s k := by unfold clrI; omega
theorem clrI_lt {s : Int} {k : Nat} (h1 : s < 18446744073709551616) : clrI s k < 18446744073709551616 := by
  have := Nat.and_le_left (n := s.toNat) (m := 18446744073709551615 - 2 ^ k)
  unfold clrI; omega
theorem tb_clrI (s : Int) {k j : Nat} (hk : k < 64) (hj : j < 64) : tb (clrI s k) j = (tb s j && !decide (k = j)) := by
  have h2 : 2 ^ k < 2 ^ 64 := Nat.pow_lt_pow_right (by omega) hk
  have e : 18446744073709551615 - 2 ^ k = 2 ^ 64 - (2 ^ k + 1) := by omega
  simp only [tb, clrI, Int.toNat_natCast, Nat.testBit_and]
  rw [e, Nat.testBit_two_pow_sub_succ h2, Nat.testBit_two_pow]
  simp [hj]
set_option maxHeartbeats 1000000 in
theorem mhas_any (b : Nat) (z : Nat → Int) (x i j : Nat) (ex : x = 64 * i + j) (hj : j < 64) (hi : i < 16) (w : World) (h : Wds w b z) :
    Calls Try.prog 67 #[.pointer (some ⟨b, 1, none⟩), .int .i64 (x : Int)] w fun e w' => e = .returned (.bool (tb (z i) j)) ∧ w' = w := by
  obtain ⟨hc, h0, h1⟩ := h i hi
  have e1 := shr6 ex hj
  have e2 := and63 ex hj
  have HB : Hid _ := shr_and h0 h1 j
  generalize z i = y at *
  clear ex h
  go_enter Try.func67, Try.ntmps67
  go_wp2_with fail
  go_ret
  exact ⟨ret_bool HB.out, rfl⟩

theorem nbit {s : Int} (h0 : 0 ≤ s) (h1 : s < 18446744073709551616) {k : Nat} (hk : k < 64) : bits .andNot .u64 s (IntKind.u64.wrap (2 ^ k)) = clrI s k := by
  have h2 : 2 ^ k < 2 ^ 64 := Nat.pow_lt_pow_right (by omega) hk
  have e : IntKind.u64.wrap (2 ^ k) = ((2 ^ k : Nat) : Int) := by rw [pow_cast, IntKind.wrap_u64]; generalize 2 ^ k = q at *; omega
  obtain ⟨a, rfl⟩ := Int.eq_ofNat_of_zero_le h0
  rw [e]
  exact u64_andNot_nat a (2 ^ k) (by omega) (by omega)
set_option maxHeartbeats 2000000 in
theorem mset_any (b : Nat) (z : Nat → Int) (x i j : Nat) (ex : x = 64 * i + j) (hj : j < 64) (hi : i < 16) (w : World) (h : Wds w b z) (hf : w.frozen? ⟨b, 1 + i, none⟩ = false) :
    Calls Try.prog 52 #[.pointer (some ⟨b, 1, none⟩), .int .i64 (x : Int)] w fun e w' => e = .returned (.tuple #[]) ∧ w' = (w.setCell ⟨b, 1 + i, none⟩ (.int .u64 (setI (z i) j))).drew := by
  obtain ⟨hc, h0, h1⟩ := h i hi
  have e1 := shr6 ex hj
  have e2 := and63 ex hj
  have HB : Hid _ := or_bit' h0 h1 hj
  generalize z i = y at *
  clear ex h
  go_enter Try.func52, Try.ntmps52
  go_region
  refine bodyPost_end (results_none rfl _ _ _) rfl ?_
  rw [HB.out]
  exact ⟨rfl, rfl⟩
set_option maxHeartbeats 2000000 in
theorem munset_any (b : Nat) (z : Nat → Int) (x i j : Nat) (ex : x = 64 * i + j) (hj : j < 64) (hi : i < 16) (w : World) (h : Wds w b z) (hf : w.frozen? ⟨b, 1 + i, none⟩ = false) :
    Calls Try.prog 84 #[.pointer (some ⟨b, 1, none⟩), .int .i64 (x : Int)] w fun e w' => e = .returned (.tuple #[]) ∧ w' = (w.setCell ⟨b, 1 + i, none⟩ (.int .u64 (clrI (z i) j))).drew := by
  obtain ⟨hc, h0, h1⟩ := h i hi
  have e1 := shr6 ex hj
  have e2 := and63 ex hj
  have HB : Hid _ := nbit h0 h1 hj
  generalize z i = y at *
  clear ex h
  go_enter Try.func84, Try.ntmps84
  go_region
  refine bodyPost_end (results_none rfl _ _ _) rfl ?_
  rw [HB.out]
  exact ⟨rfl, rfl⟩

/-- how many bits the first n words have -/
def popW (z : Nat → Int) : Nat → Nat
  | 0 => 0
  | n + 1 => popW z n + (mems (z n)).length
theorem popW_le (z : Nat → Int) (n : Nat) : popW z n ≤ 64 * n := by
  induction n with
  | zero => simp [popW]
  | succ n ih => have := memsTo_le (z n) 64; simp only [popW, mems]; omega
set_option maxHeartbeats 2000000 in
theorem mcount_any (b : Nat) (z : Nat → Int) (w : World) (h : Wds w b z) :
    Calls Try.prog 58 #[.pointer (some ⟨b, 1, none⟩)] w fun e w' => e = .returned (.int .i64 (popW z 16 : Nat)) ∧ w' = w := by
  have H : Hid (Wds w b z) := h
  clear h
  go_enter Try.func58, Try.ntmps58
  go_wp2_with fail
  go_loopw [3, 7] (fun n i wr => ∃ k : Nat, k ≤ 16 ∧ n = .int .i64 (popW z k : Nat) ∧ i = .int .i64 k ∧ wr = w) (fun _ i _ => 16 - (intOf i).toNat)
  case atStart => exact ⟨0, by omega, rfl, rfl, rfl⟩
  case round =>
    obtain ⟨k, hk, rfl, rfl, rfl⟩ := hrel
    by_cases hlt : k < 16
    · obtain ⟨hc, h0, h1⟩ := H.out k hlt
      have ho := ones_any (z k) wr h0 h1
      have hp := popW_le z (k + 1)
      have HP : Hid (popW z (k + 1) = popW z k + (mems (z k)).length) := rfl
      rw [HP.out] at hp
      generalize popW z k = c at *
      generalize hm : (mems (z k)).length = d at *
      go_wp2_with fail
      refine ho.mono ?_
      rintro e w' ⟨rfl, rfl⟩
      go_wp2_with fail
      go_roundw
      case rel => exact ⟨k + 1, by omega, by rw [HP.out]; go_num, by go_num, trivial⟩
      case measure => simp [intOf]; omega
    · obtain rfl : k = 16 := by omega
      go_wp2_with fail
      go_ret
      exact ⟨rfl, rfl⟩
end Go.Proofs.Ytlphombjejgbiaa
