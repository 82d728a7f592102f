/- Policies of pairs: plain facts. -/
import Derived.Test.YtcfpfddbbhphgabLHelp
namespace Go.Proofs.Ytcfpfddbbhphgab
open Go.RowKit Go.Shelf

/-- does the pair x flow to the pair y? -/
def prP (m : Nat) (z y : Nat → Int) (a : Nat) : Nat → Bool := fun b => tb (z (a / m)) (b / m) && tb (y (a % m)) (b % m)
def prod (n m : Nat) (z y : Nat → Int) (a : Nat) : Int := setTo (prP m z y a) (n * m)
theorem prod_bds {n m : Nat} (h : n * m ≤ 64) (z y : Nat → Int) (k : Nat) : Bds k (prod n m z y) := fun _ _ => ⟨setTo_nonneg _ _, setTo_lt _ h⟩

def shlI (c : Int) (k : Nat) : Int := ((c.toNat * 2 ^ k : Nat) : Int)
theorem shlI_nonneg (c : Int) (k : Nat) : 0 ≤ shlI c k := by unfold shlI; omega
theorem tb_shlI (c : Int) (k j : Nat) : tb (shlI c k) j = (decide (k ≤ j) && tb c (j - k)) := by
  unfold tb shlI
  rw [Int.toNat_natCast, Nat.mul_comm, Nat.testBit_two_pow_mul]
theorem lt_of_tb {c : Int} {m : Nat} (h : ∀ j, tb c j = true → j < m) : c.toNat < 2 ^ m := by
  refine Nat.lt_pow_two_of_testBit _ fun i hi => ?_
  cases ht : c.toNat.testBit i
  · rfl
  · exact absurd (h i ht) (by omega)
theorem shlI_eq {c : Int} (h0 : 0 ≤ c) {m k : Nat} (h : ∀ j, tb c j = true → j < m) (hk : k + m ≤ 64) : IntKind.u64.wrap (c * 2 ^ k) = shlI c k ∧ shlI c k < 18446744073709551616 := by
  have h1 := lt_of_tb h
  have h2 : c.toNat * 2 ^ k < 2 ^ 64 := by
    calc c.toNat * 2 ^ k < 2 ^ m * 2 ^ k := Nat.mul_lt_mul_of_pos_right h1 (Nat.pow_pos (by decide))
      _ = 2 ^ (m + k) := (Nat.pow_add 2 m k).symm
      _ ≤ 2 ^ 64 := Nat.pow_le_pow_right (by decide) (by omega)
  have e : c * 2 ^ k = ((c.toNat * 2 ^ k : Nat) : Int) := by
    rw [pow_cast, Int.natCast_mul, Int.toNat_of_nonneg h0]
  unfold shlI
  constructor
  · rw [e, IntKind.wrap_u64]
    generalize c.toNat * 2 ^ k = q at *
    omega
  · generalize c.toNat * 2 ^ k = q at *
    omega
/-- one row's set: c, once for each of l -/
def prSt (m : Nat) (c : Int) (l : List Nat) : Int := l.foldl (fun s p => orI s (shlI c (p * m))) 0
theorem prSt_snoc (m : Nat) (c : Int) (l : List Nat) (p : Nat) : prSt m c (l ++ [p]) = orI (prSt m c l) (shlI c (p * m)) := by simp [prSt]
theorem prSt_bd {m : Nat} {c : Int} {l : List Nat} (h : ∀ p, p ∈ l → shlI c (p * m) < 18446744073709551616) : 0 ≤ prSt m c l ∧ prSt m c l < 18446744073709551616 := by
  have key : ∀ (l : List Nat) (s : Int), (∀ p, p ∈ l → shlI c (p * m) < 18446744073709551616) → 0 ≤ s ∧ s < 18446744073709551616 → 0 ≤ l.foldl (fun s p => orI s (shlI c (p * m))) s ∧ l.foldl (fun s p => orI s (shlI c (p * m))) s < 18446744073709551616 := by
    intro l
    induction l with
    | nil => exact fun s _ h => h
    | cons p l ih =>
      intro s hl hs
      exact ih _ (fun q hq => hl q (by simp [hq])) ⟨orI_nonneg _ _, orI_lt hs.2 (hl p (by simp))⟩
  exact key l 0 h ⟨by omega, by omega⟩
theorem tb_prSt (m : Nat) (c : Int) (l : List Nat) (j : Nat) : tb (prSt m c l) j = true ↔ ∃ p, p ∈ l ∧ p * m ≤ j ∧ tb c (j - p * m) = true := by
  have key : ∀ (l : List Nat) (s : Int), tb (l.foldl (fun s p => orI s (shlI c (p * m))) s) j = true ↔ tb s j = true ∨ ∃ p, p ∈ l ∧ p * m ≤ j ∧ tb c (j - p * m) = true := by
    intro l
    induction l with
    | nil => intro s; simp
    | cons x l ih =>
      intro s
      show tb (l.foldl (fun s p => orI s (shlI c (p * m))) (orI s (shlI c (x * m)))) j = true ↔ _
      rw [ih, tb_orI, tb_shlI, Bool.or_eq_true, Bool.and_eq_true, decide_eq_true_iff]
      constructor
      · rintro ((h | ⟨h1, h2⟩) | ⟨p, h1, h2⟩)
        · exact .inl h
        · exact .inr ⟨x, by simp, h1, h2⟩
        · exact .inr ⟨p, by simp [h1], h2⟩
      · rintro (h | ⟨p, h1, h2, h3⟩)
        · exact .inl (.inl h)
        · rcases List.mem_cons.1 h1 with rfl | h1
          · exact .inl (.inr ⟨h2, h3⟩)
          · exact .inr ⟨p, h1, h2, h3⟩
  have := key l 0
  rw [tb_zero] at this
  simpa [prSt] using this
/-- a row, once for each of the other policy's, is the pairs' row -/
theorem prSt_prod {n m : Nat} (hm : 1 ≤ m) {z y : Nat → Int} {i j : Nat} (hj : j < m) (hz1 : z i < 18446744073709551616) (hz : ∀ k, tb (z i) k = true → k < n) (hy : ∀ k, tb (y j) k = true → k < m) (hb : 0 ≤ prSt m (y j) (mems (z i))) :
    prSt m (y j) (mems (z i)) = prod n m z y (i * m + j) := by
  refine eq_setTo hb fun b => ?_
  have e1 : (i * m + j) / m = i := by rw [Nat.mul_comm, Nat.mul_add_div (by omega)]; rw [Nat.div_eq_of_lt hj]; rfl
  have e2 : (i * m + j) % m = j := by rw [Nat.mul_comm, Nat.mul_add_mod]; exact Nat.mod_eq_of_lt hj
  unfold prP
  rw [e1, e2, tb_prSt, Bool.and_eq_true]
  constructor
  · rintro ⟨p, hp, h1, h2⟩
    have hlt := hy _ h2
    have hp' := mem_mems.1 hp
    have hpn := hz p hp'.2
    have d : b / m = p := by
      rw [show b = m * p + (b - p * m) by rw [Nat.mul_comm m p]; omega, Nat.mul_add_div (by omega), Nat.div_eq_of_lt hlt]; rfl
    have r : b % m = b - p * m := by
      conv => lhs; rw [show b = m * p + (b - p * m) by rw [Nat.mul_comm m p]; omega]
      rw [Nat.mul_add_mod]; exact Nat.mod_eq_of_lt hlt
    rw [d, r]
    refine ⟨?_, hp'.2, h2⟩
    have : (p + 1) * m ≤ n * m := Nat.mul_le_mul_right m hpn
    rw [Nat.add_mul] at this
    omega
  · rintro ⟨h1, h2, h3⟩
    have dm := Nat.div_add_mod b m
    refine ⟨b / m, mem_mems.2 ⟨in_64 hz1 h2, h2⟩, Nat.div_mul_le_self b m, ?_⟩
    rw [show b - b / m * m = b % m by rw [Nat.mul_comm (b / m) m]; omega]
    exact h3
theorem encU_snoc (n : Nat) (z : Nat → Int) : encU (n + 1) z = encU n z ++ [Value.int .u64 (z n)] := by simp [encU, List.range_succ]
theorem encU_len (n : Nat) (z : Nat → Int) : (encU n z).length = n := by simp [encU]
/-- Product's error -/
def prdE (n m : Nat) (z y : Nat → Int) : Int := if polE n z = 0 then (if polE m y = 0 then (if 16 < n * m then 3 else 0) else polE m y) else polE n z
theorem prdE_ok {n m : Nat} {z y : Nat → Int} (h : prdE n m z y = 0) : polE n z = 0 ∧ polE m y = 0 ∧ n * m ≤ 16 := by
  unfold prdE at h
  by_cases h1 : polE n z = 0
  · by_cases h2 : polE m y = 0
    · by_cases h3 : 16 < n * m
      · simp [h1, h2, h3] at h
      · exact ⟨h1, h2, by omega⟩
    · simp [h1, h2] at h
  · simp [h1] at h

theorem run_quo {x m : Nat} (hm : 1 ≤ m) (hx : x < 9223372036854775808) (w : World) : (Op.intDiv .quo .i64 (x : Int) (m : Int)).run Try.prog w = .ok (.int .i64 ((x / m : Nat) : Int)) w := by
  have hle : x / m ≤ x := Nat.div_le_self x m
  have e : IntKind.i64.wrap (Int.tdiv (x : Int) (m : Int)) = ((x / m : Nat) : Int) := by
    show IntKind.i64.wrap (((x / m : Nat)) : Int) = _
    generalize x / m = q at *
    rw [IntKind.wrap_i64]; omega
  unfold Op.intDiv
  rw [if_neg (by omega)]
  show Result.ok (Value.int .i64 (IntKind.i64.wrap (Int.tdiv (x : Int) (m : Int)))) w = _
  rw [e]
theorem run_rem {x m : Nat} (hm : 1 ≤ m) (w : World) : (Op.intDiv .rem .i64 (x : Int) (m : Int)).run Try.prog w = .ok (.int .i64 ((x % m : Nat) : Int)) w := by
  unfold Op.intDiv
  rw [if_neg (by omega)]
  rfl

end Go.Proofs.Ytcfpfddbbhphgab
