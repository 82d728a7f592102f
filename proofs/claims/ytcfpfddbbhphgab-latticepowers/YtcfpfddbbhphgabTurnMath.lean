/- Rows turned around twice; a row of steps turned around. -/
import Derived.Test.YtcfpfddbbhphgabThen
namespace Go.Proofs.Ytcfpfddbbhphgab

theorem tb_turnStep (i j : Nat) : ∀ (l : List Nat) (g : Nat → Int) (x : Nat), tb (turnStep g i l x) j = true ↔ tb (g x) j = true ∨ (x ∈ l ∧ i = j) := by
  intro l
  induction l with
  | nil => intro g x; simp [turnStep]
  | cons q l ih =>
    intro g x
    show tb (turnStep (upd g q (setI (g q) i)) i l x) j = true ↔ _
    rw [ih]
    by_cases e : x = q
    · subst e
      rw [upd_at, tb_setI, Bool.or_eq_true, decide_eq_true_iff]
      constructor
      · rintro ((h | h) | ⟨_, h⟩)
        · exact .inl h
        · exact .inr ⟨by simp, h⟩
        · exact .inr ⟨by simp, h⟩
      · rintro (h | ⟨_, h⟩)
        · exact .inl (.inl h)
        · exact .inl (.inr h)
    · have hu : upd g q (setI (g q) i) x = g x := by simp [upd, e]
      rw [hu]
      simp [e]
theorem tb_turnTo (z : Nat → Int) (x j : Nat) (hx : x < 64) : ∀ k, tb (turnTo z k x) j = true ↔ j < k ∧ tb (z j) x = true := by
  intro k
  induction k with
  | zero => simp [turnTo, tb_zero]
  | succ k ih =>
    show tb (turnStep (turnTo z k) k (mems (z k)) x) j = true ↔ _
    rw [tb_turnStep, ih, mem_mems]
    constructor
    · rintro (⟨h1, h2⟩ | ⟨⟨_, h1⟩, rfl⟩)
      · exact ⟨by omega, h2⟩
      · exact ⟨by omega, h1⟩
    · rintro ⟨h1, h2⟩
      by_cases e : j = k
      · subst e; exact .inr ⟨⟨hx, h2⟩, rfl⟩
      · exact .inl ⟨by omega, h2⟩
theorem in_64 {r : Int} (h : r < 18446744073709551616) {j : Nat} (hj : tb r j = true) : j < 64 := by
  by_cases h' : j < 64
  · exact h'
  · rw [tb_ge h (by omega)] at hj; cases hj
theorem in_rows {n : Nat} {z : Nat → Int} (h : chkI n z = 0) (hz : ∀ j, j < n → 0 ≤ z j ∧ z j < 18446744073709551616) {i j : Nat} (hi : i < n) (ht : tb (z i) j = true) : j < n :=
  chk_row h hi (in_64 (hz i hi).2 ht) ht
theorem chk_of {n : Nat} (hn : n ≤ 64) {z : Nat → Int} (h : ∀ i j, i < n → j < 64 → tb (z i) j = true → j < n) : chkI n z = 0 := by
  have hb : chkB n z = true := chkB_iff.2 fun i hi => rowOk_iff.2 fun j hj ht => h i j hi hj ht
  simp [chkI, hb, show ¬ 64 < n by omega]
theorem chk_turn {n : Nat} (hn : n ≤ 64) (z : Nat → Int) : chkI n (turnTo z n) = 0 :=
  chk_of hn fun i j hi _ ht => ((tb_turnTo z i j (by omega) n).1 ht).1
theorem turn_bds {n : Nat} (hn : n ≤ 64) (z : Nat → Int) : ∀ j, j < n → 0 ≤ turnTo z n j ∧ turnTo z n j < 18446744073709551616 := fun j _ => turnTo_bd z hn j
theorem turn_turn {n : Nat} {z : Nat → Int} (h : chkI n z = 0) (hz : ∀ j, j < n → 0 ≤ z j ∧ z j < 18446744073709551616) : ∀ i, i < n → turnTo (turnTo z n) n i = z i := by
  have hn := (chk_ok h).1
  intro i hi
  refine eq_of_tb (turnTo_bd _ hn i).1 (hz i hi).1 fun j => ?_
  rw [Bool.eq_iff_iff, tb_turnTo _ i j (by omega)]
  constructor
  · rintro ⟨hj, ht⟩
    exact ((tb_turnTo z j i (by omega) n).1 ht).2
  · intro ht
    have hj := in_rows h hz hi ht
    exact ⟨hj, (tb_turnTo z j i (by omega) n).2 ⟨hi, ht⟩⟩

theorem tb_rowThen (y : Nat → Int) (j : Nat) (l : List Nat) : tb (thenRow l y) j = true ↔ ∃ x, x ∈ l ∧ tb (y x) j = true := by
  have key : ∀ (l : List Nat) (acc : Int), tb (l.foldl (fun acc x => orI acc (y x)) acc) j = true ↔ tb acc j = true ∨ ∃ x, x ∈ l ∧ tb (y x) j = true := by
    intro l
    induction l with
    | nil => intro acc; simp
    | cons x l ih =>
      intro acc
      show tb (l.foldl (fun acc x => orI acc (y x)) (orI acc (y x))) j = true ↔ _
      rw [ih, tb_orI, Bool.or_eq_true]
      constructor
      · rintro ((h | h) | ⟨q, h1, h2⟩)
        · exact .inl h
        · exact .inr ⟨x, by simp, h⟩
        · exact .inr ⟨q, by simp [h1], h2⟩
      · rintro (h | ⟨q, h1, h2⟩)
        · exact .inl (.inl h)
        · rcases List.mem_cons.1 h1 with rfl | h1
          · exact .inl (.inr h2)
          · exact .inr ⟨q, h1, h2⟩
  have := key l 0
  rw [tb_zero] at this
  simpa [thenRow] using this
theorem tb_then (z y : Nat → Int) (n i j : Nat) (hi : i < n) : tb (thenTo z y n i) j = true ↔ ∃ x, x < 64 ∧ tb (z i) x = true ∧ tb (y x) j = true := by
  unfold thenTo
  rw [if_pos hi, tb_rowThen]
  constructor
  · rintro ⟨x, h1, h2⟩; exact ⟨x, (mem_mems.1 h1).1, (mem_mems.1 h1).2, h2⟩
  · rintro ⟨x, h1, h2, h3⟩; exact ⟨x, mem_mems.2 ⟨h1, h2⟩, h3⟩
theorem then_bds {n : Nat} {z y : Nat → Int} (h : chkI n z = 0) (hz : ∀ j, j < n → 0 ≤ z j ∧ z j < 18446744073709551616) (hy : ∀ j, j < n → 0 ≤ y j ∧ y j < 18446744073709551616) : ∀ j, j < n → 0 ≤ thenTo z y n j ∧ thenTo z y n j < 18446744073709551616 := fun j hj => by
  unfold thenTo; rw [if_pos hj]
  exact thenRow_bd hy _ (fun x hx => in_rows h hz hj (mem_mems.1 hx).2)
theorem chk_then {n : Nat} {z y : Nat → Int} (h : chkI n z = 0) (hz : ∀ j, j < n → 0 ≤ z j ∧ z j < 18446744073709551616) (hk : chkI n y = 0) (hy : ∀ j, j < n → 0 ≤ y j ∧ y j < 18446744073709551616) : chkI n (thenTo z y n) = 0 :=
  chk_of (chk_ok h).1 fun i j hi _ ht => by
    obtain ⟨x, _, h1, h2⟩ := (tb_then z y n i j hi).1 ht
    exact in_rows hk hy (in_rows h hz hi h1) h2
/-- the turned steps, in the other order -/
theorem turn_then {n : Nat} {z : Nat → Int} (y : Nat → Int) (h : chkI n z = 0) (hz : ∀ j, j < n → 0 ≤ z j ∧ z j < 18446744073709551616) :
    ∀ i, i < n → turnTo (thenTo z y n) n i = thenTo (turnTo y n) (turnTo z n) n i := by
  have hn := (chk_ok h).1
  intro i hi
  refine eq_of_tb (turnTo_bd _ hn i).1 (then_bds (chk_turn hn y) (turn_bds hn y) (turn_bds hn z) i hi).1 fun j => ?_
  rw [Bool.eq_iff_iff, tb_turnTo _ i j (by omega), tb_then _ _ _ _ _ hi]
  constructor
  · rintro ⟨hj, ht⟩
    obtain ⟨x, hx, h1, h2⟩ := (tb_then z y n j i hj).1 ht
    have hxn := in_rows h hz hj h1
    exact ⟨x, hx, (tb_turnTo y i x (by omega) n).2 ⟨hxn, h2⟩, (tb_turnTo z x j hx n).2 ⟨hj, h1⟩⟩
  · rintro ⟨x, hx, h1, h2⟩
    obtain ⟨hxn, h1'⟩ := (tb_turnTo y i x (by omega) n).1 h1
    obtain ⟨hj, h2'⟩ := (tb_turnTo z x j hx n).1 h2
    exact ⟨hj, (tb_then z y n j i hj).2 ⟨x, hx, h2', h1'⟩⟩

end Go.Proofs.Ytcfpfddbbhphgab
