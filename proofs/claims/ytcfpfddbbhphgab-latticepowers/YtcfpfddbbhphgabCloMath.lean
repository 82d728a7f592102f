/- What the rounds of the closure make: the least relation that has the rows, each member with itself, and is transitive. -/
import Derived.Test.YtcfpfddbbhphgabClo
namespace Go.Proofs.Ytcfpfddbbhphgab

theorem orI_self {a : Int} (h : 0 ≤ a) : orI a a = a := by unfold orI; rw [Nat.or_self]; omega
theorem cloRow_at {g : Nat → Int} (hg : Bd g) (k : Nat) : ∀ m, cloRow g k m = fun i => if i < m ∧ tb (g i) k = true then orI (g i) (g k) else g i := by
  intro m
  induction m with
  | zero => funext i; simp [cloRow]
  | succ m ih =>
    have hm : cloRow g k m m = g m := by rw [ih]; simp
    have hk : cloRow g k m k = g k := by
      rw [ih]
      by_cases h : k < m ∧ tb (g k) k = true
      · simp only [h, and_self, if_true]; exact orI_self (hg k).1
      · exact if_neg h
    show cloStep (cloRow g k m) k m = _
    unfold cloStep
    rw [hm, hk]
    funext i
    cases ht : tb (g m) k
    · rw [if_neg (by decide), ih]
      by_cases e : i = m
      · subst e; simp [ht]
      · by_cases h1 : i < m
        · simp [h1, show i < m + 1 by omega]
        · simp [h1, show ¬ i < m + 1 by omega]
    · rw [if_pos rfl, ih]
      unfold upd
      by_cases e : i = m
      · subst e; simp [ht]
      · by_cases h1 : i < m
        · simp [e, h1, show i < m + 1 by omega]
        · simp [e, h1, show ¬ i < m + 1 by omega]
theorem tb_cloRow {g : Nat → Int} (hg : Bd g) (k n i j : Nat) : tb (cloRow g k n i) j = true ↔ tb (g i) j = true ∨ (i < n ∧ tb (g i) k = true ∧ tb (g k) j = true) := by
  rw [cloRow_at hg k n]
  show tb (if i < n ∧ tb (g i) k = true then orI (g i) (g k) else g i) j = true ↔ _
  by_cases h : i < n ∧ tb (g i) k = true
  · rw [if_pos h, tb_orI, Bool.or_eq_true]
    constructor
    · rintro (h1 | h1)
      · exact .inl h1
      · exact .inr ⟨h.1, h.2, h1⟩
    · rintro (h1 | ⟨_, _, h1⟩)
      · exact .inl h1
      · exact .inr h1
  · rw [if_neg h]
    constructor
    · exact .inl
    · rintro (h1 | ⟨h2, h3, _⟩)
      · exact h1
      · exact absurd ⟨h2, h3⟩ h
theorem tb_cloInit (z : Nat → Int) (n i j : Nat) : tb (cloInit z n i) j = true ↔ i < n ∧ (tb (z i) j = true ∨ i = j) := by
  unfold cloInit
  by_cases h : i < n
  · rw [if_pos h, tb_setI, Bool.or_eq_true, decide_eq_true_iff]; simp [h]
  · rw [if_neg h, tb_zero]; simp [h]

theorem cloTo_mono {n : Nat} (hn : n ≤ 64) {z : Nat → Int} (hz : ∀ j, j < n → 0 ≤ z j ∧ z j < 18446744073709551616) (k : Nat) {i j : Nat} (h : tb (cloInit z n i) j = true) : tb (cloTo n z k i) j = true := by
  induction k with
  | zero => exact h
  | succ k ih => exact (tb_cloRow (cloTo_bd hn hz k) k n i j).2 (.inl ih)
theorem cloTo_least {n : Nat} (hn : n ≤ 64) {z : Nat → Int} (hz : ∀ j, j < n → 0 ≤ z j ∧ z j < 18446744073709551616) (S : Nat → Nat → Prop) (hS : ∀ i j, i < n → tb (z i) j = true → S i j) (hr : ∀ i, i < n → S i i) (ht : ∀ i m j, i < n → m < n → S i m → S m j → S i j) (k : Nat) (hk : k ≤ n) :
    ∀ i j, tb (cloTo n z k i) j = true → i < n ∧ S i j := by
  induction k with
  | zero =>
    intro i j h
    obtain ⟨h1, h2 | h2⟩ := (tb_cloInit z n i j).1 h
    · exact ⟨h1, hS i j h1 h2⟩
    · subst h2; exact ⟨h1, hr i h1⟩
  | succ k ih =>
    intro i j h
    rcases (tb_cloRow (cloTo_bd hn hz k) k n i j).1 h with h1 | ⟨h1, h2, h3⟩
    · exact ih (by omega) i j h1
    · exact ⟨h1, ht i k j h1 (by omega) (ih (by omega) i k h2).2 (ih (by omega) k j h3).2⟩
theorem cloTo_trans {n : Nat} (hn : n ≤ 64) {z : Nat → Int} (hz : ∀ j, j < n → 0 ≤ z j ∧ z j < 18446744073709551616) (k : Nat) (hk : k ≤ n) : ∀ m i j, m < k → i < n → tb (cloTo n z k i) m = true → tb (cloTo n z k m) j = true → tb (cloTo n z k i) j = true := by
  induction k with
  | zero => intro m i j h; omega
  | succ k ih =>
    intro m i j hm hi h1 h2
    have hb := cloTo_bd hn hz k
    have T := ih (by omega)
    have R := fun i j => tb_cloRow hb k n i j
    have h1' := (R i m).1 h1
    have h2' := (R m j).1 h2
    refine (R i j).2 ?_
    by_cases e : m = k
    · subst e
      have g1 : tb (cloTo n z m i) m = true := h1'.elim id fun h => h.2.1
      have g2 : tb (cloTo n z m m) j = true := h2'.elim id fun h => h.2.2
      exact .inr ⟨hi, g1, g2⟩
    · have hmk : m < k := by omega
      rcases h1' with a1 | ⟨_, a1, a2⟩
      · rcases h2' with b1 | ⟨_, b1, b2⟩
        · exact .inl (T m i j hmk hi a1 b1)
        · exact .inr ⟨hi, T m i k hmk hi a1 b1, b2⟩
      · rcases h2' with b1 | ⟨_, b1, b2⟩
        · exact .inr ⟨hi, a1, T m k j hmk (by omega) a2 b1⟩
        · exact .inr ⟨hi, a1, b2⟩

theorem clo_has {n : Nat} (hn : n ≤ 64) {z : Nat → Int} (hz : ∀ j, j < n → 0 ≤ z j ∧ z j < 18446744073709551616) {i j : Nat} (hi : i < n) (h : tb (z i) j = true) : tb (clo n z i) j = true := cloTo_mono hn hz n ((tb_cloInit z n i j).2 ⟨hi, .inl h⟩)
theorem clo_refl {n : Nat} (hn : n ≤ 64) {z : Nat → Int} (hz : ∀ j, j < n → 0 ≤ z j ∧ z j < 18446744073709551616) {i : Nat} (hi : i < n) : tb (clo n z i) i = true := cloTo_mono hn hz n ((tb_cloInit z n i i).2 ⟨hi, .inr rfl⟩)
theorem clo_trans {n : Nat} (hn : n ≤ 64) {z : Nat → Int} (hz : ∀ j, j < n → 0 ≤ z j ∧ z j < 18446744073709551616) {i m j : Nat} (hi : i < n) (hm : m < n) (h1 : tb (clo n z i) m = true) (h2 : tb (clo n z m) j = true) : tb (clo n z i) j = true := cloTo_trans hn hz n (Nat.le_refl _) m i j hm hi h1 h2
theorem clo_least {n : Nat} (hn : n ≤ 64) {z : Nat → Int} (hz : ∀ j, j < n → 0 ≤ z j ∧ z j < 18446744073709551616) (S : Nat → Nat → Prop) (hS : ∀ i j, i < n → tb (z i) j = true → S i j) (hr : ∀ i, i < n → S i i) (ht : ∀ i m j, i < n → m < n → S i m → S m j → S i j) {i j : Nat} (h : tb (clo n z i) j = true) : i < n ∧ S i j :=
  cloTo_least hn hz S hS hr ht n (Nat.le_refl _) i j h
theorem clo_bd {n : Nat} (hn : n ≤ 64) {z : Nat → Int} (hz : ∀ j, j < n → 0 ≤ z j ∧ z j < 18446744073709551616) : Bd (clo n z) := cloTo_bd hn hz n
theorem clo_in {n : Nat} (hn : n ≤ 64) {z : Nat → Int} (hz : ∀ j, j < n → 0 ≤ z j ∧ z j < 18446744073709551616) (hok : ∀ i j, i < n → tb (z i) j = true → j < n) {i j : Nat} (h : tb (clo n z i) j = true) : j < n :=
  (clo_least hn hz (fun _ j => j < n) hok (fun _ h => h) (fun _ _ _ _ _ _ h => h) h).2
/-- r is all that is come to from s -/
def IsReach (n : Nat) (z : Nat → Int) (s r : Int) : Prop :=
  (∀ j, tb s j = true → tb r j = true) ∧ (∀ i j, i < n → tb r i = true → tb (z i) j = true → tb r j = true) ∧
  ∀ T : Nat → Prop, (∀ j, tb s j = true → T j) → (∀ i j, i < n → T i → tb (z i) j = true → T j) → ∀ j, tb r j = true → T j
theorem reach_clo {n : Nat} (hn : n ≤ 64) {z : Nat → Int} (hz : ∀ j, j < n → 0 ≤ z j ∧ z j < 18446744073709551616) {i : Nat} (hi : i < n) {r : Int} (hr0 : 0 ≤ r) (h : IsReach n z (setI 0 i) r) : r = clo n z i := by
  refine eq_of_tb hr0 (clo_bd hn hz i).1 fun j => ?_
  obtain ⟨h1, h2, h3⟩ := h
  have hii : ∀ j, tb (setI 0 i) j = true ↔ i = j := fun j => by rw [tb_setI, tb_zero]; simp
  rw [Bool.eq_iff_iff]
  constructor
  · refine h3 (fun j => tb (clo n z i) j = true) (fun j hj => ?_) (fun m j hm ht hz' => ?_) j
    · rw [← (hii j).1 hj]; exact clo_refl hn hz hi
    · exact clo_trans hn hz hi hm ht (clo_has hn hz hm hz')
  · intro hj
    have := (clo_least hn hz (fun a b => ∀ T : Nat → Prop, T a → (∀ i j, i < n → T i → tb (z i) j = true → T j) → T b)
      (fun a b ha hab T hT hc => hc a b ha hT hab) (fun a _ T hT _ => hT) (fun a m b _ _ h1 h2 T hT hc => h2 T (h1 T hT hc) hc) hj).2
    exact this (fun j => tb r j = true) (h1 i ((hii i).2 rfl)) h2

end Go.Proofs.Ytcfpfddbbhphgab
