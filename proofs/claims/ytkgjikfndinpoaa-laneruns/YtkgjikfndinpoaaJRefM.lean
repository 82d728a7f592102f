/- Where the document finds messages, in words of the lane. -/
import Derived.Test.YtkgjikfndinpoaaJRef
namespace Go.Proofs.Ytkgjikfndinpoaa
open Go.RowKit Go.Sort
set_option maxRecDepth 100000

theorem find_at {p : Ms → Bool} {l : List Ms} {i : Nat} {m : Ms} (hm : l[i]? = some m) (hp : p m = true) (h : ∀ j m', j < i → l[j]? = some m' → p m' = false) : l.findIdx p = i := by
  have hi := (List.getElem?_eq_some_iff.1 hm).1
  have up : ∀ k, k ≤ i → k ≤ l.findIdx p := fun k => by
    induction k with
    | zero => intro _; exact Nat.zero_le _
    | succ k ih =>
      intro hk
      exact find_more (ih (by omega)) (List.getElem?_eq_getElem (by omega)) (h k _ (by omega) (List.getElem?_eq_getElem (by omega)))
  exact find_here (up i (Nat.le_refl _)) hm hp
theorem find_none {p : Ms → Bool} {l : List Ms} (h : ∀ (j : Nat) m, l[j]? = some m → p m = false) : ¬ l.findIdx p < l.length := fun hl => by
  have h1 := List.findIdx_getElem (p := p) (w := hl)
  rw [h _ _ (List.getElem?_eq_getElem hl)] at h1
  cases h1
section
variable {A : La}
theorem L_T {j : Nat} (h : j < A.T.length) : A.L[j]? = A.T[j]? := by
  unfold La.L
  rw [List.getElem?_append_left h]
theorem L_P {i : Nat} (h : i < A.P.length) : A.L[A.T.length + i]? = A.P[i]? := by
  unfold La.L
  rw [List.getElem?_append_right (by omega), List.getElem?_append_left (by omega)]
  congr 1
  omega
theorem L_C (i : Nat) : A.L[A.T.length + A.P.length + i]? = A.C[i]? := by
  unfold La.L
  rw [List.getElem?_append_right (by omega), List.getElem?_append_right (by omega)]
  congr 1
  omega
theorem L_get {j : Nat} {m : Ms} (h : A.L[j]? = some m) : (j < A.T.length ∧ A.T[j]? = some m) ∨ (∃ i, j = A.T.length + i ∧ A.P[i]? = some m) ∨ (∃ i, j = A.T.length + A.P.length + i ∧ A.C[i]? = some m) := by
  by_cases h1 : j < A.T.length
  · exact .inl ⟨h1, (L_T h1).symm.trans h⟩
  · by_cases h2 : j < A.T.length + A.P.length
    · refine .inr (.inl ⟨j - A.T.length, by omega, ?_⟩)
      rw [← L_P (by omega), show A.T.length + (j - A.T.length) = j by omega]
      exact h
    · refine .inr (.inr ⟨j - (A.T.length + A.P.length), by omega, ?_⟩)
      rw [← L_C, show A.T.length + A.P.length + (j - (A.T.length + A.P.length)) = j by omega]
      exact h
/-- what it is tells where it stands -/
theorem L_is (o : A.Ok) {j : Nat} {m : Ms} (h : A.L[j]? = some m) : (j < A.T.length ∧ A.T[j]? = some m ∧ (m.is = 3 ∨ m.is = 4)) ∨ (∃ i, j = A.T.length + i ∧ A.P[i]? = some m ∧ m.is = 2 ∧ i < A.P.length) ∨ (∃ i, j = A.T.length + A.P.length + i ∧ A.C[i]? = some m ∧ m.is = 1 ∧ m.k = A.r + i) := by
  rcases L_get h with ⟨h1, h2⟩ | ⟨i, h1, h2⟩ | ⟨i, h1, h2⟩
  · exact .inl ⟨h1, h2, (o.kT m (List.mem_of_getElem? h2)).2⟩
  · exact .inr (.inl ⟨i, h1, h2, (o.kP i m h2).2, (List.getElem?_eq_some_iff.1 h2).1⟩)
  · exact .inr (.inr ⟨i, h1, h2, (o.kC i m h2).2, (o.kC i m h2).1⟩)
/-- the first claimed one -/
def cI (A : La) : Nat := A.T.length + A.P.length
theorem c_before (o : A.Ok) : ∀ j m, j < cI A → A.L[j]? = some m → ¬ m.is = 1 := fun j m hj h h1 => by
  unfold cI at hj
  rcases L_is o h with ⟨_, _, h2⟩ | ⟨i, _, _, h2, _⟩ | ⟨i, h2, _⟩ <;> omega
theorem c_here (o : A.Ok) : ∀ m, A.L[cI A]? = some m → m.is = 1 := fun m h => by
  unfold cI at h
  have h0 := L_C (A := A) 0
  rw [Nat.add_zero] at h0
  rw [h0] at h
  exact (o.kC 0 m h).2
theorem L_k (o : A.Ok) {j : Nat} {m : Ms} (h : A.L[j]? = some m) : m.k ≤ 1000001 := by
  have := o.mem_L (List.mem_of_getElem? h)
  have := o.bd
  omega
theorem fd1_in (o : A.Ok) {q e : Int} (q0 : 0 ≤ q) (q1 : q < 18446744073709551616) (h : inC A q e = true) : ∃ m, A.L[cI A + atC A q]? = some m ∧ A.C[atC A q]? = some m ∧ fdI A A.L q e 1 = ((cI A + atC A q : Nat) : Int) := by
  obtain ⟨m, hm, hk, hlt⟩ := inC_at o h
  have hL : A.L[cI A + atC A q]? = some m := (L_C _).trans hm
  have he := (inC_iff.1 h).1
  have hr := o.hr
  have hf : A.L.findIdx (pB A.st q 1) = cI A + atC A q := by
    refine find_at hL ?_ fun j m' hj h' => ?_
    · unfold pB
      rw [hk, sq_dq q0 q1]
      simp [(o.kC _ m hm).2]
    · unfold pB
      rw [Bool.and_eq_false_iff]
      rcases L_is o h' with ⟨_, _, h2⟩ | ⟨i, _, _, h2, _⟩ | ⟨i, h2, _, _, h3⟩
      · right; simp; omega
      · right; simp; omega
      · left
        simp only [decide_eq_false_iff_not]
        rw [sq_iff (L_k o h') q0 q1]
        have h5 := (inC_iff.1 h).2
        unfold cI at hj
        unfold atC at hj
        omega
  refine ⟨m, hL, hm, ?_⟩
  unfold fdI
  rw [hf, if_pos ⟨he, (List.getElem?_eq_some_iff.1 hL).1⟩]
theorem fd1_no (o : A.Ok) {q e : Int} (q0 : 0 ≤ q) (q1 : q < 18446744073709551616) (h : inC A q e = false) : fdI A A.L q e 1 = -1 := by
  unfold fdI
  rw [if_neg]
  rintro ⟨he, hl⟩
  refine find_none (fun j m hm => ?_) hl
  unfold pB
  rw [Bool.and_eq_false_iff]
  rcases L_is o hm with ⟨_, _, h2⟩ | ⟨i, _, _, h2, _⟩ | ⟨i, h2, h4, _, h3⟩
  · right; simp; omega
  · right; simp; omega
  · left
    simp only [decide_eq_false_iff_not]
    rw [sq_iff (L_k o hm) q0 q1]
    intro hk
    have hr := o.hr
    have := (List.getElem?_eq_some_iff.1 h4).1
    have : inC A q e = true := inC_iff.2 ⟨he, by omega, by omega⟩
    rw [h] at this
    cases this
theorem fd3_in (o : A.Ok) {q e : Int} (q0 : 0 ≤ q) (q1 : q < 18446744073709551616) (he : e = A.ep) (h : takenB A q = true) : ∃ m, A.L[tkI A q]? = some m ∧ A.T[tkI A q]? = some m ∧ tkI A q < A.T.length ∧ fdI A A.L q e 3 = ((tkI A q : Nat) : Int) := by
  obtain ⟨m, hm, hk, h3, hlt⟩ := takenB_at h
  have hL : A.L[tkI A q]? = some m := (L_T hlt).trans hm
  have hf : A.L.findIdx (pB A.st q 3) = tkI A q := by
    refine find_at hL ?_ fun j m' hj h' => ?_
    · unfold pB
      rw [hk, sq_dq q0 q1]
      simp [h3]
    · have hjT : A.T[j]? = some m' := (L_T (by omega)).symm.trans h'
      have hn := List.not_of_lt_findIdx (p := tkB (dqN A.st q)) (xs := A.T) (i := j) hj
      obtain ⟨hjl, hje⟩ := List.getElem?_eq_some_iff.1 hjT
      rw [hje] at hn
      unfold tkB at hn
      unfold pB
      rw [Bool.and_eq_false_iff]
      by_cases hz : m'.is = 3
      · left
        simp only [decide_eq_false_iff_not]
        rw [sq_iff (L_k o h') q0 q1]
        intro hk'
        simp [hk', hz] at hn
      · right; simp [hz]
  refine ⟨m, hL, hm, hlt, ?_⟩
  unfold fdI
  rw [hf, if_pos ⟨he, (List.getElem?_eq_some_iff.1 hL).1⟩]
theorem fd3_no (o : A.Ok) {q e : Int} (q0 : 0 ≤ q) (q1 : q < 18446744073709551616) (h : takenB A q = false) : fdI A A.L q e 3 = -1 := by
  unfold fdI
  rw [if_neg]
  rintro ⟨_, hl⟩
  refine find_none (fun j m hm => ?_) hl
  unfold pB
  rw [Bool.and_eq_false_iff]
  rcases L_is o hm with ⟨_, h4, _⟩ | ⟨i, _, _, h2, _⟩ | ⟨i, h2, h4, h5, h3⟩
  · by_cases hz : m.is = 3
    · left
      simp only [decide_eq_false_iff_not]
      rw [sq_iff (L_k o hm) q0 q1]
      intro hk
      have : takenB A q = true := List.any_eq_true.2 ⟨m, List.mem_of_getElem? h4, by simp [tkB, hk, hz]⟩
      rw [h] at this
      cases this
    · right; simp [hz]
  · right; simp; omega
  · right; simp; omega
end
end Go.Proofs.Ytkgjikfndinpoaa
