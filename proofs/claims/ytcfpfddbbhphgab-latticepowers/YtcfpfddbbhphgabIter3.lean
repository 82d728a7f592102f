/- bits.Nth: a loop over the iterator bits.All that is left early. -/
import Derived.Test.YtcfpfddbbhphgabIter2
namespace Go.Proofs.Ytcfpfddbbhphgab
open Go.RowKit Go.Shelf
attribute [local go_sem] Oper.semAt_some

theorem memsTo_at (s : Int) (x : Nat) (ht : tb s x = true) : ∀ n, x < n → (memsTo s n)[(memsTo s x).length]? = some x := by
  intro n
  induction n with
  | zero => intro h; omega
  | succ n ih =>
    intro h
    by_cases e : x = n
    · subst e; rw [memsTo_hit s x ht]; simp
    · have h' := ih (by omega)
      rw [memsTo_succ, List.getElem?_append_left (List.getElem?_eq_some_iff.1 h').1]
      exact h'
theorem rankI_mem (s : Int) (x : Nat) (h : x < 64) : rankI s x = (memsTo s x).length := by
  unfold rankI; rw [Int.toNat_natCast, Nat.min_eq_left (by omega)]
theorem rank_at (s : Int) (x : Nat) (h : x < 64) (ht : tb s x = true) : (mems s)[rankI s x]? = some x := by
  rw [rankI_mem s x h]; exact memsTo_at s x ht 64 h
theorem mems_nodup (s : Int) {i j : Nat} (hi : i < (mems s).length) (e : (mems s)[i]? = (mems s)[j]?) : i = j := by
  have hs : (mems s).Pairwise (· < ·) := List.Pairwise.filter _ List.pairwise_lt_range
  have hj : j < (mems s).length := by
    rw [List.getElem?_eq_getElem hi] at e
    exact (List.getElem?_eq_some_iff.1 e.symm).1
  rw [List.getElem?_eq_getElem hi, List.getElem?_eq_getElem hj] at e
  have e' : (mems s)[i] = (mems s)[j] := by simpa using e
  rcases Nat.lt_trichotomy i j with h | h | h
  · have := List.pairwise_iff_getElem.1 hs i j hi hj h; omega
  · exact h
  · have := List.pairwise_iff_getElem.1 hs j i hj hi h; omega
/-- the member with k below it -/
theorem nth_found {s k : Int} {x : Nat} (h : x < 64) (ht : tb s x = true) (hr : ((rankI s x : Nat) : Int) = k) : nthB s k = true ∧ nthI s k = x := by
  have hat := rank_at s x h ht
  have hlt := (List.getElem?_eq_some_iff.1 hat).1
  have hb : nthB s k = true := by rw [← hr]; simp [nthB]; omega
  refine ⟨hb, ?_⟩
  unfold nthI
  rw [if_pos hb, ← hr, Int.toNat_natCast]
  unfold memAt
  rw [hat]; rfl
theorem nth_none {s k : Int} (h : ∀ x, x < 64 → tb s x = true → ((rankI s x : Nat) : Int) ≠ k) : nthB s k = false ∧ nthI s k = 0 := by
  have hb : nthB s k = false := by
    cases hb : nthB s k
    · rfl
    · exfalso
      simp only [nthB, Bool.and_eq_true, decide_eq_true_eq] at hb
      obtain ⟨h0, h1⟩ := hb
      obtain ⟨q, rfl⟩ := Int.eq_ofNat_of_zero_le h0
      have hq : q < (mems s).length := by omega
      obtain ⟨m1, m2⟩ := mem_mems.1 (List.getElem_mem hq)
      refine h _ m1 m2 ?_
      have h2 := rank_at s _ m1 m2
      have := mems_nodup s hq (j := rankI s ((mems s)[q] : Nat)) (by rw [h2, List.getElem?_eq_getElem hq])
      omega
  exact ⟨hb, by simp [nthI, hb]⟩

end Go.Proofs.Ytcfpfddbbhphgab
