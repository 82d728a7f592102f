/- The document's own Then, of relations with as many rows. -/
import Derived.Test.YtcfpfddbbhphgabRefRel
namespace Go.Proofs.Ytcfpfddbbhphgab
open Go.RowKit Go.Shelf

def rowSet (acc : Int) (l : List Nat) : Int := l.foldl (fun acc x => setI acc x) acc
theorem rowSet_snoc (acc : Int) (l : List Nat) (x : Nat) : rowSet acc (l ++ [x]) = setI (rowSet acc l) x := by simp [rowSet]
theorem tb_rowSet (l : List Nat) : ∀ (acc : Int) (k : Nat), tb (rowSet acc l) k = (tb acc k || decide (k ∈ l)) := by
  induction l with
  | nil => intro acc k; simp [rowSet]
  | cons x l ih =>
    intro acc k
    show tb (rowSet (setI acc x) l) k = _
    rw [ih, tb_setI]
    by_cases e : k = x
    · subst e; simp
    · simp [e, show ¬ x = k from fun h => e h.symm]
theorem rowSet_bd {acc : Int} (h0 : 0 ≤ acc) (h1 : acc < 18446744073709551616) (l : List Nat) (hl : ∀ x, x ∈ l → x < 64) : 0 ≤ rowSet acc l ∧ rowSet acc l < 18446744073709551616 := by
  unfold rowSet
  induction l generalizing acc with
  | nil => exact ⟨h0, h1⟩
  | cons x l ih => exact ih (setI_nonneg _ _) (setI_lt h1 (hl x (by simp))) (fun q hq => hl q (by simp [hq]))
theorem rowSet_mems {acc r : Int} (h0 : 0 ≤ acc) (hr1 : r < 18446744073709551616) : rowSet acc (mems r) = orI acc r := by
  have hb : 0 ≤ rowSet acc (mems r) := by
    have key : ∀ (l : List Nat) (acc : Int), 0 ≤ acc → 0 ≤ rowSet acc l := by
      intro l
      induction l with
      | nil => exact fun acc h => h
      | cons x l ih => exact fun acc _ => ih _ (setI_nonneg _ _)
    exact key _ _ h0
  refine eq_of_tb hb (orI_nonneg _ _) fun j => ?_
  rw [tb_rowSet, tb_orI]
  congr 1
  rw [Bool.eq_iff_iff, decide_eq_true_iff, mem_mems]
  constructor
  · exact fun h => h.2
  · intro h
    refine ⟨?_, h⟩
    by_cases hj : j < 64
    · exact hj
    · rw [tb_ge hr1 (by omega)] at h; cases h

end Go.Proofs.Ytcfpfddbbhphgab
