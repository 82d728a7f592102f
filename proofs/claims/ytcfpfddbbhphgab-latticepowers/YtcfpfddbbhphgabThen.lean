/- bits.Then: one relation behind another one. -/
import Derived.Test.YtcfpfddbbhphgabTurn
namespace Go.Proofs.Ytcfpfddbbhphgab
open Go.RowKit Go.Shelf
attribute [local go_sem] Oper.semAt_some

def thenRow (l : List Nat) (y : Nat → Int) : Int := l.foldl (fun acc x => orI acc (y x)) 0
theorem thenRow_snoc (l : List Nat) (x : Nat) (y : Nat → Int) : thenRow (l ++ [x]) y = orI (thenRow l y) (y x) := by simp [thenRow]
def thenTo (z y : Nat → Int) (k : Nat) : Nat → Int := fun j => if j < k then thenRow (mems (z j)) y else 0
theorem thenTo_succ (z y : Nat → Int) (k : Nat) : upd (thenTo z y k) k (thenRow (mems (z k)) y) = thenTo z y (k + 1) := by
  funext j
  unfold upd thenTo
  by_cases e : j = k
  · subst e; simp
  · by_cases h : j < k
    · simp [e, h, show j < k + 1 by omega]
    · simp [e, h, show ¬ j < k + 1 by omega]
theorem upd_upd (g : Nat → Int) (k : Nat) (u v : Int) : upd (upd g k u) k v = upd g k v := by
  funext j; unfold upd; by_cases e : j = k <;> simp [e]
theorem upd_at (g : Nat → Int) (k : Nat) (v : Int) : upd g k v k = v := by simp [upd]
theorem thenRow_bd {n : Nat} {y : Nat → Int} (hy : ∀ j, j < n → 0 ≤ y j ∧ y j < 18446744073709551616) (l : List Nat) (hl : ∀ x, x ∈ l → x < n) : 0 ≤ thenRow l y ∧ thenRow l y < 18446744073709551616 := by
  have key : ∀ (l : List Nat) (acc : Int), (∀ x, x ∈ l → x < n) → 0 ≤ acc ∧ acc < 18446744073709551616 → 0 ≤ l.foldl (fun acc x => orI acc (y x)) acc ∧ l.foldl (fun acc x => orI acc (y x)) acc < 18446744073709551616 := by
    intro l
    induction l with
    | nil => exact fun acc _ h => h
    | cons x l ih =>
      intro acc hl h
      exact ih _ (fun x' hx => hl x' (by simp [hx])) ⟨orI_nonneg _ _, orI_lt h.2 (hy x (hl x (by simp))).2⟩
  exact key l 0 hl ⟨by decide, by decide⟩
theorem chk_row {n : Nat} {z : Nat → Int} (h : chkI n z = 0) {k : Nat} (hk : k < n) {x : Nat} (hx : x < 64) (ht : tb (z k) x = true) : x < n :=
  rowOk_iff.1 (chkB_iff.1 (chk_ok h).2 k hk) x hx ht

end Go.Proofs.Ytcfpfddbbhphgab
