/- The document's Reset. -/
import Derived.Test.YtimmjhegeagofaaURefR
namespace Go.Proofs.Ytimmjhegeagofaa
open Go.RowKit
set_option maxRecDepth 100000

theorem rst_cells {ls : List PLn} {V : Nat → Value} {j : Nat} (hj : j < ls.length) (i e : Nat) (he : e < 6) : (if i = j ∧ e = 5 then Value.int .i64 ((atP ls j).ep + 1) else if i = j ∧ e = 2 then Value.int .i64 (atP ls j).cr else encLs ls V i e) = encLs (ls.set j (rstL (atP ls j))) V i e := by
  unfold encLs
  rw [atP_set hj]
  by_cases h : i = j
  · subst h
    rw [if_pos rfl]
    match e, he with
    | 0, _ => simp [encP, rstL]
    | 1, _ => simp [encP, rstL]
    | 2, _ => simp [encP, rstL]
    | 3, _ => simp [encP]
    | 4, _ => simp [encP, rstL]
    | 5, _ => simp [encP, rstL]
  · simp [h]
theorem msg_snoc {l : List PMs} {y : PMs} {m : Nat} {xs : List Value} (hm : m = l.length) (hl : xs.length = m * 4) (hxs : ∀ i, i < m → ∀ f, f < 4 → xs[i * 4 + f]? = some (encMs l i f)) : ∀ i, i < m + 1 → ∀ f, f < 4 → (xs ++ cellsL 1 4 (fun _ => encM y))[i * 4 + f]? = some (encMs (l ++ [y]) i f) := by
  intro i hi f hf
  by_cases h : i < m
  · rw [List.getElem?_append_left (by rw [hl]; exact mul_lt_of h hf), hxs i h f hf]
    unfold encMs
    congr 2
    have h2 : i < l.length := by omega
    simp [atM, List.getElem?_append_left h2]
  · obtain rfl : i = m := by omega
    rw [List.getElem?_append_right (by omega), hl, Nat.add_sub_cancel_left]
    have := cellsL_at (n := 1) (s := 4) (c := fun _ => encM y) (j := 0) (f := f) (by omega) hf
    rw [Nat.zero_mul, Nat.zero_add] at this
    rw [this]
    unfold encMs
    congr 2
    simp [atM, hm]
end Go.Proofs.Ytimmjhegeagofaa
