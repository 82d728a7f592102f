/- What the statements' rest gathers, one by one. -/
import Derived.Test.YtlphombjejgbiaaKColl
namespace Go.Proofs.Ytlphombjejgbiaa
open Go.RowKit Go.Shelf
attribute [local go_sem] Oper.semAt_some

theorem But.grown {S : Nat → Prop} {a w w' : World} {row : Option Nat} (h : But S a w) (hg : w.grownBy w' row) (hr : ∀ k, row = some k → S k ∨ a.heap.size ≤ k) : But S a w' :=
  ⟨hg.os.trans h.os, hg.tape.trans h.tape, hg.output.trans h.output, Nat.le_trans h.size hg.size, fun k hk hs =>
    (hg.block k (Nat.lt_of_lt_of_le hk h.size) (fun e => by rcases hr k e.symm with h | h; exact hs h; omega)).trans (h.block k hk hs)⟩
theorem own_mono {w : World} {b b' : Nat} {e : TypeId} {size : Nat} {v : Value} {n : Nat} {xs : List Value} (h : w.ownsRow b e size v n xs) (hb : b' ≤ b) : w.ownsRow b' e size v n xs := by
  refine ⟨h.1, ?_⟩
  rcases h.2 with h | ⟨g, cap, cur, e1, e2, e3⟩
  · exact .inl h
  · exact .inr ⟨g, cap, cur, e1, Nat.le_trans hb e2, e3⟩
theorem own_but {w w' : World} {b : Nat} {e : TypeId} {size : Nat} {v : Value} {n : Nat} {xs : List Value} {S : Nat → Prop} (h : w.ownsRow b e size v n xs) (hb : But S w w') (hS : ∀ g, S g → g < b) : w'.ownsRow b e size v n xs := by
  refine ⟨h.1, ?_⟩
  rcases h.2 with h | ⟨g, cap, cur, e1, e2, e3, e4⟩
  · exact .inl h
  · exact .inr ⟨g, cap, cur, e1, e2, (hb.block g (Array.getElem?_eq_some_iff.1 e3).1 (fun hs => by have := hS g hs; omega)).trans e3, e4⟩
theorem lift_nd {n : Nat} {l : List Nat} (h : ∀ x, x ∈ l → x < n) : ∃ r : List (Nd n), nat r = l := by
  induction l with
  | nil => exact ⟨[], rfl⟩
  | cons x l ih =>
    obtain ⟨r, hr⟩ := ih fun y hy => h y (by simp [hy])
    exact ⟨⟨x, h x (by simp)⟩ :: r, congrArg (x :: ·) hr⟩
/-- the j-th of l -/
def atL (l : List Nat) (j : Nat) : Int := ((l.getD j 0 : Nat) : Int)
theorem encL_at2 {l : List Nat} {j : Nat} (hj : j < l.length) : (encL l)[j]? = some (.int .i64 (atL l j)) := by
  simp [encL, atL, List.getD, hj]
theorem take_enc {l : List Nat} {j : Nat} (hj : j < l.length) : encL (l.take (j + 1)) = encL (l.take j) ++ [.int .i64 (atL l j)] := by
  rw [List.take_succ_eq_append_getElem hj, encL_snoc]
  simp [atL, List.getD, hj]

end Go.Proofs.Ytlphombjejgbiaa
