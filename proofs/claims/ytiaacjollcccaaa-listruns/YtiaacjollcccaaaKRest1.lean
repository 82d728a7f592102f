/- What the statements' rest gathers, one by one. -/
import Derived.Test.YtiaacjollcccaaaKColl
namespace Go.Proofs.Ytiaacjollcccaaa
open Go.RowKit Go.Shelf
attribute [local go_sem] Oper.semAt_some

theorem But.grown {S : Nat → Prop} {a w w' : World} {row : Option Nat} (h : But S a w) (hg : w.grownBy w' row) (hr : ∀ k, row = some k → S k ∨ a.heap.size ≤ k) : But S a w' :=
  ⟨hg.os.trans h.os, hg.tape.trans h.tape, hg.output.trans h.output, Nat.le_trans h.size hg.size, fun k hk hs =>
    (hg.block k (Nat.lt_of_lt_of_le hk h.size) (fun e => by rcases hr k e.symm with h | h; exact hs h; omega)).trans (h.block k hk hs)⟩
theorem own_mono {w : World} {b b' : Nat} {e : TypeId} {size : Nat} {v : Value} {n : Nat} {xs : List Value} (h : w.ownsRow b e size v n xs) (hb : b' ≤ b) : w.ownsRow b' e size v n xs := by
  refine ⟨h.1, ?_⟩
  rcases h.2 with h | ⟨g, cap, cur, e1, e2, e3⟩
  · exact .inl h
  · exact .inr ⟨g, cap, cur, e1, Nat.le_trans hb e2, e3⟩
theorem own_but {w w' : World} {b : Nat} {e : TypeId} {size : Nat} {v : Value} {n : Nat} {xs : List Value} {S : Nat → Prop} (h : w.ownsRow b e size v n xs) (hb : But S w w') (hS : ∀ g, S g → g < b) : w'.ownsRow b e size v n xs := by
  refine ⟨h.1, ?_⟩
  rcases h.2 with h | ⟨g, cap, cur, e1, e2, e3, e4⟩
  · exact .inl h
  · exact .inr ⟨g, cap, cur, e1, e2, (hb.block g (Array.getElem?_eq_some_iff.1 e3).1 (fun hs => by have := hS g hs; omega)).trans e3, e4⟩
theorem lift_nd {n : Nat} {l : List Nat} (h : ∀ x, x ∈ l → x < n) : ∃ r : List (Nd n), nat r = l := by
  induction l with
  | nil => exact ⟨[], rfl⟩
  | cons x l ih =>
    obtain ⟨r, hr⟩ := ih fun y hy => h y (by simp [hy])
    exact ⟨⟨x, h x (by simp)⟩ :: r, congrArg (x :: ·) hr⟩
/-- the j-th of l -/
def atL (l : List Nat) (j : Nat) : Int := ((l.getD j 0 : Nat) : Int)
theorem encL_at2 {l : List Nat} {j : Nat} (hj : j < l.length) : (encL l)[j]? = some (.int .i64 (atL l j)) := by
  simp [encL, atL, List.getD, hj]
theorem take_enc {l : List Nat} {j : Nat} (hj : j < l.length) : encL (l.take (j + 1)) = encL (l.take j) ++ [.int .i64 (atL l j)] := by
  rw [List.take_succ_eq_append_getElem hj, encL_snoc]
  simp [atL, List.getD, hj]

set_option maxHeartbeats 2000000 in
theorem rest1_k (C : Nat) (x : Int) (v : Value) (n : Nat) (xs : List Value) (base : Nat) (W : World) (hv : Boxed W C 36 v) (hrow : W.ownsRow base 3 1 v n xs) (hbase : base ≤ W.heap.size) (hn : n ≤ 100000) :
    Calls Try.prog 53 #[.int .i64 x, .pointer (some ⟨C, 0, none⟩)] W fun e W' => e = .returned (.bool (decide ((n : Int) + 1 < 80))) ∧ ∃ v', Boxed W' C 36 v' ∧ W'.ownsRow base 3 1 v' (n + 1) (xs ++ [.int .i64 x]) ∧ But (fun b => b = C ∨ base ≤ b) W W' := by
  obtain ⟨i0, hi, hz0, hz1, hz2⟩ := info_parts Try.info3
  have hc := hv.cell
  go_enter Try.func53, Try.ntmps53
  go_wp2_with (at_builtin; refine wpList_append_own _ rfl _ _ 36 rfl base 3 i0 (.int .i64 0) 1 8 Try.underlying36 hi hz0 hz1 hz2 rfl (by decide) _ _ _ rfl (hrow.alloc _) ⟨W.heap.size, 0, none⟩ 1 1 [.int .i64 x] rfl rfl (cell_one_new _ _ _) (by simp [Value.oneCell']) (by unfold maxLen; omega) (by omega) (by simp; omega) ?_; intro v' w3 hown' hgrow _; obtain ⟨g', cap', rfl⟩ := ownsRow_succ hown'; have hv1 := (hv.alloc _).kept hgrow (hv.not_row (by decide) hrow); have hc1 := hv1.cell; have hf1 := hv1.frozen; have hv2 := hv1.set (.slice (some ⟨g', 0, none⟩) (n + 1) cap'); have hr2 := hown'.kept (grownBy_setCell' w3 C (.slice (some ⟨g', 0, none⟩) (n + 1) cap')) (.inr (hv1.not_row (by decide) hown').symm); have hc2 := hv2.cell)
  have hbut : But (fun b => b = C ∨ base ≤ b) W (w3.setCell ⟨C, 0, none⟩ (.slice (some ⟨g', 0, none⟩) (n + 1) cap')) :=
    (((But.refl _ W).alloc _).grown hgrow (fun k e => .inl (.inr (own_ge hrow k e)))).setCell (.inl rfl) _
  go_ret
  exact ⟨rfl, _, hv2, hr2, hbut⟩

end Go.Proofs.Ytiaacjollcccaaa
