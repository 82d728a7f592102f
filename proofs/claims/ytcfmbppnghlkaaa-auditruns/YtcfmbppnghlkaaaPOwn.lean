/- Rows of one's own, of any element's type: what is kept, what is read; an append's run. -/
import Derived.Test.YtcfmbppnghlkaaaUMem
import Derived.Test.YtcfmbppnghlkaaaJSeq
namespace Go.Proofs.Ytcfmbppnghlkaaa
open Go.RowKit Go.Sort
set_option maxRecDepth 100000

section
variable {w w' : World} {base size n : Nat} {e : TypeId} {v : Value} {xs : List Value}
theorem pown_same (h : w.ownsRow base e size v n xs) (hb : ∀ b, v.ownBlock = some b → w'.heap[b]? = w.heap[b]?) : w'.ownsRow base e size v n xs := by
  refine ⟨h.1, ?_⟩
  rcases h.2 with hn | ⟨g, cap, cur, rfl, h1, h2, rest⟩
  · exact .inl hn
  · exact .inr ⟨g, cap, cur, rfl, h1, (hb g rfl).trans h2, rest⟩
theorem pown_lt (h : w.ownsRow base e size v n xs) {b : Nat} (hb : v.ownBlock = some b) : base ≤ b ∧ b < w.heap.size := by
  rcases h.2 with ⟨rfl, _⟩ | ⟨g, cap, cur, rfl, h1, h2, _⟩
  · cases hb
  · cases hb; exact ⟨h1, (Array.getElem?_eq_some_iff.1 h2).1⟩
theorem pown_below (h : w.ownsRow base e size v n xs) (hb : Below w.heap.size w w') : w'.ownsRow base e size v n xs := pown_same h fun b hv => hb.block b (pown_lt h hv).2
theorem pown_mono {base' : Nat} (h : w.ownsRow base e size v n xs) (hb : base' ≤ base) : w.ownsRow base' e size v n xs := by
  refine ⟨h.1, ?_⟩
  rcases h.2 with hn | ⟨g, cap, cur, rfl, h1, rest⟩
  · exact .inl hn
  · exact .inr ⟨g, cap, cur, rfl, Nat.le_trans hb h1, rest⟩
theorem pown_form (h : w.ownsRow base e size v n xs) : ∃ a cap, v = .slice a n cap ∧ n ≤ cap ∧ cap ≤ maxLen := by
  rcases h.2 with ⟨rfl, rfl⟩ | ⟨g, cap, cur, rfl, _, _, h3, h4, _⟩
  · exact ⟨_, _, rfl, Nat.le_refl _, by decide⟩
  · exact ⟨_, _, rfl, h3, h4⟩
theorem pown_at {cap : Nat} {a : Option Addr} (h : w.ownsRow base e size (.slice a n cap) n xs) (hn : 0 < n) : ∃ g, a = some ⟨g, 0, none⟩ ∧ ∀ j x, xs[j]? = some x → w.cell? ⟨g, j, none⟩ = some x := by
  rcases h.2 with ⟨_, h0⟩ | ⟨g, cap', cur, e1, _, _, h3, _⟩
  · omega
  · injection e1 with e1 _ e2
    subst e1 e2
    refine ⟨g, rfl, fun j x hj => ?_⟩
    have := h.cells (g := g) rfl j x hj
    rwa [Go.WideShapes.add_plain, Nat.zero_add] at this
/-- two rows of unlike types lie apart -/
theorem pown_apart {base2 size2 n2 : Nat} {e2 : TypeId} {v2 : Value} {xs2 : List Value} (h : w.ownsRow base e size v n xs) (h2 : w.ownsRow base2 e2 size2 v2 n2 xs2) (hne : e ≠ e2) {b : Nat} (hv : v.ownBlock = some b) : ¬ v2.ownBlock = some b := by
  intro hv2
  rcases h.2 with ⟨rfl, _⟩ | ⟨g, cap, cur, rfl, _, k1, _⟩
  · cases hv
  rcases h2.2 with ⟨rfl, _⟩ | ⟨g2, cap2, cur2, rfl, _, k2, _⟩
  · cases hv2
  cases hv
  cases hv2
  rw [k1] at k2
  injection k2 with k2
  injection k2 with _ k2
  exact hne k2
end
theorem pappend {t e : TypeId} {size bytes : Nat} {z : Value} (E0 : Elt t e size bytes z) {w : World} (ty : TypeId) (base : Nat) (v u : Value) (n m : Nat) (xs ys : List Value)
    (hown : w.ownsRow base e size v n xs) (hu : Src w u m ys) (hl2 : ys.length = m * size) (h1 : ∀ y ∈ ys, y.oneCell' = true) (hl : n + m ≤ 1000000) (hbase : base ≤ w.heap.size) :
    ∃ v' w', (Builtin.append_ #[t, t] ty #[v, u]).run Try.prog w = .ok v' w' ∧ w'.ownsRow base e size v' (n + m) (xs ++ ys) ∧ w.grownBy w' v.ownBlock := by
  obtain ⟨i0, hi, hz0, hz1, hz2⟩ := info_parts E0.hi
  rcases hu with ⟨rfl, rfl⟩ | ⟨g, off, c, rfl, hc⟩
  · have hys : ys = [] := List.length_eq_zero_iff.1 (by rw [hl2, Nat.zero_mul])
    subst hys
    exact ⟨v, w, run_append_owned_none (P := Try.prog) (w := w) base t ty e i0 size E0.ht hi v n xs hown, by simpa using hown, World.grownBy.refl w _⟩
  · have h64 : (n + m) * bytes ≤ 140737488355328 := by
      have := Nat.mul_le_mul hl E0.hb
      omega
    obtain ⟨v', w', h2, h3, h4, _⟩ := run_append_own_at (P := Try.prog) w base t ty e i0 z size bytes E0.ht hi hz0 hz1 hz2 E0.hz E0.hs v n xs hown ⟨g, off, none⟩ m c ys hl2 (fun j y hj => by rw [Go.WideShapes.add_plain]; exact hc j y hj) h1 (by unfold maxLen; omega) h64 hbase
    exact ⟨v', w', h2, h3, h4⟩
/-- one more, that was just made -/
theorem psnoc {t e : TypeId} {size bytes : Nat} {z : Value} (E0 : Elt t e size bytes z) {w : World} (ty : TypeId) (base : Nat) (v : Value) (n : Nat) (xs ys : List Value)
    (hown : w.ownsRow base e size v n xs) (hl2 : ys.length = size) (h1 : ∀ y ∈ ys, y.oneCell' = true) (hl : n ≤ 900000) (hbase : base ≤ w.heap.size) :
    ∃ v' w', (Builtin.append_ #[t, t] ty #[v, .slice (some ⟨w.heap.size, 0, none⟩) 1 1]).run Try.prog (w.alloc (.cells ys.toArray e)) = .ok v' w' ∧ w'.ownsRow base e size v' (n + 1) (xs ++ ys) ∧ (w.alloc (.cells ys.toArray e)).grownBy w' v.ownBlock ∧ ∀ w0, Below base w0 w → Below base w0 w' := by
  have hb : Below w.heap.size w (w.alloc (.cells ys.toArray e)) := below_new _ _
  have sr : Src (w.alloc (.cells ys.toArray e)) (.slice (some ⟨w.heap.size, 0, none⟩) 1 1) 1 ys := gsrc_own (gown_1 w 0 e size ys hl2 (Nat.zero_le _))
  have ho := pown_below hown hb
  obtain ⟨v', w', h2, h3, h4⟩ := pappend E0 ty base v _ n 1 xs ys ho sr (by simp [hl2]) h1 (by omega) (Nat.le_trans hbase hb.size)
  exact ⟨v', w', h2, h3, h4, fun w0 h0 => gown_below (h0.trans (hb.mono hbase)) (Nat.le_trans hbase hb.size) ho h4⟩
end Go.Proofs.Ytcfmbppnghlkaaa
