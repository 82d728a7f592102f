/- The document's shape of a piece's bytes. -/
import Derived.Test.YtmhkkdbfejajeabWLay
namespace Go.Proofs.Ytmhkkdbfejajeab
open Go.RowKit

theorem ownStay {W W' : World} {base e size : Nat} {v : Value} {n : Nat} {xs : List Value} (h : W.ownsRow base e size v n xs) (hb : Below W.heap.size W W') : W'.ownsRow base e size v n xs := by
  refine ⟨h.1, ?_⟩
  rcases h.2 with h' | ⟨g', cap, cur, e, h1, hg, h2⟩
  · exact .inl h'
  · exact .inr ⟨g', cap, cur, e, h1, (hb.block g' (Array.getElem?_eq_some_iff.1 hg).1).trans hg, h2⟩
/-- the cells of a slice, as append asks for them -/
theorem news_of_cells {w : World} {a : Addr} {n : Nat} {z : Nat → Int} (h : Cells w .u8 (some a) n z) : ∀ j u, (encB n z)[j]? = some u → w.cell? (a.add j) = some u := by
  intro j u hu
  have hj : j < n := by
    have := (List.getElem?_eq_some_iff.1 hu).1
    rwa [encB_length] at this
  rw [encB_at n z j hj] at hu
  obtain ⟨b, off, e, hc⟩ := h j hj
  cases e
  have : (⟨b, off, none⟩ : Addr).add j = ⟨b, off + j, none⟩ := by unfold Addr.add; split <;> simp_all
  rw [this, hc]; exact hu
theorem cells_some {w : World} {k : IntKind} {a : Option Addr} {n : Nat} {z : Nat → Int} (h : Cells w k a n z) (hn : 0 < n) : ∃ b off, a = some ⟨b, off, none⟩ := by
  obtain ⟨b, off, e, _⟩ := h 0 hn
  exact ⟨b, off, e⟩
theorem own_block4 (w : World) (v0 v1 v2 v3 : Value) (t : TypeId) : (w.alloc (.cells #[v0, v1, v2, v3] t)).ownsRow w.heap.size t 1 (.slice (some ⟨w.heap.size, 0, none⟩) 4 4) 4 [v0, v1, v2, v3] :=
  ⟨rfl, .inr ⟨w.heap.size, 4, #[v0, v1, v2, v3], rfl, Nat.le_refl _, heapNew _ _, Nat.le_refl _, by unfold maxLen; omega, rfl, rfl⟩⟩
theorem encB_four (a b c : Int) : [Value.int .u8 a, .int .u8 b, .int .u8 c, .int .u8 0] = encB 4 (lay3Z a b c) := rfl
theorem shape_whole (a b c h p : Int) : ∀ j, j < 16 → (if j < 4 + 4 then (if j < 4 then lay3Z a b c j else byI h (j - 4)) else byI p (j - (4 + 4))) = layZ a b c h p j := by
  intro j hj
  rw [← lay_whole a b c h p j hj]
  unfold layTo
  by_cases h8 : 8 ≤ j
  · rw [if_neg (show ¬ j < 4 + 4 by omega), if_pos (show 8 ≤ j ∧ j < 8 + 8 by omega)]
  · rw [if_pos (show j < 4 + 4 by omega), if_neg (show ¬ (8 ≤ j ∧ j < 8 + 8) by omega)]
    by_cases h4 : 4 ≤ j
    · rw [if_neg (show ¬ j < 4 by omega), if_pos (show 4 ≤ j ∧ j < 4 + 4 by omega)]
    · rw [if_pos (show j < 4 by omega), if_neg (show ¬ (4 ≤ j ∧ j < 4 + 4) by omega)]

end Go.Proofs.Ytmhkkdbfejajeab
