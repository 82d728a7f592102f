/- The document's shape of a piece's bytes. -/
import Derived.Test.YtmhkkdbfejajeaaWLay
namespace Go.Proofs.Ytmhkkdbfejajeaa
open Go.RowKit

theorem ownStay {W W' : World} {base e size : Nat} {v : Value} {n : Nat} {xs : List Value} (h : W.ownsRow base e size v n xs) (hb : Below W.heap.size W W') : W'.ownsRow base e size v n xs := by
  refine ⟨h.1, ?_⟩
  rcases h.2 with h' | ⟨g', cap, cur, e, h1, hg, h2⟩
  · exact .inl h'
  · exact .inr ⟨g', cap, cur, e, h1, (hb.block g' (Array.getElem?_eq_some_iff.1 hg).1).trans hg, h2⟩
/-- the cells of a slice, as append asks for them -/
theorem news_of_cells {w : World} {a : Addr} {n : Nat} {z : Nat → Int} (h : Cells w .u8 (some a) n z) : ∀ j u, (encB n z)[j]? = some u → w.cell? (a.add j) = some u := by
  intro j u hu
  have hj : j < n := by
    have := (List.getElem?_eq_some_iff.1 hu).1
    rwa [encB_length] at this
  rw [encB_at n z j hj] at hu
  obtain ⟨b, off, e, hc⟩ := h j hj
  cases e
  have : (⟨b, off, none⟩ : Addr).add j = ⟨b, off + j, none⟩ := by unfold Addr.add; split <;> simp_all
  rw [this, hc]; exact hu
theorem cells_some {w : World} {k : IntKind} {a : Option Addr} {n : Nat} {z : Nat → Int} (h : Cells w k a n z) (hn : 0 < n) : ∃ b off, a = some ⟨b, off, none⟩ := by
  obtain ⟨b, off, e, _⟩ := h 0 hn
  exact ⟨b, off, e⟩
theorem own_block4 (w : World) (v0 v1 v2 v3 : Value) (t : TypeId) : (w.alloc (.cells #[v0, v1, v2, v3] t)).ownsRow w.heap.size t 1 (.slice (some ⟨w.heap.size, 0, none⟩) 4 4) 4 [v0, v1, v2, v3] :=
  ⟨rfl, .inr ⟨w.heap.size, 4, #[v0, v1, v2, v3], rfl, Nat.le_refl _, heapNew _ _, Nat.le_refl _, by unfold maxLen; omega, rfl, rfl⟩⟩
theorem encB_four (a b c : Int) : [Value.int .u8 a, .int .u8 b, .int .u8 c, .int .u8 0] = encB 4 (lay3Z a b c) := rfl
theorem shape_whole (a b c h p : Int) : ∀ j, j < 16 → (if j < 4 + 4 then (if j < 4 then lay3Z a b c j else byI h (j - 4)) else byI p (j - (4 + 4))) = layZ a b c h p j := by
  intro j hj
  rw [← lay_whole a b c h p j hj]
  unfold layTo
  by_cases h8 : 8 ≤ j
  · rw [if_neg (show ¬ j < 4 + 4 by omega), if_pos (show 8 ≤ j ∧ j < 8 + 8 by omega)]
  · rw [if_pos (show j < 4 + 4 by omega), if_neg (show ¬ (8 ≤ j ∧ j < 8 + 8) by omega)]
    by_cases h4 : 4 ≤ j
    · rw [if_neg (show ¬ j < 4 by omega), if_pos (show 4 ≤ j ∧ j < 4 + 4 by omega)]
    · rw [if_pos (show j < 4 by omega), if_neg (show ¬ (4 ≤ j ∧ j < 4 + 4) by omega)]

set_option maxHeartbeats 1000000 in
theorem shape_own (a b c h p : Int) (w : World) (h0 : 0 ≤ h) (h1 : h < 4294967296) (p0 : 0 ≤ p) (p1 : p < 18446744073709551616) :
    Calls Try.prog 30 #[.int .u8 a, .int .u8 b, .int .u8 c, .int .u32 h, .int .u64 p] w fun e w' => ∃ v, e = .returned v ∧ w'.ownsRow w.heap.size 5 1 v 16 (encB 16 (layZ a b c h p)) ∧ Below w.heap.size w w' := by
  obtain ⟨i0, hi, hz0, hz1, hz2⟩ := info_parts Try.infoU8
  go_enter Try.func30, Try.ntmps30
  go_wp2_with fail
  refine (low_own h 4 _ (by omega) h0 (by omega)).mono ?_
  rintro e w1 ⟨v1, rfl, hown1, hb1⟩
  have hrow := ownStay (own_block4 w (.int .u8 a) (.int .u8 b) (.int .u8 c) (.int .u8 0) 5) hb1
  rw [encB_four] at hrow
  obtain ⟨a1, cap1, rfl, hc1, _⟩ := cells_of_own hown1 (encB_at 4 _)
  obtain ⟨b1, o1, rfl⟩ := cells_some hc1 (by omega)
  have hB1 : Below w.heap.size w w1 := ((Below.refl _ w).alloc (Nat.le_refl _) _).trans (hb1.mono (by simp))
  have hn1 := news_of_cells hc1
  have s1 : w.heap.size ≤ w1.heap.size := hB1.size
  clear hc1 hown1 hb1
  go_wp2_with (at_builtin; refine wpList_append_own _ rfl _ _ 27 rfl w.heap.size 5 i0 (.int .u8 0) 1 1 Try.underlying27 hi hz0 hz1 hz2 rfl (by decide) _ _ _ rfl hrow ⟨b1, o1, none⟩ 4 _ (encB 4 (byI h)) rfl (encB_length _ _) hn1 (encB_one _ _) (by unfold maxLen; omega) (by omega) s1 ?_; intro v2 w2 hown2 hgrow2 _)
  have hB2 := hB1.grown hgrow2 s1 (own_ge hrow)
  have s2 : w.heap.size ≤ w2.heap.size := hB2.size
  rw [encB_append] at hown2
  refine (low_own p 8 _ (by omega) p0 p1).mono ?_
  rintro e w3 ⟨v3, rfl, hown3, hb3⟩
  have hrow3 := ownStay hown2 hb3
  obtain ⟨a3, cap3, rfl, hc3, _⟩ := cells_of_own hown3 (encB_at 8 _)
  obtain ⟨b3, o3, rfl⟩ := cells_some hc3 (by omega)
  have hB3 := Below.onto hB2 hb3
  have hn3 := news_of_cells hc3
  have s3 : w.heap.size ≤ w3.heap.size := hB3.size
  clear hc3 hown3 hb3 hn1 hrow hown2 hgrow2 hB1 hB2 s1 s2
  go_wp2_with (at_builtin; refine wpList_append_own _ rfl _ _ 27 rfl w.heap.size 5 i0 (.int .u8 0) 1 1 Try.underlying27 hi hz0 hz1 hz2 rfl (by decide) _ _ _ rfl hrow3 ⟨b3, o3, none⟩ 8 _ (encB 8 (byI p)) rfl (encB_length _ _) hn3 (encB_one _ _) (by unfold maxLen; omega) (by omega) s3 ?_; intro v4 w4 hown4 hgrow4 _)
  have hB4 := hB3.grown hgrow4 s3 (own_ge hrow3)
  rw [encB_append, encB_congr (shape_whole a b c h p)] at hown4
  go_ret
  exact ⟨_, rfl, hown4, hB4⟩

end Go.Proofs.Ytmhkkdbfejajeaa
