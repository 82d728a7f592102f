/- (wire.piece).lay: a piece's bytes. -/
import Derived.Test.YtmhkkdbfejajeaaWNum
import Derived.BigRegion
import Derived.Deep.RegionHeld3
namespace Go.Proofs.Ytmhkkdbfejajeaa
open Go.RowKit

theorem heapNew (w : World) (o : Obj) : (w.alloc o).heap[w.heap.size]? = some o := by
  show (w.heap.push o)[w.heap.size]? = _
  simp
/-- the first three bytes are laid -/
def lay3Z (a b c : Int) (j : Nat) : Int := if j = 0 then a else if j = 1 then b else if j = 2 then c else 0
theorem lay3 (W : World) (a b c : Int) : Lay (W.alloc (.cells #[.int .u8 a, .int .u8 b, .int .u8 c, .int .u8 0, .int .u8 0, .int .u8 0, .int .u8 0, .int .u8 0, .int .u8 0, .int .u8 0, .int .u8 0, .int .u8 0, .int .u8 0, .int .u8 0, .int .u8 0, .int .u8 0] 5)).drew W.heap.size 16 (lay3Z a b c) := by
  have hb : (W.alloc (.cells #[.int .u8 a, .int .u8 b, .int .u8 c, .int .u8 0, .int .u8 0, .int .u8 0, .int .u8 0, .int .u8 0, .int .u8 0, .int .u8 0, .int .u8 0, .int .u8 0, .int .u8 0, .int .u8 0, .int .u8 0, .int .u8 0] 5)).heap[W.heap.size]? = some (.cells #[.int .u8 a, .int .u8 b, .int .u8 c, .int .u8 0, .int .u8 0, .int .u8 0, .int .u8 0, .int .u8 0, .int .u8 0, .int .u8 0, .int .u8 0, .int .u8 0, .int .u8 0, .int .u8 0, .int .u8 0, .int .u8 0] 5 (0, 0)) := heapNew W _
  intro j hj
  refine ⟨?_, frozen_of_row _ _ j _ 5 hb⟩
  refine (cell_of_row _ _ j _ 5 (0, 0) hb).trans ?_
  match j, hj with
  | 0, _ => rfl
  | 1, _ => rfl
  | 2, _ => rfl
  | 3, _ => rfl
  | 4, _ => rfl
  | 5, _ => rfl
  | 6, _ => rfl
  | 7, _ => rfl
  | 8, _ => rfl
  | 9, _ => rfl
  | 10, _ => rfl
  | 11, _ => rfl
  | 12, _ => rfl
  | 13, _ => rfl
  | 14, _ => rfl
  | 15, _ => rfl
  | j + 16, hj => omega
theorem Lay.drew {W : World} {B m : Nat} {z : Nat → Int} (h : Lay W B m z) : Lay W.drew B m z := h.below (Below.refl _ _).drew
theorem lay_whole (a b c h p : Int) : ∀ j, j < 16 → layTo (layTo (lay3Z a b c) 4 h 4) 8 p 8 j = layZ a b c h p j := by
  intro j hj
  unfold layTo layZ lay3Z
  by_cases h8 : 8 ≤ j
  · rw [if_pos (by omega), if_neg (by omega), if_neg (by omega), if_neg (by omega), if_neg (by omega), if_neg (by omega)]
  · rw [if_neg (by omega)]
    by_cases h4 : 4 ≤ j
    · rw [if_pos (by omega), if_neg (by omega), if_neg (by omega), if_neg (by omega), if_neg (by omega), if_pos (by omega)]
    · rw [if_neg (by omega)]
      by_cases h3 : j = 3
      · subst h3; rfl
      · by_cases h0 : j = 0
        · rw [if_pos h0, if_pos h0]
        · by_cases h1 : j = 1
          · rw [if_neg h0, if_pos h1, if_neg h0, if_pos h1]
          · rw [if_neg h0, if_neg h1, if_pos (by omega), if_neg h0, if_neg h1, if_pos (by omega)]
theorem Lay.congr {W : World} {B m : Nat} {z y : Nat → Int} (h : Lay W B m z) (e : ∀ j, j < m → z j = y j) : Lay W B m y := fun j hj => by rw [← e j hj]; exact h j hj
theorem agg5_cells (w W : World) (x0 x1 x2 x3 x4 : Value) (t : TypeId) (hb : Below (w.heap.size + 1) (w.alloc (.cells #[x0, x1, x2, x3, x4] t)) W) :
    W.cell? ⟨w.heap.size, 0, none⟩ = some x0 ∧ W.cell? ⟨w.heap.size, 1, none⟩ = some x1 ∧ W.cell? ⟨w.heap.size, 2, none⟩ = some x2 ∧ W.cell? ⟨w.heap.size, 3, none⟩ = some x3 ∧ W.cell? ⟨w.heap.size, 4, none⟩ = some x4 := by
  have h : (w.alloc (.cells #[x0, x1, x2, x3, x4] t)).heap[w.heap.size]? = some (.cells #[x0, x1, x2, x3, x4] t (0, 0)) := heapNew w _
  have c := fun j => (hb.cell (p := ⟨w.heap.size, j, none⟩) (show w.heap.size < w.heap.size + 1 by omega)).trans (cell_of_row _ _ j _ t (0, 0) h)
  exact ⟨c 0, c 1, c 2, c 3, c 4⟩

set_option maxHeartbeats 2000000 in
theorem lay_any (a b c h p : Int) (w : World) (h0 : 0 ≤ h) (h1 : h < 4294967296) :
    Calls Try.prog 29 #[.agg #[.int .u8 a, .int .u8 b, .int .u8 c, .int .u32 h, .int .u64 p]] w fun e w' => ∃ B, e = .returned (.slice (some ⟨B, 0, none⟩) 16 16) ∧ Lay w' B 16 (layZ a b c h p) ∧ w.heap.size ≤ B ∧ Below w.heap.size w w' := by
  have hmk : ∀ w, (Instr.makeSlice 27 (.int .i64 16) (.int .i64 16)).run Try.prog w = .ok (.slice (some ⟨w.heap.size, 0, none⟩) 16 16) (w.alloc (.cells #[.int .u8 0, .int .u8 0, .int .u8 0, .int .u8 0, .int .u8 0, .int .u8 0, .int .u8 0, .int .u8 0, .int .u8 0, .int .u8 0, .int .u8 0, .int .u8 0, .int .u8 0, .int .u8 0, .int .u8 0, .int .u8 0] 5)) := fun _ => by kernel_rfl
  go_enter Try.func29, Try.ntmps29
  go_wp2
  go_region
  go_wp2_with fail
  have hlay := lay3 (w.alloc (.cells #[.int .u8 a, .int .u8 b, .int .u8 c, .int .u32 h, .int .u64 p] 65)) a b c
  have hN : (w.alloc (.cells #[.int .u8 a, .int .u8 b, .int .u8 c, .int .u32 h, .int .u64 p] 65)).heap.size = w.heap.size + 1 := by simp
  rw [hN] at hlay
  have hB : Below (w.heap.size + 1) (w.alloc (.cells #[.int .u8 a, .int .u8 b, .int .u8 c, .int .u32 h, .int .u64 p] 65)) ((w.alloc (.cells #[.int .u8 a, .int .u8 b, .int .u8 c, .int .u32 h, .int .u64 p] 65)).alloc (.cells #[.int .u8 a, .int .u8 b, .int .u8 c, .int .u8 0, .int .u8 0, .int .u8 0, .int .u8 0, .int .u8 0, .int .u8 0, .int .u8 0, .int .u8 0, .int .u8 0, .int .u8 0, .int .u8 0, .int .u8 0, .int .u8 0] 5)).drew := ((Below.refl _ _).alloc (by simp) _).drew
  have HL : Hid (Lay _ _ _ _) := hlay
  clear hlay hN hmk
  generalize ((w.alloc (.cells #[.int .u8 a, .int .u8 b, .int .u8 c, .int .u32 h, .int .u64 p] 65)).alloc (.cells #[.int .u8 a, .int .u8 b, .int .u8 c, .int .u8 0, .int .u8 0, .int .u8 0, .int .u8 0, .int .u8 0, .int .u8 0, .int .u8 0, .int .u8 0, .int .u8 0, .int .u8 0, .int .u8 0, .int .u8 0, .int .u8 0] 5)).drew = W at *
  obtain ⟨_, _, _, c3, c4⟩ := agg5_cells _ _ _ _ _ _ _ _ hB
  have HW : Hid (IntKind.u64.wrap h = h) := by rw [IntKind.wrap_u64]; exact Int.emod_eq_of_lt h0 (by omega)
  go_region_with (go_at_call 36; refine (layNumber_any (w.heap.size + 1) 4 4 16 _ (lay3Z a b c) _ _ ?_ ?_ ?_).mono ?_; omega; omega; exact HL.out.drew; rintro e w3 ⟨rfl, hl3, hb3⟩)
  have hB3 : Below (w.heap.size + 1) (w.alloc (.cells #[.int .u8 a, .int .u8 b, .int .u8 c, .int .u32 h, .int .u64 p] 65)) w3 := hB.drew.trans hb3
  rw [HW.out] at hl3
  have HL3 : Hid (Lay w3 (w.heap.size + 1) 16 (layTo (lay3Z a b c) 4 h 4)) := hl3
  clear hl3 hb3 hB HL c3 c4
  obtain ⟨_, _, _, c3, c4⟩ := agg5_cells _ _ _ _ _ _ _ _ hB3
  go_wp2_with fail
  go_region_with (go_at_call 36; refine (layNumber_any (w.heap.size + 1) 8 8 16 _ (layTo (lay3Z a b c) 4 h 4) _ _ ?_ ?_ ?_).mono ?_; omega; omega; exact HL3.out.drew; rintro e w4 ⟨rfl, hl4, hb4⟩)
  have hB4 := hB3.drew.trans hb4
  go_wp2_with fail
  go_ret
  exact ⟨_, rfl, hl4.congr (lay_whole a b c h p), by omega, ((Below.refl _ _).alloc (Nat.le_refl _) _).trans (hB4.mono (by omega))⟩

end Go.Proofs.Ytmhkkdbfejajeaa
