/- wire.ParseReply: what any bytes are. -/
import Derived.Test.YtmhkkdbfejajeaaWPar
namespace Go.Proofs.Ytmhkkdbfejajeaa
open Go.RowKit

theorem agg4_cells (w W : World) (x0 x1 x2 x3 : Value) (t : TypeId) (hb : Below (w.heap.size + 1) (w.alloc (.cells #[x0, x1, x2, x3] t)) W) :
    W.cell? ⟨w.heap.size, 0, none⟩ = some x0 ∧ W.cell? ⟨w.heap.size, 1, none⟩ = some x1 ∧ W.cell? ⟨w.heap.size, 2, none⟩ = some x2 ∧ W.cell? ⟨w.heap.size, 3, none⟩ = some x3 := by
  have h : (w.alloc (.cells #[x0, x1, x2, x3] t)).heap[w.heap.size]? = some (.cells #[x0, x1, x2, x3] t (0, 0)) := heapNew w _
  have c := fun j => (hb.cell (p := ⟨w.heap.size, j, none⟩) (show w.heap.size < w.heap.size + 1 by omega)).trans (cell_of_row _ _ j _ t (0, 0) h)
  exact ⟨c 0, c 1, c 2, c 3⟩
theorem agg4_frozen (w W : World) (x0 x1 x2 x3 : Value) (t : TypeId) (hb : Below (w.heap.size + 1) (w.alloc (.cells #[x0, x1, x2, x3] t)) W) (j : Nat) : W.frozen? ⟨w.heap.size, j, none⟩ = false := by
  have h : (w.alloc (.cells #[x0, x1, x2, x3] t)).heap[w.heap.size]? = some (.cells #[x0, x1, x2, x3] t (0, 0)) := heapNew w _
  exact (hb.frozen (p := ⟨w.heap.size, j, none⟩) (show w.heap.size < w.heap.size + 1 by omega)).trans (frozen_of_row _ _ j _ t h)

set_option maxHeartbeats 1000000 in
theorem parser_short (a : Option Addr) (n cap : Nat) (w : World) (hn : n ≠ 16) :
    Calls Try.prog 17 #[.slice a n cap] w fun e w' => e = .returned (.tuple #[.agg #[.int .u8 0, .int .u8 0, .int .u32 0, .int .u64 0], .int .i64 30]) ∧ Below w.heap.size w w' := by
  go_enter Try.func17, Try.ntmps17
  go_wp2_with fail
  refine (rp_short a n cap _ hn).mono ?_
  rintro e w1 ⟨rfl, hb1⟩
  have hB : Below (w.heap.size + 1) (w.alloc (.cells #[.int .u8 0, .int .u8 0, .int .u32 0, .int .u64 0] 43)) w1 := hb1.mono (by simp)
  obtain ⟨c0, c1, c2, c3⟩ := agg4_cells _ _ _ _ _ _ _ hB
  have f := agg4_frozen _ _ _ _ _ _ _ hB
  have hz : w.heap.size < w1.heap.size := by have := hB.size; simp at this; omega
  have hb0 : Below w.heap.size w w1 := ((Below.refl _ w).alloc (Nat.le_refl _) _).trans (hB.mono (by omega))
  clear hB hb1
  go_wp2_with fail
  refine bodyPost_ret (v := .tuple #[.agg #[.int .u8 0, .int .u8 0, .int .u32 0, .int .u64 0], .int .i64 30]) (by simp [results, Try.results17, go_sem, c0, c1, c2, c3, hz]) rfl ⟨rfl, ?_⟩
  repeat' with_reducible first | exact hb0 | refine Below.setCell ?_ ?_ _ | refine Below.alloc ?_ ?_ _ | refine Below.drew ?_
  all_goals (simp; try omega)
set_option maxHeartbeats 1000000 in
theorem parser_three (b off cap : Nat) (z : Nat → Int) (w : World) (hc : Cells w .u8 (some ⟨b, off, none⟩) 16 z) (h3 : z 3 ≠ 0) :
    Calls Try.prog 17 #[.slice (some ⟨b, off, none⟩) 16 cap] w fun e w' => e = .returned (.tuple #[.agg #[.int .u8 0, .int .u8 0, .int .u32 0, .int .u64 0], .int .i64 30]) ∧ Below w.heap.size w w' := by
  have hd : Cells (w.alloc (.cells #[.int .u8 0, .int .u8 0, .int .u32 0, .int .u64 0] 43)) .u8 (some ⟨b, off, none⟩) 16 z := hc.below ((Below.refl _ w).alloc (Nat.le_refl _) _)
  have HD : Hid (Cells _ .u8 (some ⟨b, off, none⟩) 16 z) := hd
  clear hc hd
  go_enter Try.func17, Try.ntmps17
  go_wp2_with fail
  refine (rp_no b off cap z _ HD.out h3).mono ?_
  rintro e w1 ⟨rfl, hb1⟩
  have hB : Below (w.heap.size + 1) (w.alloc (.cells #[.int .u8 0, .int .u8 0, .int .u32 0, .int .u64 0] 43)) w1 := hb1.mono (by simp)
  obtain ⟨c0, c1, c2, c3⟩ := agg4_cells _ _ _ _ _ _ _ hB
  have f := agg4_frozen _ _ _ _ _ _ _ hB
  have hz : w.heap.size < w1.heap.size := by have := hB.size; simp at this; omega
  have hb0 : Below w.heap.size w w1 := ((Below.refl _ w).alloc (Nat.le_refl _) _).trans (hB.mono (by omega))
  clear hB hb1
  clear HD
  go_wp2_with fail
  refine bodyPost_ret (v := .tuple #[.agg #[.int .u8 0, .int .u8 0, .int .u32 0, .int .u64 0], .int .i64 30]) (by simp [results, Try.results17, go_sem, c0, c1, c2, c3, hz]) rfl ⟨rfl, ?_⟩
  repeat' with_reducible first | exact hb0 | refine Below.setCell ?_ ?_ _ | refine Below.alloc ?_ ?_ _ | refine Below.drew ?_
  all_goals (simp; try omega)
set_option maxHeartbeats 1000000 in
theorem parser_two (b off cap : Nat) (z : Nat → Int) (w : World) (hcap : 16 ≤ cap) (hc : Cells w .u8 (some ⟨b, off, none⟩) 16 z) (hb : Byt z 16) (h3 : z 3 = 0) (h2 : z 2 ≠ 0) :
    Calls Try.prog 17 #[.slice (some ⟨b, off, none⟩) 16 cap] w fun e w' => e = .returned (.tuple #[.agg #[.int .u8 0, .int .u8 0, .int .u32 0, .int .u64 0], .int .i64 30]) ∧ Below w.heap.size w w' := by
  have hd : Cells (w.alloc (.cells #[.int .u8 0, .int .u8 0, .int .u32 0, .int .u64 0] 43)) .u8 (some ⟨b, off, none⟩) 16 z := hc.below ((Below.refl _ w).alloc (Nat.le_refl _) _)
  have hrp := rp_yes b off cap z _ hcap hd hb h3
  change Calls _ _ _ _ (fun e w' => e = .returned (.tuple #[.agg #[.int .u8 (z 0), .int .u8 (z 1), .int .u8 (z 2), .int .u32 (n4 z), .int .u64 (n8 z)], .bool true]) ∧ _) at hrp
  clear hc hd h3 hb
  generalize n4 z = x4 at *
  generalize n8 z = x8 at *
  generalize z 0 = x0 at *
  generalize z 1 = x1 at *
  generalize z 2 = x2 at *
  have h2' : (x2 == 0) = false := by simpa using h2
  go_enter Try.func17, Try.ntmps17
  go_wp2_with fail
  refine hrp.mono ?_
  rintro e w1 ⟨rfl, hb1⟩
  have hB : Below (w.heap.size + 1) (w.alloc (.cells #[.int .u8 0, .int .u8 0, .int .u32 0, .int .u64 0] 43)) w1 := hb1.mono (by simp)
  obtain ⟨c0, c1, c2, c3⟩ := agg4_cells _ _ _ _ _ _ _ hB
  have f := agg4_frozen _ _ _ _ _ _ _ hB
  have hz : w.heap.size < w1.heap.size := by have := hB.size; simp at this; omega
  have hb0 : Below w.heap.size w w1 := ((Below.refl _ w).alloc (Nat.le_refl _) _).trans (hB.mono (by omega))
  clear hB hb1
  clear hrp
  go_wp2_with fail
  refine bodyPost_ret (v := .tuple #[.agg #[.int .u8 0, .int .u8 0, .int .u32 0, .int .u64 0], .int .i64 30]) (by simp [results, Try.results17, go_sem, c0, c1, c2, c3, hz]) rfl ⟨rfl, ?_⟩
  repeat' with_reducible first | exact hb0 | refine Below.setCell ?_ ?_ _ | refine Below.alloc ?_ ?_ _ | refine Below.drew ?_
  all_goals (simp; try omega)
set_option maxHeartbeats 1000000 in
theorem parser_bad (b off cap : Nat) (z : Nat → Int) (w : World) (hcap : 16 ≤ cap) (hc : Cells w .u8 (some ⟨b, off, none⟩) 16 z) (hb : Byt z 16) (h3 : z 3 = 0) (h2 : z 2 = 0) (hok : repB (z 0) (z 1) (n4 z) (n8 z) = false) :
    Calls Try.prog 17 #[.slice (some ⟨b, off, none⟩) 16 cap] w fun e w' => e = .returned (.tuple #[.agg #[.int .u8 0, .int .u8 0, .int .u32 0, .int .u64 0], .int .i64 30]) ∧ Below w.heap.size w w' := by
  have hd : Cells (w.alloc (.cells #[.int .u8 0, .int .u8 0, .int .u32 0, .int .u64 0] 43)) .u8 (some ⟨b, off, none⟩) 16 z := hc.below ((Below.refl _ w).alloc (Nat.le_refl _) _)
  have hrp := rp_yes b off cap z _ hcap hd hb h3
  have hck := fun w => crep_any (z 0) (z 1) (n4 z) (n8 z) w
  rw [hok, show errI false = 30 from rfl] at hck
  change Calls _ _ _ _ (fun e w' => e = .returned (.tuple #[.agg #[.int .u8 (z 0), .int .u8 (z 1), .int .u8 (z 2), .int .u32 (n4 z), .int .u64 (n8 z)], .bool true]) ∧ _) at hrp
  clear hc hd h3 hb hok
  generalize n4 z = x4 at *
  generalize n8 z = x8 at *
  generalize z 0 = x0 at *
  generalize z 1 = x1 at *
  generalize z 2 = x2 at *
  subst h2
  go_enter Try.func17, Try.ntmps17
  go_wp2_with fail
  refine hrp.mono ?_
  rintro e w1 ⟨rfl, hb1⟩
  have hB : Below (w.heap.size + 1) (w.alloc (.cells #[.int .u8 0, .int .u8 0, .int .u32 0, .int .u64 0] 43)) w1 := hb1.mono (by simp)
  obtain ⟨c0, c1, c2, c3⟩ := agg4_cells _ _ _ _ _ _ _ hB
  have f := agg4_frozen _ _ _ _ _ _ _ hB
  have hz : w.heap.size < w1.heap.size := by have := hB.size; simp at this; omega
  have hb0 : Below w.heap.size w w1 := ((Below.refl _ w).alloc (Nat.le_refl _) _).trans (hB.mono (by omega))
  clear hB hb1
  clear hrp
  go_wp2_with fail
  refine (hck _).mono ?_
  rintro e w2 ⟨rfl, hb2⟩
  have hs2 : w1.heap.size + 1 + 1 ≤ w2.heap.size := by have := hb2.size; simp at this; omega
  have k := fun j => (hb2.cell (p := ⟨w.heap.size, j, none⟩) (by simp; omega)).trans (((Below.refl (w.heap.size + 1) w1).alloc (by omega) _).alloc (by simp; omega) _ |>.cell (p := ⟨w.heap.size, j, none⟩) (show w.heap.size < w.heap.size + 1 by omega))
  have kf := fun j => (hb2.frozen (p := ⟨w.heap.size, j, none⟩) (by simp; omega)).trans (((Below.refl (w.heap.size + 1) w1).alloc (by omega) _).alloc (by simp; omega) _ |>.frozen (p := ⟨w.heap.size, j, none⟩) (show w.heap.size < w.heap.size + 1 by omega))
  have d0 := (k 0).trans c0
  have d1 := (k 1).trans c1
  have d2 := (k 2).trans c2
  have d3 := (k 3).trans c3
  have g := fun j => (kf j).trans (f j)
  have hb0' : Below w.heap.size w w2 := Below.onto ((hb0.alloc hb0.size _).alloc (by have := hb0.size; simp; omega) _) hb2
  clear k kf c0 c1 c2 c3 f hb2 hck hb0
  go_wp2_with fail
  refine bodyPost_ret (v := .tuple #[.agg #[.int .u8 0, .int .u8 0, .int .u32 0, .int .u64 0], .int .i64 30]) (by simp [results, Try.results17, go_sem, d0, d1, d2, d3]) rfl ⟨rfl, ?_⟩
  repeat' with_reducible first | exact hb0' | refine Below.setCell ?_ ?_ _ | refine Below.alloc ?_ ?_ _ | refine Below.drew ?_
  all_goals (simp; try omega)
set_option maxHeartbeats 1000000 in
theorem parser_ok (b off cap : Nat) (z : Nat → Int) (w : World) (hcap : 16 ≤ cap) (hc : Cells w .u8 (some ⟨b, off, none⟩) 16 z) (hb : Byt z 16) (h3 : z 3 = 0) (h2 : z 2 = 0) (hok : repB (z 0) (z 1) (n4 z) (n8 z) = true) :
    Calls Try.prog 17 #[.slice (some ⟨b, off, none⟩) 16 cap] w fun e w' => e = .returned (.tuple #[.agg #[.int .u8 (z 0), .int .u8 (z 1), .int .u32 (n4 z), .int .u64 (n8 z)], .int .i64 0]) ∧ Below w.heap.size w w' := by
  have hd : Cells (w.alloc (.cells #[.int .u8 0, .int .u8 0, .int .u32 0, .int .u64 0] 43)) .u8 (some ⟨b, off, none⟩) 16 z := hc.below ((Below.refl _ w).alloc (Nat.le_refl _) _)
  have hrp := rp_yes b off cap z _ hcap hd hb h3
  have hck := fun w => crep_any (z 0) (z 1) (n4 z) (n8 z) w
  rw [hok, show errI true = 0 from rfl] at hck
  change Calls _ _ _ _ (fun e w' => e = .returned (.tuple #[.agg #[.int .u8 (z 0), .int .u8 (z 1), .int .u8 (z 2), .int .u32 (n4 z), .int .u64 (n8 z)], .bool true]) ∧ _) at hrp
  clear hc hd h3 hb hok
  generalize n4 z = x4 at *
  generalize n8 z = x8 at *
  generalize z 0 = x0 at *
  generalize z 1 = x1 at *
  generalize z 2 = x2 at *
  subst h2
  go_enter Try.func17, Try.ntmps17
  go_wp2_with fail
  refine hrp.mono ?_
  rintro e w1 ⟨rfl, hb1⟩
  have hB : Below (w.heap.size + 1) (w.alloc (.cells #[.int .u8 0, .int .u8 0, .int .u32 0, .int .u64 0] 43)) w1 := hb1.mono (by simp)
  obtain ⟨c0, c1, c2, c3⟩ := agg4_cells _ _ _ _ _ _ _ hB
  have f := agg4_frozen _ _ _ _ _ _ _ hB
  have hz : w.heap.size < w1.heap.size := by have := hB.size; simp at this; omega
  have hb0 : Below w.heap.size w w1 := ((Below.refl _ w).alloc (Nat.le_refl _) _).trans (hB.mono (by omega))
  clear hB hb1
  clear hrp
  go_wp2_with fail
  refine (hck _).mono ?_
  rintro e w2 ⟨rfl, hb2⟩
  have hs2 : w1.heap.size + 1 + 1 ≤ w2.heap.size := by have := hb2.size; simp at this; omega
  have k := fun j => (hb2.cell (p := ⟨w.heap.size, j, none⟩) (by simp; omega)).trans (((Below.refl (w.heap.size + 1) w1).alloc (by omega) _).alloc (by simp; omega) _ |>.cell (p := ⟨w.heap.size, j, none⟩) (show w.heap.size < w.heap.size + 1 by omega))
  have kf := fun j => (hb2.frozen (p := ⟨w.heap.size, j, none⟩) (by simp; omega)).trans (((Below.refl (w.heap.size + 1) w1).alloc (by omega) _).alloc (by simp; omega) _ |>.frozen (p := ⟨w.heap.size, j, none⟩) (show w.heap.size < w.heap.size + 1 by omega))
  have d0 := (k 0).trans c0
  have d1 := (k 1).trans c1
  have d2 := (k 2).trans c2
  have d3 := (k 3).trans c3
  have g := fun j => (kf j).trans (f j)
  have hB2 : Below (w1.heap.size + 1 + 1) _ w2 := hb2.mono (by simp)
  have hs1 : (w1.alloc (.cells #[.int .u8 x0, .int .u8 x1, .int .u8 0, .int .u32 x4, .int .u64 x8] 65)).heap.size = w1.heap.size + 1 := by simp
  obtain ⟨r0, r1, r2, r3⟩ := agg4_cells (w1.alloc (.cells #[.int .u8 x0, .int .u8 x1, .int .u8 0, .int .u32 x4, .int .u64 x8] 65)) w2 _ _ _ _ 43 (by rw [hs1]; exact hB2)
  rw [hs1] at r0 r1 r2 r3
  clear hB2 hs1
  have hb0' : Below w.heap.size w w2 := Below.onto ((hb0.alloc hb0.size _).alloc (by have := hb0.size; simp; omega) _) hb2
  clear k kf c0 c1 c2 c3 f hb2 hck hb0
  go_wp2_with fail
  refine bodyPost_ret (v := .tuple #[.agg #[.int .u8 x0, .int .u8 x1, .int .u32 x4, .int .u64 x8], .int .i64 0]) (by simp [results, Try.results17, go_sem, d0, d1, d2, d3]) rfl ⟨rfl, ?_⟩
  repeat' with_reducible first | exact hb0' | refine Below.setCell ?_ ?_ _ | refine Below.alloc ?_ ?_ _ | refine Below.drew ?_
  all_goals (simp; try omega)

end Go.Proofs.Ytmhkkdbfejajeaa
