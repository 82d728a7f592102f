/- wire.Parse, wire.ParseReply: what any bytes are. -/
import Derived.Test.YtmhkkdbfejajeaaWPiece
import Derived.Test.YtmhkkdbfejajeaaWChk
import Derived.Test.YtmhkkdbfejajeaaWRep
namespace Go.Proofs.Ytmhkkdbfejajeaa
open Go.RowKit

def n4 (z : Nat → Int) : Int := numI (fun j => z (4 + j)) 4
def n8 (z : Nat → Int) : Int := numI (fun j => z (8 + j)) 8
/-- are they a request's bytes? -/
def reqB (n : Nat) (z : Nat → Int) : Bool := decide (n = 16) && (decide (z 3 = 0) && okB (z 0) (z 1) (z 2) (n4 z) (n8 z))
/-- are they a reply's bytes? -/
def rpyB (n : Nat) (z : Nat → Int) : Bool := decide (n = 16) && (decide (z 3 = 0) && (decide (z 2 = 0) && repB (z 0) (z 1) (n4 z) (n8 z)))
theorem agg5_frozen (w W : World) (x0 x1 x2 x3 x4 : Value) (t : TypeId) (hb : Below (w.heap.size + 1) (w.alloc (.cells #[x0, x1, x2, x3, x4] t)) W) (j : Nat) : W.frozen? ⟨w.heap.size, j, none⟩ = false := by
  have h : (w.alloc (.cells #[x0, x1, x2, x3, x4] t)).heap[w.heap.size]? = some (.cells #[x0, x1, x2, x3, x4] t (0, 0)) := heapNew w _
  exact (hb.frozen (p := ⟨w.heap.size, j, none⟩) (show w.heap.size < w.heap.size + 1 by omega)).trans (frozen_of_row _ _ j _ t h)

set_option maxHeartbeats 1000000 in
theorem parse_short (a : Option Addr) (n cap : Nat) (w : World) (hn : n ≠ 16) :
    Calls Try.prog 15 #[.slice a n cap] w fun e w' => e = .returned (.tuple #[.agg #[.int .u8 0, .int .u8 0, .int .u8 0, .int .u32 0, .int .u64 0], .int .i64 30]) ∧ Below w.heap.size w w' := by
  go_enter Try.func15, Try.ntmps15
  go_wp2_with fail
  refine (rp_short a n cap _ hn).mono ?_
  rintro e w1 ⟨rfl, hb1⟩
  have hB : Below (w.heap.size + 1) (w.alloc (.cells #[.int .u8 0, .int .u8 0, .int .u8 0, .int .u32 0, .int .u64 0] 26)) w1 := hb1.mono (by simp)
  obtain ⟨c0, c1, c2, c3, c4⟩ := agg5_cells _ _ _ _ _ _ _ _ hB
  have f := agg5_frozen _ _ _ _ _ _ _ _ hB
  have hz : w.heap.size < w1.heap.size := by have := hB.size; simp at this; omega
  have hb0 : Below w.heap.size w w1 := ((Below.refl _ w).alloc (Nat.le_refl _) _).trans (hB.mono (by omega))
  clear hB hb1
  go_wp2_with fail
  refine bodyPost_ret (v := .tuple #[.agg #[.int .u8 0, .int .u8 0, .int .u8 0, .int .u32 0, .int .u64 0], .int .i64 30]) (by simp [results, Try.results15, go_sem, c0, c1, c2, c3, c4, hz]) rfl ⟨rfl, ?_⟩
  repeat' with_reducible first | exact hb0 | refine Below.setCell ?_ ?_ _ | refine Below.alloc ?_ ?_ _ | refine Below.drew ?_
  all_goals (simp; try omega)

set_option maxHeartbeats 1000000 in
theorem parse_three (b off cap : Nat) (z : Nat → Int) (w : World) (hc : Cells w .u8 (some ⟨b, off, none⟩) 16 z) (h3 : z 3 ≠ 0) :
    Calls Try.prog 15 #[.slice (some ⟨b, off, none⟩) 16 cap] w fun e w' => e = .returned (.tuple #[.agg #[.int .u8 0, .int .u8 0, .int .u8 0, .int .u32 0, .int .u64 0], .int .i64 30]) ∧ Below w.heap.size w w' := by
  have hd : Cells (w.alloc (.cells #[.int .u8 0, .int .u8 0, .int .u8 0, .int .u32 0, .int .u64 0] 26)) .u8 (some ⟨b, off, none⟩) 16 z := hc.below ((Below.refl _ w).alloc (Nat.le_refl _) _)
  have HD : Hid (Cells _ .u8 (some ⟨b, off, none⟩) 16 z) := hd
  clear hc hd
  go_enter Try.func15, Try.ntmps15
  go_wp2_with fail
  refine (rp_no b off cap z _ HD.out h3).mono ?_
  rintro e w1 ⟨rfl, hb1⟩
  have hB : Below (w.heap.size + 1) (w.alloc (.cells #[.int .u8 0, .int .u8 0, .int .u8 0, .int .u32 0, .int .u64 0] 26)) w1 := hb1.mono (by simp)
  obtain ⟨c0, c1, c2, c3, c4⟩ := agg5_cells _ _ _ _ _ _ _ _ hB
  have f := agg5_frozen _ _ _ _ _ _ _ _ hB
  have hz : w.heap.size < w1.heap.size := by have := hB.size; simp at this; omega
  have hb0 : Below w.heap.size w w1 := ((Below.refl _ w).alloc (Nat.le_refl _) _).trans (hB.mono (by omega))
  clear hB hb1
  clear HD
  go_wp2_with fail
  refine bodyPost_ret (v := .tuple #[.agg #[.int .u8 0, .int .u8 0, .int .u8 0, .int .u32 0, .int .u64 0], .int .i64 30]) (by simp [results, Try.results15, go_sem, c0, c1, c2, c3, c4, hz]) rfl ⟨rfl, ?_⟩
  repeat' with_reducible first | exact hb0 | refine Below.setCell ?_ ?_ _ | refine Below.alloc ?_ ?_ _ | refine Below.drew ?_
  all_goals (simp; try omega)

set_option maxHeartbeats 1000000 in
theorem parse_bad (b off cap : Nat) (z : Nat → Int) (w : World) (hcap : 16 ≤ cap) (hc : Cells w .u8 (some ⟨b, off, none⟩) 16 z) (hb : Byt z 16) (h3 : z 3 = 0) (hok : okB (z 0) (z 1) (z 2) (n4 z) (n8 z) = false) :
    Calls Try.prog 15 #[.slice (some ⟨b, off, none⟩) 16 cap] w fun e w' => e = .returned (.tuple #[.agg #[.int .u8 0, .int .u8 0, .int .u8 0, .int .u32 0, .int .u64 0], .int .i64 30]) ∧ Below w.heap.size w w' := by
  have hd : Cells (w.alloc (.cells #[.int .u8 0, .int .u8 0, .int .u8 0, .int .u32 0, .int .u64 0] 26)) .u8 (some ⟨b, off, none⟩) 16 z := hc.below ((Below.refl _ w).alloc (Nat.le_refl _) _)
  have hrp := rp_yes b off cap z _ hcap hd hb h3
  have hck := fun w => check_any (z 0) (z 1) (z 2) (n4 z) (n8 z) w (hb 2 (by omega)).1
  rw [hok, show errI false = 30 from rfl] at hck
  change Calls _ _ _ _ (fun e w' => e = .returned (.tuple #[.agg #[.int .u8 (z 0), .int .u8 (z 1), .int .u8 (z 2), .int .u32 (n4 z), .int .u64 (n8 z)], .bool true]) ∧ _) at hrp
  clear hc hd hok h3 hb
  generalize n4 z = x4 at *
  generalize n8 z = x8 at *
  generalize z 0 = x0 at *
  generalize z 1 = x1 at *
  generalize z 2 = x2 at *
  go_enter Try.func15, Try.ntmps15
  go_wp2_with fail
  refine hrp.mono ?_
  rintro e w1 ⟨rfl, hb1⟩
  have hB : Below (w.heap.size + 1) (w.alloc (.cells #[.int .u8 0, .int .u8 0, .int .u8 0, .int .u32 0, .int .u64 0] 26)) w1 := hb1.mono (by simp)
  obtain ⟨c0, c1, c2, c3, c4⟩ := agg5_cells _ _ _ _ _ _ _ _ hB
  have f := agg5_frozen _ _ _ _ _ _ _ _ hB
  have hz : w.heap.size < w1.heap.size := by have := hB.size; simp at this; omega
  have hb0 : Below w.heap.size w w1 := ((Below.refl _ w).alloc (Nat.le_refl _) _).trans (hB.mono (by omega))
  clear hB hb1
  clear hrp
  go_wp2_with fail
  refine (hck _).mono ?_
  rintro e w2 ⟨rfl, hb2⟩
  have hs2 : w1.heap.size + 1 + 1 ≤ w2.heap.size := by have := hb2.size; simp at this; omega
  have k := fun j => (hb2.cell (p := ⟨w.heap.size, j, none⟩) (by simp; omega)).trans (((Below.refl (w.heap.size + 1) w1).alloc (by omega) _).alloc (by simp; omega) _ |>.cell (p := ⟨w.heap.size, j, none⟩) (show w.heap.size < w.heap.size + 1 by omega))
  have kf := fun j => (hb2.frozen (p := ⟨w.heap.size, j, none⟩) (by simp; omega)).trans (((Below.refl (w.heap.size + 1) w1).alloc (by omega) _).alloc (by simp; omega) _ |>.frozen (p := ⟨w.heap.size, j, none⟩) (show w.heap.size < w.heap.size + 1 by omega))
  have d0 := (k 0).trans c0
  have d1 := (k 1).trans c1
  have d2 := (k 2).trans c2
  have d3 := (k 3).trans c3
  have d4 := (k 4).trans c4
  have g := fun j => (kf j).trans (f j)
  have hb0' : Below w.heap.size w w2 := Below.onto ((hb0.alloc hb0.size _).alloc (by have := hb0.size; simp; omega) _) hb2
  clear k kf c0 c1 c2 c3 c4 f hb2 hck hb0
  go_wp2_with fail
  refine bodyPost_ret (v := .tuple #[.agg #[.int .u8 0, .int .u8 0, .int .u8 0, .int .u32 0, .int .u64 0], .int .i64 30]) (by simp [results, Try.results15, go_sem, d0, d1, d2, d3, d4]) rfl ⟨rfl, ?_⟩
  repeat' with_reducible first | exact hb0' | refine Below.setCell ?_ ?_ _ | refine Below.alloc ?_ ?_ _ | refine Below.drew ?_
  all_goals (simp; try omega)
set_option maxHeartbeats 1000000 in
theorem parse_ok (b off cap : Nat) (z : Nat → Int) (w : World) (hcap : 16 ≤ cap) (hc : Cells w .u8 (some ⟨b, off, none⟩) 16 z) (hb : Byt z 16) (h3 : z 3 = 0) (hok : okB (z 0) (z 1) (z 2) (n4 z) (n8 z) = true) :
    Calls Try.prog 15 #[.slice (some ⟨b, off, none⟩) 16 cap] w fun e w' => e = .returned (.tuple #[.agg #[.int .u8 (z 0), .int .u8 (z 1), .int .u8 (z 2), .int .u32 (n4 z), .int .u64 (n8 z)], .int .i64 0]) ∧ Below w.heap.size w w' := by
  have hd : Cells (w.alloc (.cells #[.int .u8 0, .int .u8 0, .int .u8 0, .int .u32 0, .int .u64 0] 26)) .u8 (some ⟨b, off, none⟩) 16 z := hc.below ((Below.refl _ w).alloc (Nat.le_refl _) _)
  have hrp := rp_yes b off cap z _ hcap hd hb h3
  have hck := fun w => check_any (z 0) (z 1) (z 2) (n4 z) (n8 z) w (hb 2 (by omega)).1
  rw [hok, show errI true = 0 from rfl] at hck
  change Calls _ _ _ _ (fun e w' => e = .returned (.tuple #[.agg #[.int .u8 (z 0), .int .u8 (z 1), .int .u8 (z 2), .int .u32 (n4 z), .int .u64 (n8 z)], .bool true]) ∧ _) at hrp
  clear hc hd hok h3 hb
  generalize n4 z = x4 at *
  generalize n8 z = x8 at *
  generalize z 0 = x0 at *
  generalize z 1 = x1 at *
  generalize z 2 = x2 at *
  go_enter Try.func15, Try.ntmps15
  go_wp2_with fail
  refine hrp.mono ?_
  rintro e w1 ⟨rfl, hb1⟩
  have hB : Below (w.heap.size + 1) (w.alloc (.cells #[.int .u8 0, .int .u8 0, .int .u8 0, .int .u32 0, .int .u64 0] 26)) w1 := hb1.mono (by simp)
  obtain ⟨c0, c1, c2, c3, c4⟩ := agg5_cells _ _ _ _ _ _ _ _ hB
  have f := agg5_frozen _ _ _ _ _ _ _ _ hB
  have hz : w.heap.size < w1.heap.size := by have := hB.size; simp at this; omega
  have hb0 : Below w.heap.size w w1 := ((Below.refl _ w).alloc (Nat.le_refl _) _).trans (hB.mono (by omega))
  clear hB hb1
  clear hrp
  go_wp2_with fail
  refine (hck _).mono ?_
  rintro e w2 ⟨rfl, hb2⟩
  have hs2 : w1.heap.size + 1 + 1 ≤ w2.heap.size := by have := hb2.size; simp at this; omega
  have k := fun j => (hb2.cell (p := ⟨w.heap.size, j, none⟩) (by simp; omega)).trans (((Below.refl (w.heap.size + 1) w1).alloc (by omega) _).alloc (by simp; omega) _ |>.cell (p := ⟨w.heap.size, j, none⟩) (show w.heap.size < w.heap.size + 1 by omega))
  have kf := fun j => (hb2.frozen (p := ⟨w.heap.size, j, none⟩) (by simp; omega)).trans (((Below.refl (w.heap.size + 1) w1).alloc (by omega) _).alloc (by simp; omega) _ |>.frozen (p := ⟨w.heap.size, j, none⟩) (show w.heap.size < w.heap.size + 1 by omega))
  have d0 := (k 0).trans c0
  have d1 := (k 1).trans c1
  have d2 := (k 2).trans c2
  have d3 := (k 3).trans c3
  have d4 := (k 4).trans c4
  have g := fun j => (kf j).trans (f j)
  have hB2 : Below (w1.heap.size + 1 + 1) _ w2 := hb2.mono (by simp)
  have hs1 : (w1.alloc (.cells #[.int .u8 x0, .int .u8 x1, .int .u8 x2, .int .u32 x4, .int .u64 x8] 65)).heap.size = w1.heap.size + 1 := by simp
  obtain ⟨r0, r1, r2, r3, r4⟩ := agg5_cells (w1.alloc (.cells #[.int .u8 x0, .int .u8 x1, .int .u8 x2, .int .u32 x4, .int .u64 x8] 65)) w2 _ _ _ _ _ 26 (by rw [hs1]; exact hB2)
  rw [hs1] at r0 r1 r2 r3 r4
  clear hB2 hs1
  have hb0' : Below w.heap.size w w2 := Below.onto ((hb0.alloc hb0.size _).alloc (by have := hb0.size; simp; omega) _) hb2
  clear k kf c0 c1 c2 c3 c4 f hb2 hck hb0
  go_wp2_with fail
  refine bodyPost_ret (v := .tuple #[.agg #[.int .u8 x0, .int .u8 x1, .int .u8 x2, .int .u32 x4, .int .u64 x8], .int .i64 0]) (by simp [results, Try.results15, go_sem, d0, d1, d2, d3, d4]) rfl ⟨rfl, ?_⟩
  repeat' with_reducible first | exact hb0' | refine Below.setCell ?_ ?_ _ | refine Below.alloc ?_ ?_ _ | refine Below.drew ?_
  all_goals (simp; try omega)

end Go.Proofs.Ytmhkkdbfejajeaa
