/- The bytes of requests and of replies: the code's and the document's. -/
import Derived.Test.YtmhkkdbfejajeaaWShape
import Derived.Test.YtmhkkdbfejajeaaWChk
import Derived.Test.YtmhkkdbfejajeaaWIs
import Derived.Test.YtmhkkdbfejajeaaWRep
import Derived.Test.YtmhkkdbfejajeaaWParR
namespace Go.Proofs.Ytmhkkdbfejajeaa
open Go.RowKit

theorem own_sixteen {w : World} {base : Nat} {v : Value} {z : Nat → Int} (h : w.ownsRow base 5 1 v 16 (encB 16 z)) : ∃ b cap, v = .slice (some ⟨b, 0, none⟩) 16 cap ∧ Cells w .u8 (some ⟨b, 0, none⟩) 16 z := by
  rcases h.2 with ⟨_, e⟩ | ⟨g, cap, cur, rfl, hg, _⟩
  · exact absurd e (by omega)
  · refine ⟨g, cap, rfl, fun j hj => ⟨g, 0, rfl, ?_⟩⟩
    rw [Nat.zero_add, h.cellAt j (by omega)]
    exact encB_at 16 z j hj

set_option maxHeartbeats 1000000 in
theorem bytes_no (k a r h p : Int) (w : World) (r0 : 0 ≤ r) (hok : okB k a r h p = false) :
    Calls Try.prog 9 #[.agg #[.int .u8 k, .int .u8 a, .int .u8 r, .int .u32 h, .int .u64 p]] w fun e w' => e = .returned (.tuple #[.slice none 0 0, .int .i64 30]) ∧ Below w.heap.size w w' := by
  have hck := fun w => check_any k a r h p w r0
  rw [hok, show errI false = 30 from rfl] at hck
  clear hok
  go_enter Try.func9, Try.ntmps9
  go_wp2_with fail
  refine (hck _).mono ?_
  rintro e w1 ⟨rfl, hb1⟩
  clear hck
  go_wp2_with fail
  go_ret2
  exact ⟨rfl, ((Below.refl _ w).alloc (Nat.le_refl _) _).trans (hb1.mono (by simp))⟩
set_option maxHeartbeats 1000000 in
theorem bytes_ok (k a r h p : Int) (w : World) (r0 : 0 ≤ r) (h0 : 0 ≤ h) (h1 : h < 4294967296) (hok : okB k a r h p = true) :
    Calls Try.prog 9 #[.agg #[.int .u8 k, .int .u8 a, .int .u8 r, .int .u32 h, .int .u64 p]] w fun e w' => ∃ B, e = .returned (.tuple #[.slice (some ⟨B, 0, none⟩) 16 16, .int .i64 0]) ∧ Lay w' B 16 (layZ k a r h p) ∧ w.heap.size ≤ B ∧ Below w.heap.size w w' := by
  have hck := fun w => check_any k a r h p w r0
  rw [hok, show errI true = 0 from rfl] at hck
  clear hok
  go_enter Try.func9, Try.ntmps9
  go_wp2_with fail
  refine (hck _).mono ?_
  rintro e w1 ⟨rfl, hb1⟩
  clear hck
  have hB : Below (w.heap.size + 1) _ w1 := hb1.mono (by simp)
  obtain ⟨c0, c1, c2, c3, c4⟩ := agg5_cells _ _ _ _ _ _ _ _ hB
  have hb0 : Below w.heap.size w w1 := ((Below.refl _ w).alloc (Nat.le_refl _) _).trans (hB.mono (by omega))
  have s0 := hb0.size
  clear hB hb1
  go_wp2_with fail
  refine (lay_any _ _ _ _ _ _ h0 h1).mono ?_
  rintro e w2 ⟨B, rfl, hl, hB, hb2⟩
  have HL : Hid (Lay w2 B 16 (layZ k a r h p)) := hl
  clear hl
  go_wp2_with fail
  go_ret2
  exact ⟨B, rfl, HL.out, Nat.le_trans s0 hB, Below.onto hb0 hb2⟩
set_option maxHeartbeats 1000000 in
theorem rpb_no (k a h p : Int) (w : World) (hok : repB k a h p = false) :
    Calls Try.prog 22 #[.agg #[.int .u8 k, .int .u8 a, .int .u32 h, .int .u64 p]] w fun e w' => e = .returned (.tuple #[.slice none 0 0, .int .i64 30]) ∧ Below w.heap.size w w' := by
  have hck := fun w => crep_any k a h p w
  rw [hok, show errI false = 30 from rfl] at hck
  clear hok
  go_enter Try.func22, Try.ntmps22
  go_wp2_with fail
  refine (hck _).mono ?_
  rintro e w1 ⟨rfl, hb1⟩
  clear hck
  go_wp2_with fail
  go_ret2
  exact ⟨rfl, ((Below.refl _ w).alloc (Nat.le_refl _) _).trans (hb1.mono (by simp))⟩
set_option maxHeartbeats 1000000 in
theorem rpb_ok (k a h p : Int) (w : World) (h0 : 0 ≤ h) (h1 : h < 4294967296) (hok : repB k a h p = true) :
    Calls Try.prog 22 #[.agg #[.int .u8 k, .int .u8 a, .int .u32 h, .int .u64 p]] w fun e w' => ∃ B, e = .returned (.tuple #[.slice (some ⟨B, 0, none⟩) 16 16, .int .i64 0]) ∧ Lay w' B 16 (layZ k a 0 h p) ∧ w.heap.size ≤ B ∧ Below w.heap.size w w' := by
  have hck := fun w => crep_any k a h p w
  rw [hok, show errI true = 0 from rfl] at hck
  clear hok
  go_enter Try.func22, Try.ntmps22
  go_wp2_with fail
  refine (hck _).mono ?_
  rintro e w1 ⟨rfl, hb1⟩
  clear hck
  have hB : Below (w.heap.size + 1) _ w1 := hb1.mono (by simp)
  obtain ⟨c0, c1, c2, c3⟩ := agg4_cells _ _ _ _ _ _ _ hB
  have hb0 : Below w.heap.size w w1 := ((Below.refl _ w).alloc (Nat.le_refl _) _).trans (hB.mono (by omega))
  have s0 := hb0.size
  clear hB hb1
  go_wp2_with fail
  refine (lay_any _ _ _ _ _ _ h0 h1).mono ?_
  rintro e w2 ⟨B, rfl, hl, hB, hb2⟩
  have HL : Hid (Lay w2 B 16 (layZ k a 0 h p)) := hl
  clear hl
  go_wp2_with fail
  go_ret2
  exact ⟨B, rfl, HL.out, Nat.le_trans s0 hB, Below.onto hb0 hb2⟩
set_option maxHeartbeats 1000000 in
theorem rbytes_no (k a r h p : Int) (w : World) (hok : okB k a r h p = false) :
    Calls Try.prog 10 #[.agg #[.int .u8 k, .int .u8 a, .int .u8 r, .int .u32 h, .int .u64 p]] w fun e w' => e = .returned (.tuple #[.slice none 0 0, .int .i64 30]) ∧ Below w.heap.size w w' := by
  have hck := fun w => is_any k a r h p w
  rw [hok] at hck
  clear hok
  go_enter Try.func10, Try.ntmps10
  go_wp2_with fail
  refine (hck _).mono ?_
  rintro e w1 ⟨rfl, hb1⟩
  clear hck
  go_wp2_with fail
  go_ret2
  exact ⟨rfl, ((Below.refl _ w).alloc (Nat.le_refl _) _).trans (hb1.mono (by simp))⟩
set_option maxHeartbeats 1000000 in
theorem rbytes_ok (k a r h p : Int) (w : World) (h0 : 0 ≤ h) (h1 : h < 4294967296) (p0 : 0 ≤ p) (p1 : p < 18446744073709551616) (hok : okB k a r h p = true) :
    Calls Try.prog 10 #[.agg #[.int .u8 k, .int .u8 a, .int .u8 r, .int .u32 h, .int .u64 p]] w fun e w' => ∃ b cap, e = .returned (.tuple #[.slice (some ⟨b, 0, none⟩) 16 cap, .int .i64 0]) ∧ Cells w' .u8 (some ⟨b, 0, none⟩) 16 (layZ k a r h p) ∧ Below w.heap.size w w' := by
  have hck := fun w => is_any k a r h p w
  rw [hok] at hck
  clear hok
  go_enter Try.func10, Try.ntmps10
  go_wp2_with fail
  refine (hck _).mono ?_
  rintro e w1 ⟨rfl, hb1⟩
  clear hck
  have hB : Below (w.heap.size + 1) _ w1 := hb1.mono (by simp)
  obtain ⟨c0, c1, c2, c3, c4⟩ := agg5_cells _ _ _ _ _ _ _ _ hB
  have hb0 : Below w.heap.size w w1 := ((Below.refl _ w).alloc (Nat.le_refl _) _).trans (hB.mono (by omega))
  clear hB hb1
  go_wp2_with fail
  refine (shape_own k a r h p _ h0 h1 p0 p1).mono ?_
  rintro e w2 ⟨v, rfl, hown, hb2⟩
  obtain ⟨b, cap, rfl, hc⟩ := own_sixteen hown
  have HC : Hid (Cells w2 .u8 (some ⟨b, 0, none⟩) 16 (layZ k a r h p)) := hc
  clear hc hown
  go_wp2_with fail
  go_ret2
  exact ⟨b, cap, rfl, HC.out, Below.onto hb0 hb2⟩
set_option maxHeartbeats 1000000 in
theorem rrpb_no (k a h p : Int) (w : World) (hok : repB k a h p = false) :
    Calls Try.prog 23 #[.agg #[.int .u8 k, .int .u8 a, .int .u32 h, .int .u64 p]] w fun e w' => e = .returned (.tuple #[.slice none 0 0, .int .i64 30]) ∧ Below w.heap.size w w' := by
  have hck := fun w => isrep_any k a h p w
  rw [hok] at hck
  clear hok
  go_enter Try.func23, Try.ntmps23
  go_wp2_with fail
  refine (hck _).mono ?_
  rintro e w1 ⟨rfl, hb1⟩
  clear hck
  go_wp2_with fail
  go_ret2
  exact ⟨rfl, ((Below.refl _ w).alloc (Nat.le_refl _) _).trans (hb1.mono (by simp))⟩
set_option maxHeartbeats 1000000 in
theorem rrpb_ok (k a h p : Int) (w : World) (h0 : 0 ≤ h) (h1 : h < 4294967296) (p0 : 0 ≤ p) (p1 : p < 18446744073709551616) (hok : repB k a h p = true) :
    Calls Try.prog 23 #[.agg #[.int .u8 k, .int .u8 a, .int .u32 h, .int .u64 p]] w fun e w' => ∃ b cap, e = .returned (.tuple #[.slice (some ⟨b, 0, none⟩) 16 cap, .int .i64 0]) ∧ Cells w' .u8 (some ⟨b, 0, none⟩) 16 (layZ k a 0 h p) ∧ Below w.heap.size w w' := by
  have hck := fun w => isrep_any k a h p w
  rw [hok] at hck
  clear hok
  go_enter Try.func23, Try.ntmps23
  go_wp2_with fail
  refine (hck _).mono ?_
  rintro e w1 ⟨rfl, hb1⟩
  clear hck
  have hB : Below (w.heap.size + 1) _ w1 := hb1.mono (by simp)
  obtain ⟨c0, c1, c2, c3⟩ := agg4_cells _ _ _ _ _ _ _ hB
  have hb0 : Below w.heap.size w w1 := ((Below.refl _ w).alloc (Nat.le_refl _) _).trans (hB.mono (by omega))
  clear hB hb1
  go_wp2_with fail
  refine (shape_own k a 0 h p _ h0 h1 p0 p1).mono ?_
  rintro e w2 ⟨v, rfl, hown, hb2⟩
  obtain ⟨b, cap, rfl, hc⟩ := own_sixteen hown
  have HC : Hid (Cells w2 .u8 (some ⟨b, 0, none⟩) 16 (layZ k a 0 h p)) := hc
  clear hc hown
  go_wp2_with fail
  go_ret2
  exact ⟨b, cap, rfl, HC.out, Below.onto hb0 hb2⟩

end Go.Proofs.Ytmhkkdbfejajeaa
