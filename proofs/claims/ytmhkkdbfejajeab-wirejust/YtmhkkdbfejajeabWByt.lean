/- The bytes of requests and of replies: the code's and the document's. -/
import Derived.Test.YtmhkkdbfejajeabWShape
import Derived.Test.YtmhkkdbfejajeabWChk
import Derived.Test.YtmhkkdbfejajeabWIs
import Derived.Test.YtmhkkdbfejajeabWRep
import Derived.Test.YtmhkkdbfejajeabWParR
namespace Go.Proofs.Ytmhkkdbfejajeab
open Go.RowKit

theorem own_sixteen {w : World} {base : Nat} {v : Value} {z : Nat → Int} (h : w.ownsRow base 5 1 v 16 (encB 16 z)) : ∃ b cap, v = .slice (some ⟨b, 0, none⟩) 16 cap ∧ Cells w .u8 (some ⟨b, 0, none⟩) 16 z := by
  rcases h.2 with ⟨_, e⟩ | ⟨g, cap, cur, rfl, hg, _⟩
  · exact absurd e (by omega)
  · refine ⟨g, cap, rfl, fun j hj => ⟨g, 0, rfl, ?_⟩⟩
    rw [Nat.zero_add, h.cellAt j (by omega)]
    exact encB_at 16 z j hj

set_option maxHeartbeats 1000000 in
theorem bytes_no (k a r h p : Int) (w : World) (r0 : 0 ≤ r) (hok : okB k a r h p = false) :
    Calls Try.prog 6 #[.agg #[.int .u8 k, .int .u8 a, .int .u8 r, .int .u32 h, .int .u64 p]] w fun e w' => e = .returned (.tuple #[.slice none 0 0, .int .i64 30]) ∧ Below w.heap.size w w' := by
  have hck := fun w => check_any k a r h p w r0
  rw [hok, show errI false = 30 from rfl] at hck
  clear hok
  go_enter Try.func6, Try.ntmps6
  go_wp2_with fail
  refine (hck _).mono ?_
  rintro e w1 ⟨rfl, hb1⟩
  clear hck
  go_wp2_with fail
  go_ret2
  exact ⟨rfl, ((Below.refl _ w).alloc (Nat.le_refl _) _).trans (hb1.mono (by simp))⟩
set_option maxHeartbeats 1000000 in
theorem bytes_ok (k a r h p : Int) (w : World) (r0 : 0 ≤ r) (h0 : 0 ≤ h) (h1 : h < 4294967296) (hok : okB k a r h p = true) :
    Calls Try.prog 6 #[.agg #[.int .u8 k, .int .u8 a, .int .u8 r, .int .u32 h, .int .u64 p]] w fun e w' => ∃ B, e = .returned (.tuple #[.slice (some ⟨B, 0, none⟩) 16 16, .int .i64 0]) ∧ Lay w' B 16 (layZ k a r h p) ∧ w.heap.size ≤ B ∧ Below w.heap.size w w' := by
  have hck := fun w => check_any k a r h p w r0
  rw [hok, show errI true = 0 from rfl] at hck
  clear hok
  go_enter Try.func6, Try.ntmps6
  go_wp2_with fail
  refine (hck _).mono ?_
  rintro e w1 ⟨rfl, hb1⟩
  clear hck
  have hB : Below (w.heap.size + 1) _ w1 := hb1.mono (by simp)
  obtain ⟨c0, c1, c2, c3, c4⟩ := agg5_cells _ _ _ _ _ _ _ _ hB
  have hb0 : Below w.heap.size w w1 := ((Below.refl _ w).alloc (Nat.le_refl _) _).trans (hB.mono (by omega))
  have s0 := hb0.size
  clear hB hb1
  go_wp2_with fail
  refine (lay_any _ _ _ _ _ _ h0 h1).mono ?_
  rintro e w2 ⟨B, rfl, hl, hB, hb2⟩
  have HL : Hid (Lay w2 B 16 (layZ k a r h p)) := hl
  clear hl
  go_wp2_with fail
  go_ret2
  exact ⟨B, rfl, HL.out, Nat.le_trans s0 hB, Below.onto hb0 hb2⟩
set_option maxHeartbeats 1000000 in
theorem rpb_no (k a h p : Int) (w : World) (hok : repB k a h p = false) :
    Calls Try.prog 8 #[.agg #[.int .u8 k, .int .u8 a, .int .u32 h, .int .u64 p]] w fun e w' => e = .returned (.tuple #[.slice none 0 0, .int .i64 30]) ∧ Below w.heap.size w w' := by
  have hck := fun w => crep_any k a h p w
  rw [hok, show errI false = 30 from rfl] at hck
  clear hok
  go_enter Try.func8, Try.ntmps8
  go_wp2_with fail
  refine (hck _).mono ?_
  rintro e w1 ⟨rfl, hb1⟩
  clear hck
  go_wp2_with fail
  go_ret2
  exact ⟨rfl, ((Below.refl _ w).alloc (Nat.le_refl _) _).trans (hb1.mono (by simp))⟩
set_option maxHeartbeats 1000000 in
theorem rpb_ok (k a h p : Int) (w : World) (h0 : 0 ≤ h) (h1 : h < 4294967296) (hok : repB k a h p = true) :
    Calls Try.prog 8 #[.agg #[.int .u8 k, .int .u8 a, .int .u32 h, .int .u64 p]] w fun e w' => ∃ B, e = .returned (.tuple #[.slice (some ⟨B, 0, none⟩) 16 16, .int .i64 0]) ∧ Lay w' B 16 (layZ k a 0 h p) ∧ w.heap.size ≤ B ∧ Below w.heap.size w w' := by
  have hck := fun w => crep_any k a h p w
  rw [hok, show errI true = 0 from rfl] at hck
  clear hok
  go_enter Try.func8, Try.ntmps8
  go_wp2_with fail
  refine (hck _).mono ?_
  rintro e w1 ⟨rfl, hb1⟩
  clear hck
  have hB : Below (w.heap.size + 1) _ w1 := hb1.mono (by simp)
  obtain ⟨c0, c1, c2, c3⟩ := agg4_cells _ _ _ _ _ _ _ hB
  have hb0 : Below w.heap.size w w1 := ((Below.refl _ w).alloc (Nat.le_refl _) _).trans (hB.mono (by omega))
  have s0 := hb0.size
  clear hB hb1
  go_wp2_with fail
  refine (lay_any _ _ _ _ _ _ h0 h1).mono ?_
  rintro e w2 ⟨B, rfl, hl, hB, hb2⟩
  have HL : Hid (Lay w2 B 16 (layZ k a 0 h p)) := hl
  clear hl
  go_wp2_with fail
  go_ret2
  exact ⟨B, rfl, HL.out, Nat.le_trans s0 hB, Below.onto hb0 hb2⟩
end Go.Proofs.Ytmhkkdbfejajeab
