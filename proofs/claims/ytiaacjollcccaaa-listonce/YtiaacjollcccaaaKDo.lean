/- An act on both: the answers are alike, and so are the rows. -/
import Derived.Test.YtiaacjollcccaaaKBoth
import Derived.Test.YtiaacjollcccaaaKRow
import Derived.Deep.RegionHeld3
namespace Go.Proofs.Ytiaacjollcccaaa
open Go.RowKit

/-- what may change -/
def Pl.or (o : Pl) (b : Nat) : Nat → Prop := fun g => o.has g ∨ g = b

set_option maxRecDepth 100000 in
set_option maxHeartbeats 4000000 in
theorem do_push (o : Pl) (p b B n m : Nat) (R : Nat → List Nat) (i x : Int) (w : World) (h : Both w o p b B n m R) :
    Calls Try.prog 11 #[o.ptr, .pointer (some ⟨p, 0, none⟩), .agg #[.int .i64 1, .int .i64 i, .int .i64 x]] w fun e w' => e = .returned (.bool true) ∧ (∃ R', Both w' o p b B n m R') ∧ But (o.or b) w w' := by
  have x0 : (w.alloc (.cells #[.int .i64 1, .int .i64 i, .int .i64 x] 33)).cell? ⟨w.heap.size, 1, none⟩ = some (.int .i64 i) := by rw [cell_of_row _ _ 1 _ _ (0, 0) (World.alloc_heap_new w _)]; rfl
  have x1 : (w.alloc (.cells #[.int .i64 1, .int .i64 i, .int .i64 x] 33)).cell? ⟨w.heap.size, 2, none⟩ = some (.int .i64 x) := by rw [cell_of_row _ _ 2 _ _ (0, 0) (World.alloc_heap_new w _)]; rfl
  have hb1 : Below w.heap.size w (w.alloc (.cells #[.int .i64 1, .int .i64 i, .int .i64 x] 33)) := (Below.refl _ w).alloc (Nat.le_refl _) _
  have no1 : ¬ o.has w.heap.size := fun ho => by have := h.kv.lt _ ho; omega
  have no2 : ¬ w.heap.size = b := fun e => by have := h.rx.blt.2; omega
  have HH : Hid (Both w o p b B n m R) := h
  clear h
  go_enter Try.func11, Try.ntmps11
  go_wp2_with fail
  generalize w.alloc (.cells #[.int .i64 1, .int .i64 i, .int .i64 x] 33) = w1 at *
  have HD : Hid (Both w1.drew o p b B n m R) := HH.out.below hb1.drew
  have c1 : w1.drew.cell? ⟨w.heap.size, 1, none⟩ = some (.int .i64 i) := x0
  have c2 : w1.drew.cell? ⟨w.heap.size, 2, none⟩ = some (.int .i64 x) := x1
  have HC := push_k o n m R i x _ HD.out.kv
  go_region_held3 (fun W => W.cell? ⟨w.heap.size, 1, none⟩ = some (.int .i64 i) ∧ W.cell? ⟨w.heap.size, 2, none⟩ = some (.int .i64 x)) (first | assumption | exact ⟨c1, c2⟩ | exact ⟨d1, d2⟩ | exact ⟨f1, f2⟩) (first
    | (go_at_call 22; (with_reducible refine HC.mono ?_); rintro e w3 ⟨rfl, hk3, hb3⟩; have d1 := hb3.cell c1 no1; have d2 := hb3.cell c2 no1; have hr3 := HD.out.mid hb3; have hcall := rpush_k p b B n m R false i x w3 hr3 HD.out.kv.okr)
    | (go_at_call 31; (with_reducible refine hcall.mono ?_); rintro e w4 ⟨rfl, hr4, hb4⟩; have f1 := hb4.cell d1 no2; have f2 := hb4.cell d2 no2))
  have B4 : But (o.or b) w w4 := ((But.of hb1 : But (o.or b) w _).drew.trans (hb3.mono fun g hg => .inl hg)).trans (hb4.mono fun g hg => .inr hg)
  have HF : Hid (∃ R', Both w4 o p b B n m R') := ⟨_, HD.out.acts hk3 hr4 hb4⟩
  clear hk3 hr4 hb3 hb4 hcall d1 d2 f1 f2 c1 c2 x0 x1 HC hr3
  go_wp2_with fail
  go_ret
  exact ⟨ret_bool (by simp), HF.out, B4⟩

set_option maxRecDepth 100000 in
set_option maxHeartbeats 4000000 in
theorem do_front (o : Pl) (p b B n m : Nat) (R : Nat → List Nat) (i x : Int) (w : World) (h : Both w o p b B n m R) :
    Calls Try.prog 11 #[o.ptr, .pointer (some ⟨p, 0, none⟩), .agg #[.int .i64 2, .int .i64 i, .int .i64 x]] w fun e w' => e = .returned (.bool true) ∧ (∃ R', Both w' o p b B n m R') ∧ But (o.or b) w w' := by
  have x0 : (w.alloc (.cells #[.int .i64 2, .int .i64 i, .int .i64 x] 33)).cell? ⟨w.heap.size, 1, none⟩ = some (.int .i64 i) := by rw [cell_of_row _ _ 1 _ _ (0, 0) (World.alloc_heap_new w _)]; rfl
  have x1 : (w.alloc (.cells #[.int .i64 2, .int .i64 i, .int .i64 x] 33)).cell? ⟨w.heap.size, 2, none⟩ = some (.int .i64 x) := by rw [cell_of_row _ _ 2 _ _ (0, 0) (World.alloc_heap_new w _)]; rfl
  have hb1 : Below w.heap.size w (w.alloc (.cells #[.int .i64 2, .int .i64 i, .int .i64 x] 33)) := (Below.refl _ w).alloc (Nat.le_refl _) _
  have no1 : ¬ o.has w.heap.size := fun ho => by have := h.kv.lt _ ho; omega
  have no2 : ¬ w.heap.size = b := fun e => by have := h.rx.blt.2; omega
  have HH : Hid (Both w o p b B n m R) := h
  clear h
  go_enter Try.func11, Try.ntmps11
  go_wp2_with fail
  generalize w.alloc (.cells #[.int .i64 2, .int .i64 i, .int .i64 x] 33) = w1 at *
  have HD : Hid (Both w1.drew o p b B n m R) := HH.out.below hb1.drew
  have c1 : w1.drew.cell? ⟨w.heap.size, 1, none⟩ = some (.int .i64 i) := x0
  have c2 : w1.drew.cell? ⟨w.heap.size, 2, none⟩ = some (.int .i64 x) := x1
  have HC := pushFront_k o n m R i x _ HD.out.kv
  go_region_held3 (fun W => W.cell? ⟨w.heap.size, 1, none⟩ = some (.int .i64 i) ∧ W.cell? ⟨w.heap.size, 2, none⟩ = some (.int .i64 x)) (first | assumption | exact ⟨c1, c2⟩ | exact ⟨d1, d2⟩ | exact ⟨f1, f2⟩) (first
    | (go_at_call 23; (with_reducible refine HC.mono ?_); rintro e w3 ⟨rfl, hk3, hb3⟩; have d1 := hb3.cell c1 no1; have d2 := hb3.cell c2 no1; have hr3 := HD.out.mid hb3; have hcall := rpush_k p b B n m R true i x w3 hr3 HD.out.kv.okr)
    | (go_at_call 31; (with_reducible refine hcall.mono ?_); rintro e w4 ⟨rfl, hr4, hb4⟩; have f1 := hb4.cell d1 no2; have f2 := hb4.cell d2 no2))
  have B4 : But (o.or b) w w4 := ((But.of hb1 : But (o.or b) w _).drew.trans (hb3.mono fun g hg => .inl hg)).trans (hb4.mono fun g hg => .inr hg)
  have HF : Hid (∃ R', Both w4 o p b B n m R') := ⟨_, HD.out.acts hk3 hr4 hb4⟩
  clear hk3 hr4 hb3 hb4 hcall d1 d2 f1 f2 c1 c2 x0 x1 HC hr3
  go_wp2_with fail
  go_ret
  exact ⟨ret_bool (by simp), HF.out, B4⟩

set_option maxRecDepth 100000 in
set_option maxHeartbeats 4000000 in
theorem do_drop (o : Pl) (p b B n m : Nat) (R : Nat → List Nat) (i x : Int) (w : World) (h : Both w o p b B n m R) :
    Calls Try.prog 11 #[o.ptr, .pointer (some ⟨p, 0, none⟩), .agg #[.int .i64 4, .int .i64 i, .int .i64 x]] w fun e w' => e = .returned (.bool true) ∧ (∃ R', Both w' o p b B n m R') ∧ But (o.or b) w w' := by
  have x0 : (w.alloc (.cells #[.int .i64 4, .int .i64 i, .int .i64 x] 33)).cell? ⟨w.heap.size, 1, none⟩ = some (.int .i64 i) := by rw [cell_of_row _ _ 1 _ _ (0, 0) (World.alloc_heap_new w _)]; rfl
  have x1 : (w.alloc (.cells #[.int .i64 4, .int .i64 i, .int .i64 x] 33)).cell? ⟨w.heap.size, 2, none⟩ = some (.int .i64 x) := by rw [cell_of_row _ _ 2 _ _ (0, 0) (World.alloc_heap_new w _)]; rfl
  have hb1 : Below w.heap.size w (w.alloc (.cells #[.int .i64 4, .int .i64 i, .int .i64 x] 33)) := (Below.refl _ w).alloc (Nat.le_refl _) _
  have no1 : ¬ o.has w.heap.size := fun ho => by have := h.kv.lt _ ho; omega
  have no2 : ¬ w.heap.size = b := fun e => by have := h.rx.blt.2; omega
  have HH : Hid (Both w o p b B n m R) := h
  clear h
  go_enter Try.func11, Try.ntmps11
  go_wp2_with fail
  generalize w.alloc (.cells #[.int .i64 4, .int .i64 i, .int .i64 x] 33) = w1 at *
  have HD : Hid (Both w1.drew o p b B n m R) := HH.out.below hb1.drew
  have c1 : w1.drew.cell? ⟨w.heap.size, 1, none⟩ = some (.int .i64 i) := x0
  have c2 : w1.drew.cell? ⟨w.heap.size, 2, none⟩ = some (.int .i64 x) := x1
  have HC := drop_k o n m R x _ HD.out.kv
  go_region_held3 (fun W => W.cell? ⟨w.heap.size, 1, none⟩ = some (.int .i64 i) ∧ W.cell? ⟨w.heap.size, 2, none⟩ = some (.int .i64 x)) (first | assumption | exact ⟨c1, c2⟩ | exact ⟨d1, d2⟩ | exact ⟨f1, f2⟩) (first
    | (go_at_call 16; (with_reducible refine HC.mono ?_); rintro e w3 ⟨rfl, hk3, hb3⟩; have d1 := hb3.cell c1 no1; have d2 := hb3.cell c2 no1; have hr3 := HD.out.mid hb3; have hcall := rdrop_k p b B n m R x w3 hr3)
    | (go_at_call 33; (with_reducible refine hcall.mono ?_); rintro e w4 ⟨rfl, hr4, hb4⟩; have f1 := hb4.cell d1 no2; have f2 := hb4.cell d2 no2))
  have B4 : But (o.or b) w w4 := ((But.of hb1 : But (o.or b) w _).drew.trans (hb3.mono fun g hg => .inl hg)).trans (hb4.mono fun g hg => .inr hg)
  have HF : Hid (∃ R', Both w4 o p b B n m R') := ⟨_, HD.out.acts hk3 hr4 hb4⟩
  clear hk3 hr4 hb3 hb4 hcall d1 d2 f1 f2 c1 c2 x0 x1 HC hr3
  go_wp2_with fail
  go_ret
  exact ⟨ret_bool (by simp), HF.out, B4⟩

set_option maxRecDepth 100000 in
set_option maxHeartbeats 4000000 in
theorem do_move (o : Pl) (p b B n m : Nat) (R : Nat → List Nat) (i x : Int) (w : World) (h : Both w o p b B n m R) :
    Calls Try.prog 11 #[o.ptr, .pointer (some ⟨p, 0, none⟩), .agg #[.int .i64 5, .int .i64 i, .int .i64 x]] w fun e w' => e = .returned (.bool true) ∧ (∃ R', Both w' o p b B n m R') ∧ But (o.or b) w w' := by
  have x0 : (w.alloc (.cells #[.int .i64 5, .int .i64 i, .int .i64 x] 33)).cell? ⟨w.heap.size, 1, none⟩ = some (.int .i64 i) := by rw [cell_of_row _ _ 1 _ _ (0, 0) (World.alloc_heap_new w _)]; rfl
  have x1 : (w.alloc (.cells #[.int .i64 5, .int .i64 i, .int .i64 x] 33)).cell? ⟨w.heap.size, 2, none⟩ = some (.int .i64 x) := by rw [cell_of_row _ _ 2 _ _ (0, 0) (World.alloc_heap_new w _)]; rfl
  have hb1 : Below w.heap.size w (w.alloc (.cells #[.int .i64 5, .int .i64 i, .int .i64 x] 33)) := (Below.refl _ w).alloc (Nat.le_refl _) _
  have no1 : ¬ o.has w.heap.size := fun ho => by have := h.kv.lt _ ho; omega
  have no2 : ¬ w.heap.size = b := fun e => by have := h.rx.blt.2; omega
  have HH : Hid (Both w o p b B n m R) := h
  clear h
  go_enter Try.func11, Try.ntmps11
  go_wp2_with fail
  generalize w.alloc (.cells #[.int .i64 5, .int .i64 i, .int .i64 x] 33) = w1 at *
  have HD : Hid (Both w1.drew o p b B n m R) := HH.out.below hb1.drew
  have c1 : w1.drew.cell? ⟨w.heap.size, 1, none⟩ = some (.int .i64 i) := x0
  have c2 : w1.drew.cell? ⟨w.heap.size, 2, none⟩ = some (.int .i64 x) := x1
  have HC := move_k o n m R i x _ HD.out.kv
  go_region_held3 (fun W => W.cell? ⟨w.heap.size, 1, none⟩ = some (.int .i64 i) ∧ W.cell? ⟨w.heap.size, 2, none⟩ = some (.int .i64 x)) (first | assumption | exact ⟨c1, c2⟩ | exact ⟨d1, d2⟩ | exact ⟨f1, f2⟩) (first
    | (go_at_call 24; (with_reducible refine HC.mono ?_); rintro e w3 ⟨rfl, hk3, hb3⟩; have d1 := hb3.cell c1 no1; have d2 := hb3.cell c2 no1; have hr3 := HD.out.mid hb3; have hcall := rmove_k p b B n m R i x w3 hr3 HD.out.kv.okr)
    | (go_at_call 34; (with_reducible refine hcall.mono ?_); rintro e w4 ⟨rfl, hr4, hb4⟩; have f1 := hb4.cell d1 no2; have f2 := hb4.cell d2 no2))
  have B4 : But (o.or b) w w4 := ((But.of hb1 : But (o.or b) w _).drew.trans (hb3.mono fun g hg => .inl hg)).trans (hb4.mono fun g hg => .inr hg)
  have HF : Hid (∃ R', Both w4 o p b B n m R') := ⟨_, HD.out.acts hk3 hr4 hb4⟩
  clear hk3 hr4 hb3 hb4 hcall d1 d2 f1 f2 c1 c2 x0 x1 HC hr3
  go_wp2_with fail
  go_ret
  exact ⟨ret_bool (by simp), HF.out, B4⟩

set_option maxRecDepth 100000 in
set_option maxHeartbeats 4000000 in
theorem do_take (o : Pl) (p b B n m : Nat) (R : Nat → List Nat) (i x : Int) (w : World) (h : Both w o p b B n m R) :
    Calls Try.prog 11 #[o.ptr, .pointer (some ⟨p, 0, none⟩), .agg #[.int .i64 6, .int .i64 i, .int .i64 x]] w fun e w' => e = .returned (.bool true) ∧ (∃ R', Both w' o p b B n m R') ∧ But (o.or b) w w' := by
  have x0 : (w.alloc (.cells #[.int .i64 6, .int .i64 i, .int .i64 x] 33)).cell? ⟨w.heap.size, 1, none⟩ = some (.int .i64 i) := by rw [cell_of_row _ _ 1 _ _ (0, 0) (World.alloc_heap_new w _)]; rfl
  have x1 : (w.alloc (.cells #[.int .i64 6, .int .i64 i, .int .i64 x] 33)).cell? ⟨w.heap.size, 2, none⟩ = some (.int .i64 x) := by rw [cell_of_row _ _ 2 _ _ (0, 0) (World.alloc_heap_new w _)]; rfl
  have hb1 : Below w.heap.size w (w.alloc (.cells #[.int .i64 6, .int .i64 i, .int .i64 x] 33)) := (Below.refl _ w).alloc (Nat.le_refl _) _
  have no1 : ¬ o.has w.heap.size := fun ho => by have := h.kv.lt _ ho; omega
  have no2 : ¬ w.heap.size = b := fun e => by have := h.rx.blt.2; omega
  have HH : Hid (Both w o p b B n m R) := h
  clear h
  go_enter Try.func11, Try.ntmps11
  go_wp2_with fail
  generalize w.alloc (.cells #[.int .i64 6, .int .i64 i, .int .i64 x] 33) = w1 at *
  have HD : Hid (Both w1.drew o p b B n m R) := HH.out.below hb1.drew
  have c1 : w1.drew.cell? ⟨w.heap.size, 1, none⟩ = some (.int .i64 i) := x0
  have c2 : w1.drew.cell? ⟨w.heap.size, 2, none⟩ = some (.int .i64 x) := x1
  have HC := take_k o n m R i x _ HD.out.kv
  go_region_held3 (fun W => W.cell? ⟨w.heap.size, 1, none⟩ = some (.int .i64 i) ∧ W.cell? ⟨w.heap.size, 2, none⟩ = some (.int .i64 x)) (first | assumption | exact ⟨c1, c2⟩ | exact ⟨d1, d2⟩ | exact ⟨f1, f2⟩) (first
    | (go_at_call 25; (with_reducible refine HC.mono ?_); rintro e w3 ⟨rfl, hk3, hb3⟩; have d1 := hb3.cell c1 no1; have d2 := hb3.cell c2 no1; have hr3 := HD.out.mid hb3; have hcall := rtake_k p b B n m R i x w3 hr3 HD.out.kv.okr)
    | (go_at_call 35; (with_reducible refine hcall.mono ?_); rintro e w4 ⟨rfl, hr4, hb4⟩; have f1 := hb4.cell d1 no2; have f2 := hb4.cell d2 no2))
  have B4 : But (o.or b) w w4 := ((But.of hb1 : But (o.or b) w _).drew.trans (hb3.mono fun g hg => .inl hg)).trans (hb4.mono fun g hg => .inr hg)
  have HF : Hid (∃ R', Both w4 o p b B n m R') := ⟨_, HD.out.acts hk3 hr4 hb4⟩
  clear hk3 hr4 hb3 hb4 hcall d1 d2 f1 f2 c1 c2 x0 x1 HC hr3
  go_wp2_with fail
  go_ret
  exact ⟨ret_bool (by simp), HF.out, B4⟩

set_option maxRecDepth 100000 in
set_option maxHeartbeats 4000000 in
theorem do_pop (o : Pl) (p b B n m : Nat) (R : Nat → List Nat) (i x : Int) (w : World) (h : Both w o p b B n m R) :
    Calls Try.prog 11 #[o.ptr, .pointer (some ⟨p, 0, none⟩), .agg #[.int .i64 3, .int .i64 i, .int .i64 x]] w fun e w' => e = .returned (.bool true) ∧ (∃ R', Both w' o p b B n m R') ∧ But (o.or b) w w' := by
  have x0 : (w.alloc (.cells #[.int .i64 3, .int .i64 i, .int .i64 x] 33)).cell? ⟨w.heap.size, 1, none⟩ = some (.int .i64 i) := by rw [cell_of_row _ _ 1 _ _ (0, 0) (World.alloc_heap_new w _)]; rfl
  have x1 : (w.alloc (.cells #[.int .i64 3, .int .i64 i, .int .i64 x] 33)).cell? ⟨w.heap.size, 2, none⟩ = some (.int .i64 x) := by rw [cell_of_row _ _ 2 _ _ (0, 0) (World.alloc_heap_new w _)]; rfl
  have hb1 : Below w.heap.size w (w.alloc (.cells #[.int .i64 3, .int .i64 i, .int .i64 x] 33)) := (Below.refl _ w).alloc (Nat.le_refl _) _
  have no1 : ¬ o.has w.heap.size := fun ho => by have := h.kv.lt _ ho; omega
  have no2 : ¬ w.heap.size = b := fun e => by have := h.rx.blt.2; omega
  have HH : Hid (Both w o p b B n m R) := h
  clear h
  have HD : Hid (Both (w.alloc (.cells #[.int .i64 3, .int .i64 i, .int .i64 x] 33)) o p b B n m R) := HH.out.below hb1
  have hc := pop_k o n m R i _ HD.out.kv
  clear x1
  go_enter Try.func11, Try.ntmps11
  go_wp2_with fail
  refine hc.mono ?_
  rintro e w3 ⟨rfl, hk3, hb3⟩
  have d1 := hb3.cell x0 no1
  have hcall := rpop_k p b B n m R i w3 (HD.out.mid hb3) HD.out.kv.okr
  have HK3 : Hid (Kv w3 o n m (popR m R i)) := hk3
  have HB3 : Hid (But o.has _ w3) := hb3
  clear hk3 hc x0 hb3
  go_wp2_with fail
  refine hcall.mono ?_
  rintro e w4 ⟨rfl, hr4, hb4⟩
  have hb3 := HB3.out
  have HF : Hid (∃ R', Both w4 o p b B n m R') := ⟨_, HD.out.acts HK3.out hr4 hb4⟩
  have B4 : But (o.or b) w w4 := ((But.of hb1 : But (o.or b) w _).trans (hb3.mono fun g hg => .inl hg)).trans (hb4.mono fun g hg => .inr hg)
  clear hr4 hb4 hb3 hcall d1 HB3 HK3
  go_wp2_with fail
  go_ret
  exact ⟨ret_bool (by simp), HF.out, B4⟩

set_option maxHeartbeats 2000000 in
theorem do_none (o : Pl) (p b B n m : Nat) (R : Nat → List Nat) (k i x : Int) (w : World) (h : Both w o p b B n m R) (h1 : (k == 1) = false) (h2 : (k == 2) = false) (h3 : (k == 3) = false) (h4 : (k == 4) = false) (h5 : (k == 5) = false) (h6 : (k == 6) = false) :
    Calls Try.prog 11 #[o.ptr, .pointer (some ⟨p, 0, none⟩), .agg #[.int .i64 k, .int .i64 i, .int .i64 x]] w fun e w' => e = .returned (.bool true) ∧ (∃ R', Both w' o p b B n m R') ∧ But (o.or b) w w' := by
  have hb1 : Below w.heap.size w (w.alloc (.cells #[.int .i64 k, .int .i64 i, .int .i64 x] 33)) := (Below.refl _ w).alloc (Nat.le_refl _) _
  have HD : Hid (Both (w.alloc (.cells #[.int .i64 k, .int .i64 i, .int .i64 x] 33)) o p b B n m R) := h.below hb1
  clear h
  go_enter Try.func11, Try.ntmps11
  go_wp2_with fail
  go_ret
  exact ⟨rfl, ⟨R, HD.out⟩, But.of hb1⟩

theorem do_k (o : Pl) (p b B n m : Nat) (R : Nat → List Nat) (k i x : Int) (w : World) (h : Both w o p b B n m R) :
    Calls Try.prog 11 #[o.ptr, .pointer (some ⟨p, 0, none⟩), .agg #[.int .i64 k, .int .i64 i, .int .i64 x]] w fun e w' => e = .returned (.bool true) ∧ (∃ R', Both w' o p b B n m R') ∧ But (o.or b) w w' := by
  by_cases h1 : k = 1
  · subst h1; exact do_push o p b B n m R i x w h
  by_cases h2 : k = 2
  · subst h2; exact do_front o p b B n m R i x w h
  by_cases h3 : k = 3
  · subst h3; exact do_pop o p b B n m R i x w h
  by_cases h4 : k = 4
  · subst h4; exact do_drop o p b B n m R i x w h
  by_cases h5 : k = 5
  · subst h5; exact do_move o p b B n m R i x w h
  by_cases h6 : k = 6
  · subst h6; exact do_take o p b B n m R i x w h
  exact do_none o p b B n m R k i x w h (by simpa using h1) (by simpa using h2) (by simpa using h3) (by simpa using h4) (by simpa using h5) (by simpa using h6)

end Go.Proofs.Ytiaacjollcccaaa
