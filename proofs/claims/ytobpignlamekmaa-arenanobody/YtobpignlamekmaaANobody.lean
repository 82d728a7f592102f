/- Arenas that nobody made. -/
import Derived.Test.YtobpignlamekmaaAHeld
import Derived.Test.YtobpignlamekmaaAPure
namespace Go.Proofs.Ytobpignlamekmaa
open Go.RowKit Go.Shelf Go.Sort
set_option maxRecDepth 100000

/-- nobody made it -/
def Nob (w : World) (v : Value) : Prop := v = .pointer none ∨ ∃ p, v = .pointer (some ⟨p, 0, none⟩) ∧ w.cell? ⟨p, 2, none⟩ = some (.pointer none)
theorem Nob.below {w w' : World} {v : Value} (h : Nob w v) (hb : Below w.heap.size w w') : Nob w' v := by
  rcases h with h | ⟨p, h1, h2⟩
  · exact .inl h
  · exact .inr ⟨p, h1, (hb.cell (p := ⟨p, 2, none⟩) (cell_lt h2)).trans h2⟩

theorem ais_n (v : Value) (w : World) (h : Nob w v) : Calls Try.prog 51 #[v] w fun e w' => e = .returned (.bool false) ∧ w' = w := by
  obtain rfl | ⟨p, rfl, hc⟩ := h
  all_goals
    go_enter Try.func51, Try.ntmps51
    go_wp2_with fail
    go_ret
    exact ⟨rfl, rfl⟩
theorem has_n (v : Value) (x : Int) (w : World) (h : Nob w v) : Calls Try.prog 33 #[v, .int .i64 x] w fun e w' => e = .returned (.bool false) ∧ w' = w := by
  have h1 := ais_n v w h
  clear h
  go_enter Try.func33, Try.ntmps33
  go_wp2_with fail
  refine h1.mono ?_
  rintro e w1 ⟨rfl, e1⟩
  subst e1
  go_wp2_with fail
  go_ret
  exact ⟨rfl, rfl⟩
theorem known_n (v : Value) (x : Int) (w : World) (h : Nob w v) : Calls Try.prog 36 #[v, .int .i64 x] w fun e w' => e = .returned (.int .i64 4) ∧ w' = w := by
  have h1 := ais_n v w h
  clear h
  go_enter Try.func36, Try.ntmps36
  go_wp2_with fail
  refine h1.mono ?_
  rintro e w1 ⟨rfl, e1⟩
  subst e1
  go_wp2_with fail
  go_ret
  exact ⟨rfl, rfl⟩
theorem alive_n (v : Value) (x g : Int) (w : World) (h : Nob w v) : Calls Try.prog 42 #[v, .agg #[.int .i64 x, .int .u64 g]] w fun e w' => e = .returned (.int .i64 4) ∧ Below w.heap.size w w' := by
  have hb := below_box w (.cells #[.int .i64 x, .int .u64 g] 36)
  have h1 := ais_n v _ (h.below hb)
  clear h
  go_enter Try.func42, Try.ntmps42
  go_wp2_with fail
  refine h1.mono ?_
  rintro e w1 ⟨rfl, e1⟩
  subst e1
  go_wp2_with fail
  go_ret
  exact ⟨rfl, hb⟩
set_option maxHeartbeats 1000000 in
theorem alloc_n (v : Value) (x : Int) (w : World) (h : Nob w v) : Calls Try.prog 22 #[v, .int .i64 x] w fun e w' => e = .returned (.tuple #[.agg #[.int .i64 0, .int .u64 0], .int .i64 4]) ∧ Below w.heap.size w w' := by
  have hB := below_box w (.cells #[.int .i64 0, .int .u64 0] 36)
  obtain ⟨c0, c1, cf⟩ := box2 (w := w) (x := .int .i64 0) (y := .int .u64 0) (T := 36) (Below.refl _ _)
  have h1 := known_n v x _ (h.below hB)
  clear h
  obtain ⟨W, hW⟩ : ∃ W, w.alloc (.cells #[.int .i64 0, .int .u64 0] 36) = W := ⟨_, rfl⟩
  rw [hW] at c0 c1 cf hB h1
  go_enter Try.func22, Try.ntmps22
  go_wp2_with fail
  refine h1.mono ?_
  rintro e w1 ⟨rfl, e1⟩
  subst e1
  go_wp2_with fail
  refine bodyPost_ret (v := .tuple #[.agg #[.int .i64 0, .int .u64 0], .int .i64 4]) (by simp [results, Try.results22, go_sem, c0, c1]) rfl ⟨rfl, ?_⟩
  exact (hB.setCell (Nat.le_refl _) _).setCell (Nat.le_refl _) _
set_option maxHeartbeats 1000000 in
theorem read_n (v : Value) (x g : Int) (w : World) (h : Nob w v) : Calls Try.prog 23 #[v, .agg #[.int .i64 x, .int .u64 g]] w fun e w' => e = .returned (.tuple #[.int .u64 0, .int .i64 4]) ∧ Below w.heap.size w w' := by
  have hB := below_box w (.cells #[.int .i64 x, .int .u64 g] 36)
  have h1 := alive_n v x g _ (h.below hB)
  clear h
  go_enter Try.func23, Try.ntmps23
  go_wp2_with fail
  refine h1.mono ?_
  rintro e w1 ⟨rfl, e1⟩
  go_wp2_with fail
  go_ret2
  exact ⟨rfl, Below.onto hB e1⟩
set_option maxHeartbeats 1000000 in
theorem write_n (v : Value) (x g y : Int) (w : World) (h : Nob w v) : Calls Try.prog 24 #[v, .agg #[.int .i64 x, .int .u64 g], .int .u64 y] w fun e w' => e = .returned (.int .i64 4) ∧ Below w.heap.size w w' := by
  have hB := below_box w (.cells #[.int .i64 x, .int .u64 g] 36)
  have h1 := alive_n v x g _ (h.below hB)
  clear h
  go_enter Try.func24, Try.ntmps24
  go_wp2_with fail
  refine h1.mono ?_
  rintro e w1 ⟨rfl, e1⟩
  go_wp2_with fail
  go_ret
  exact ⟨rfl, Below.onto hB e1⟩
set_option maxHeartbeats 1000000 in
theorem free_n (v : Value) (x g : Int) (w : World) (h : Nob w v) : Calls Try.prog 25 #[v, .agg #[.int .i64 x, .int .u64 g]] w fun e w' => e = .returned (.int .i64 4) ∧ Below w.heap.size w w' := by
  have hB := below_box w (.cells #[.int .i64 x, .int .u64 g] 36)
  have h1 := alive_n v x g _ (h.below hB)
  clear h
  go_enter Try.func25, Try.ntmps25
  go_wp2_with fail
  refine h1.mono ?_
  rintro e w1 ⟨rfl, e1⟩
  go_wp2_with fail
  go_ret
  exact ⟨rfl, Below.onto hB e1⟩
set_option maxHeartbeats 1000000 in
theorem counts_n (v : Value) (x : Int) (w : World) (h : Nob w v) : Calls Try.prog 17 #[v, .int .i64 x] w fun e w' => e = .returned (.tuple #[.int .i64 0, .int .i64 0, .int .i64 4]) ∧ w' = w := by
  have h1 := known_n v x _ h
  clear h
  go_enter Try.func17, Try.ntmps17
  go_wp2_with fail
  refine h1.mono ?_
  rintro e w1 ⟨rfl, e1⟩
  subst e1
  go_wp2_with fail
  go_ret3
  exact ⟨rfl, rfl⟩
set_option maxHeartbeats 1000000 in
theorem part_n (v : Value) (x : Int) (w : World) (h : Nob w v) : Calls Try.prog 15 #[v, .int .i64 x] w fun e w' => e = .returned (.tuple #[.int .i64 0, .bool false]) ∧ w' = w := by
  have h1 := has_n v x _ h
  clear h
  go_enter Try.func15, Try.ntmps15
  go_wp2_with fail
  refine h1.mono ?_
  rintro e w1 ⟨rfl, e1⟩
  subst e1
  go_wp2_with fail
  go_ret2
  exact ⟨rfl, rfl⟩
set_option maxHeartbeats 1000000 in
theorem look_n (v : Value) (x : Int) (w : World) (h : Nob w v) : Calls Try.prog 13 #[v, .int .i64 x] w fun e w' => e = .returned (.tuple #[.int .u64 0, .int .u64 0, .bool false]) ∧ w' = w := by
  have h1 := has_n v x _ h
  clear h
  go_enter Try.func13, Try.ntmps13
  go_wp2_with fail
  refine h1.mono ?_
  rintro e w1 ⟨rfl, e1⟩
  subst e1
  go_wp2_with fail
  go_ret3
  exact ⟨rfl, rfl⟩
theorem nob_ptr {w : World} {v : Value} (h : Nob w v) : ∃ a, v = .pointer a := by
  rcases h with h | ⟨p, h, _⟩
  · exact ⟨_, h⟩
  · exact ⟨_, h⟩
set_option maxHeartbeats 1000000 in
theorem names_n (v : Value) (x : Int) (w : World) (h : Nob w v) : Calls Try.prog 55 #[v, .int .i64 x] w fun e w' => e = .returned (.slice none 0 0) ∧ Below w.heap.size w w' := by
  obtain ⟨a, rfl⟩ := nob_ptr h
  have hb1 : Below w.heap.size w ((w.alloc (.cells #[.pointer a] 26)).alloc (.cells #[.slice none 0 0] 45)) := ((Below.refl _ w).alloc (Nat.le_refl _) _).alloc (by simp) _
  have hc := known_n (.pointer a) x _ (h.below hb1)
  generalize hW : (w.alloc (.cells #[.pointer a] 26)).alloc (.cells #[.slice none 0 0] 45) = W1 at *
  have bL := Boxed.new (w.alloc (.cells #[.pointer a] 26)) 45 (.slice none 0 0)
  rw [World.size_alloc, hW] at bL
  have bA := (Boxed.new w 26 (.pointer a)).alloc (.cells #[.slice none 0 0] 45)
  rw [hW] at bA
  have c1 := bL.cell
  have c2 := bA.cell
  clear h
  go_enter Try.func55, Try.ntmps55
  go_wp2_with fail
  refine hc.mono ?_
  rintro e w2 ⟨rfl, e2⟩
  subst e2
  go_wp2_with fail
  go_ret
  exact ⟨rfl, hb1⟩
set_option maxHeartbeats 2000000 in
theorem heldR_n (v : Value) (x : Int) (Ba Bp Bl Bm : Nat) (w : World) (h : Nob w v) (ba : Boxed w Ba 26 v) (bp : Boxed w Bp 3 (.int .i64 x)) :
    Calls Try.prog 54 #[.func (.func 40) #[] #[.pointer (some ⟨Bl, 0, none⟩), .pointer (some ⟨Bm, 0, none⟩)], .pointer (some ⟨Ba, 0, none⟩), .pointer (some ⟨Bp, 0, none⟩)] w fun e w' => e = .returned (.tuple #[]) ∧ Below w.heap.size w w' := by
  have hnil := fun w => eql_held1_nil (.pointer (some ⟨Bl, 0, none⟩)) (.pointer (some ⟨Bm, 0, none⟩)) w
  have hnm := names_n v x w h
  obtain ⟨a, rfl⟩ := nob_ptr h
  have c1 := ba.cell
  have c2 := bp.cell
  clear h
  go_enter Try.func54, Try.ntmps54
  go_wp2_with fail
  refine hnm.mono ?_
  rintro e w2 ⟨rfl, hb2⟩
  clear hnil c1 c2 hnm ba bp
  go_wp2_with fail
  go_loopw [12] (fun vi wr => vi = .int .i64 0 ∧ Hid (wr = w2)) (fun _ _ => 0)
  case atStart => exact ⟨rfl, rfl⟩
  case round =>
    obtain ⟨rfl, hwr⟩ := hrel
    have := hwr.out
    subst this
    go_wp2_with fail
    refine bodyPost_end (results_none rfl _ _ _) rfl ?_
    exact ⟨rfl, hb2⟩
set_option maxHeartbeats 2000000 in
theorem held_n (v : Value) (x most : Int) (w : World) (h : Nob w v) :
    Calls Try.prog 19 #[v, .int .i64 x, .int .i64 most] w fun e w' => e = .returned (.tuple #[.slice none 0 0, .bool true]) ∧ Below w.heap.size w w' := by
  have hnil := fun x y w => eql_heldF_nil x y w
  have HA : Hid (Nob w v) := h
  obtain ⟨a, rfl⟩ := nob_ptr h
  have hb1 := below_new' w (.cells #[.int .i64 most] 3)
  have hf := heldF_any (.pointer a) x (by cases a; exact .inl rfl; exact .inr ⟨_, rfl⟩) (w.alloc (.cells #[.int .i64 most] 3))
  clear h
  generalize hW1 : w.alloc (.cells #[.int .i64 most] 3) = W1 at *
  go_enter Try.func19, Try.ntmps19
  go_wp2_with fail
  refine hf.mono ?_
  rintro e w2 ⟨rfl, e2⟩
  have ba : Boxed w2 W1.heap.size 26 (.pointer a) := by rw [e2]; exact (Boxed.new W1 26 (.pointer a)).alloc _
  have bp : Boxed w2 (W1.heap.size + 1) 3 (.int .i64 x) := by
    rw [e2]
    have := Boxed.new (W1.alloc (.cells #[.pointer a] 26)) 3 (.int .i64 x)
    rwa [World.size_alloc] at this
  have hb2 : Below W1.heap.size W1 w2 := by rw [e2]; exact ((Below.refl _ W1).alloc (Nat.le_refl _) _).alloc (by simp) _
  have B2 := Below.onto hb1 hb2
  clear hf e2
  go_wp2_with fail
  have hb3 := below_new' w2 (.cells #[.slice none 0 0] 45)
  have bl := Boxed.new w2 45 (.slice none 0 0)
  have hcall := heldR_n (.pointer a) x W1.heap.size (W1.heap.size + 1) w2.heap.size w.heap.size _ ((HA.out.below B2).below hb3) (aboxed_below ba hb3) (aboxed_below bp hb3)
  have B3 := Below.onto B2 hb3
  refine hcall.mono ?_
  rintro e w4 ⟨rfl, hb4⟩
  have hc' := (aboxed_below bl hb4).cell
  have B4 := Below.onto B3 hb4
  clear hcall hb4
  go_wp2_with fail
  go_ret2
  exact ⟨rfl, B4⟩
end Go.Proofs.Ytobpignlamekmaa
