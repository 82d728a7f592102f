/- Lists that nobody made refuse all. -/
import Derived.Test.YtiaacjollcccaaaKAlive
namespace Go.Proofs.Ytiaacjollcccaaa
open Go.RowKit

/-- lists that nobody made -/
def Nb (W : World) (l : Option Addr) : Prop := l = none ∨ ∃ B, l = some ⟨B, 0, none⟩ ∧ W.cell? ⟨B, 0, none⟩ = some (.bool false)
theorem Nb.below {W W' : World} {l : Option Addr} (h : Nb W l) (hb : Below W.heap.size W W') : Nb W' l := by
  rcases h with h | ⟨B, h, hc⟩
  · exact .inl h
  · exact .inr ⟨B, h, (hb.cell (p := ⟨B, 0, none⟩) (cell_lt hc)).trans hc⟩

set_option maxHeartbeats 1000000 in
theorem is_nb (l : Option Addr) (w : World) (h : Nb w l) :
    Calls Try.prog 41 #[.pointer l] w fun e w' => e = .returned (.bool false) ∧ w' = w := by
  rcases h with rfl | ⟨B, rfl, hc⟩
  · go_enter Try.func41, Try.ntmps41
    go_wp2_with fail
    go_ret
    exact ⟨rfl, rfl⟩
  · go_enter Try.func41, Try.ntmps41
    go_wp2_with fail
    go_ret
    exact ⟨rfl, rfl⟩

set_option maxHeartbeats 1000000 in
theorem hasNode_nb (l : Option Addr) (x : Int) (w : World) (h : Nb w l) :
    Calls Try.prog 42 #[.pointer l, .int .i64 x] w fun e w' => e = .returned (.bool false) ∧ w' = w := by
  have HN : Hid (Nb w l) := h
  clear h
  go_enter Try.func42, Try.ntmps42
  go_wp2_with fail
  refine (is_nb l _ HN.out).mono ?_
  rintro e w1 ⟨rfl, e1⟩
  subst e1
  go_wp2_with fail
  go_ret
  exact ⟨rfl, rfl⟩

set_option maxHeartbeats 1000000 in
theorem hasList_nb (l : Option Addr) (x : Int) (w : World) (h : Nb w l) :
    Calls Try.prog 45 #[.pointer l, .int .i64 x] w fun e w' => e = .returned (.bool false) ∧ w' = w := by
  have HN : Hid (Nb w l) := h
  clear h
  go_enter Try.func45, Try.ntmps45
  go_wp2_with fail
  refine (is_nb l _ HN.out).mono ?_
  rintro e w1 ⟨rfl, e1⟩
  subst e1
  go_wp2_with fail
  go_ret
  exact ⟨rfl, rfl⟩

set_option maxHeartbeats 1000000 in
theorem may_nb (l : Option Addr) (i x : Int) (w : World) (h : Nb w l) :
    Calls Try.prog 50 #[.pointer l, .int .i64 i, .int .i64 x] w fun e w' => e = .returned (.int .i64 4) ∧ w' = w := by
  have HN : Hid (Nb w l) := h
  clear h
  go_enter Try.func50, Try.ntmps50
  go_wp2_with fail
  refine (is_nb l _ HN.out).mono ?_
  rintro e w1 ⟨rfl, e1⟩
  subst e1
  go_wp2_with fail
  go_ret
  exact ⟨rfl, rfl⟩

set_option maxHeartbeats 1000000 in
theorem len_nb (l : Option Addr) (i : Int) (w : World) (h : Nb w l) :
    Calls Try.prog 18 #[.pointer l, .int .i64 i] w fun e w' => e = .returned (.int .i64 0) ∧ w' = w := by
  have HN : Hid (Nb w l) := h
  clear h
  go_enter Try.func18, Try.ntmps18
  go_wp2_with fail
  refine (hasList_nb l i _ HN.out).mono ?_
  rintro e w1 ⟨rfl, e1⟩
  subst e1
  go_wp2_with fail
  go_ret
  exact ⟨rfl, rfl⟩

set_option maxHeartbeats 1000000 in
theorem enter_nb (l : Option Addr) (i x : Int) (f : Value) (w : World) (h : Nb w l) :
    Calls Try.prog 47 #[.pointer l, .int .i64 i, .int .i64 x, f] w fun e w' => e = .returned (.int .i64 4) ∧ w' = w := by
  have HN : Hid (Nb w l) := h
  clear h
  go_enter Try.func47, Try.ntmps47
  go_wp2_with fail
  refine (may_nb l i x _ HN.out).mono ?_
  rintro e w1 ⟨rfl, e1⟩
  subst e1
  go_wp2_with fail
  go_ret
  exact ⟨rfl, rfl⟩

set_option maxHeartbeats 1000000 in
theorem push_nb (l : Option Addr) (i x : Int) (w : World) (h : Nb w l) :
    Calls Try.prog 22 #[.pointer l, .int .i64 i, .int .i64 x] w fun e w' => e = .returned (.int .i64 4) ∧ w' = w := by
  have HN : Hid (Nb w l) := h
  clear h
  go_enter Try.func22, Try.ntmps22
  go_wp2_with fail
  refine (enter_nb l i x _ _ HN.out).mono ?_
  rintro e w1 ⟨rfl, e1⟩
  subst e1
  go_wp2_with fail
  go_ret
  exact ⟨rfl, rfl⟩

set_option maxHeartbeats 1000000 in
theorem pushFront_nb (l : Option Addr) (i x : Int) (w : World) (h : Nb w l) :
    Calls Try.prog 23 #[.pointer l, .int .i64 i, .int .i64 x] w fun e w' => e = .returned (.int .i64 4) ∧ w' = w := by
  have HN : Hid (Nb w l) := h
  clear h
  go_enter Try.func23, Try.ntmps23
  go_wp2_with fail
  refine (enter_nb l i x _ _ HN.out).mono ?_
  rintro e w1 ⟨rfl, e1⟩
  subst e1
  go_wp2_with fail
  go_ret
  exact ⟨rfl, rfl⟩

set_option maxHeartbeats 1000000 in
theorem move_nb (l : Option Addr) (i x : Int) (w : World) (h : Nb w l) :
    Calls Try.prog 24 #[.pointer l, .int .i64 i, .int .i64 x] w fun e w' => e = .returned (.int .i64 4) ∧ w' = w := by
  have HN : Hid (Nb w l) := h
  clear h
  go_enter Try.func24, Try.ntmps24
  go_wp2_with fail
  refine (may_nb l i x _ HN.out).mono ?_
  rintro e w1 ⟨rfl, e1⟩
  subst e1
  go_wp2_with fail
  go_ret
  exact ⟨rfl, rfl⟩

set_option maxHeartbeats 1000000 in
theorem drop_nb (l : Option Addr) (x : Int) (w : World) (h : Nb w l) :
    Calls Try.prog 16 #[.pointer l, .int .i64 x] w fun e w' => e = .returned (.int .i64 4) ∧ w' = w := by
  have HN : Hid (Nb w l) := h
  clear h
  go_enter Try.func16, Try.ntmps16
  go_wp2_with fail
  refine (is_nb l _ HN.out).mono ?_
  rintro e w1 ⟨rfl, e1⟩
  subst e1
  go_wp2_with fail
  go_ret
  exact ⟨rfl, rfl⟩

set_option maxHeartbeats 1000000 in
theorem take_nb (l : Option Addr) (i x : Int) (w : World) (h : Nb w l) :
    Calls Try.prog 25 #[.pointer l, .int .i64 i, .int .i64 x] w fun e w' => e = .returned (.int .i64 4) ∧ w' = w := by
  have HN : Hid (Nb w l) := h
  clear h
  go_enter Try.func25, Try.ntmps25
  go_wp2_with fail
  refine (is_nb l _ HN.out).mono ?_
  rintro e w1 ⟨rfl, e1⟩
  subst e1
  go_wp2_with fail
  go_ret
  exact ⟨rfl, rfl⟩

set_option maxHeartbeats 1000000 in
theorem pop_nb (l : Option Addr) (i : Int) (w : World) (h : Nb w l) :
    Calls Try.prog 21 #[.pointer l, .int .i64 i] w fun e w' => e = .returned (.tuple #[.int .i64 0, .bool false]) ∧ w' = w := by
  have HN : Hid (Nb w l) := h
  clear h
  go_enter Try.func21, Try.ntmps21
  go_wp2_with fail
  refine (len_nb l i _ HN.out).mono ?_
  rintro e w1 ⟨rfl, e1⟩
  subst e1
  go_wp2_with fail
  go_ret2
  exact ⟨rfl, rfl⟩

set_option maxHeartbeats 1000000 in
theorem of_nb (l : Option Addr) (x : Int) (w : World) (h : Nb w l) :
    Calls Try.prog 20 #[.pointer l, .int .i64 x] w fun e w' => e = .returned (.tuple #[.int .i64 0, .bool false]) ∧ w' = w := by
  have HN : Hid (Nb w l) := h
  clear h
  go_enter Try.func20, Try.ntmps20
  go_wp2_with fail
  refine (hasNode_nb l x _ HN.out).mono ?_
  rintro e w1 ⟨rfl, e1⟩
  subst e1
  go_wp2_with fail
  go_ret2
  exact ⟨rfl, rfl⟩

set_option maxHeartbeats 1000000 in
theorem tell_nb (B1 B2 B3 : Nat) (l : Option Addr) (i : Int) (f : Value) (W : World) (b1 : Boxed W B1 23 (.pointer l)) (b2 : Boxed W B2 3 (.int .i64 i)) (h : Nb W l) :
    Calls Try.prog 57 #[f, .pointer (some ⟨B1, 0, none⟩), .pointer (some ⟨B2, 0, none⟩), .pointer (some ⟨B3, 0, none⟩)] W fun e W' => e = .returned (.tuple #[]) ∧ W' = W := by
  have c1 := b1.cell
  have c2 := b2.cell
  have hl := hasList_nb l i W h
  clear h b1 b2
  go_enter Try.func57, Try.ntmps57
  go_wp2_with fail
  refine hl.mono ?_
  rintro e w1 ⟨rfl, e1⟩
  subst e1
  go_wp2_with fail
  refine bodyPost_ret (results_none rfl _ _ _) rfl ?_
  exact ⟨rfl, rfl⟩

/-- the iterator of such lists tells nothing -/
theorem rest_nb (l : Option Addr) (i : Int) (g : Fn) (xs ys : Array Value) (w w1 : World) (h : Nb w l)
    (hw : w1 = ((w.alloc (.cells #[.pointer l] 23)).alloc (.cells #[.int .i64 i] 3)).alloc (.cells #[.func g xs ys] 43)) :
    Calls Try.prog 26 #[.func (.func 57) #[] #[.pointer (some ⟨w.heap.size, 0, none⟩), .pointer (some ⟨w.heap.size + 1, 0, none⟩), .pointer (some ⟨w.heap.size + 1 + 1, 0, none⟩)]] w1 fun e w' => ∃ a cap, e = .returned (.slice a 0 cap) ∧ Below w1.heap.size w1 w' := by
  obtain ⟨hB, b1, b2, _, _⟩ := boxes3 hw
  refine (rest_of _ _ _ w1 [] fun W hW bC => ?_).mono ?_
  · have hk2 : Nb W l := (h.below hB).below hW
    have c1 : Boxed W w.heap.size 23 (.pointer l) := (hW.block _ b1.lt).trans b1
    have c2 : Boxed W (w.heap.size + 1) 3 (.int .i64 i) := (hW.block _ b2.lt).trans b2
    refine (tell_nb _ _ _ l i _ W c1 c2 hk2).mono ?_
    rintro e W' ⟨rfl, e1⟩
    subst e1
    exact ⟨rfl, _, bC, World.ownsRow_nil _ _ _ _, But.refl _ _⟩
  · rintro e w' ⟨v, rfl, hown, hb⟩
    obtain ⟨a, cap, rfl, _, _⟩ := cells_of_own hown (k := .i64) (z := fun _ => 0) (fun j hj => absurd hj (by simp))
    exact ⟨a, cap, rfl, hb⟩

set_option maxHeartbeats 1000000 in
theorem told_nb (l : Option Addr) (i : Int) (w : World) (h : Nb w l) :
    Calls Try.prog 19 #[.pointer l, .int .i64 i] w fun e w' => ∃ a cap, e = .returned (.slice a 0 cap) ∧ Below w.heap.size w w' := by
  have HK : Hid (Nb w l) := h
  clear h
  go_enter Try.func19, Try.ntmps19
  go_wp2_with fail
  refine (all_k _ _ _).mono ?_
  rintro e w1 ⟨rfl, hw⟩
  have hb := (boxes3 hw).1
  have hcall := rest_nb l i _ _ _ w w1 HK.out hw
  clear hw
  go_wp2_with fail
  refine hcall.mono ?_
  rintro e w2 ⟨a, cap, rfl, hb2⟩
  go_wp2_with fail
  go_ret
  exact ⟨a, cap, rfl, Below.onto hb hb2⟩

end Go.Proofs.Ytiaacjollcccaaa
