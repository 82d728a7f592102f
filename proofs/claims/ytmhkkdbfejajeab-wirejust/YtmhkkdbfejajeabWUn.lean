/- Parses with their errors in one: the code's and the document's; what is looked at. -/
import Derived.Test.YtmhkkdbfejajeabWRow
import Derived.Test.YtmhkkdbfejajeabWRef
import Derived.Test.YtmhkkdbfejajeabWRefR
namespace Go.Proofs.Ytmhkkdbfejajeab
open Go.RowKit

def sel (b : Bool) (x : Int) : Int := if b then x else 0
theorem sel_true (x : Int) : sel true x = x := rfl
theorem sel_false (x : Int) : sel false x = 0 := rfl

def Has5 (W : World) (B : Nat) (x0 x1 x2 x3 x4 : Value) : Prop :=
  W.cell? ⟨B, 0, none⟩ = some x0 ∧ W.cell? ⟨B, 1, none⟩ = some x1 ∧ W.cell? ⟨B, 2, none⟩ = some x2 ∧ W.cell? ⟨B, 3, none⟩ = some x3 ∧ W.cell? ⟨B, 4, none⟩ = some x4
theorem has5_new (w : World) (x0 x1 x2 x3 x4 : Value) (t : TypeId) : Has5 (w.alloc (.cells #[x0, x1, x2, x3, x4] t)) w.heap.size x0 x1 x2 x3 x4 := agg5_cells w _ _ _ _ _ _ t (Below.refl _ _)
theorem Has5.below {W W' : World} {B : Nat} {x0 x1 x2 x3 x4 : Value} (h : Has5 W B x0 x1 x2 x3 x4) (hb : Below W.heap.size W W') : Has5 W' B x0 x1 x2 x3 x4 := by
  have hl := cell_lt h.1
  have c := fun j => hb.cell (p := ⟨B, j, none⟩) hl
  exact ⟨(c 0).trans h.1, (c 1).trans h.2.1, (c 2).trans h.2.2.1, (c 3).trans h.2.2.2.1, (c 4).trans h.2.2.2.2⟩
theorem Has5.lt {W : World} {B : Nat} {x0 x1 x2 x3 x4 : Value} (h : Has5 W B x0 x1 x2 x3 x4) : B < W.heap.size := cell_lt h.1
def Has4 (W : World) (B : Nat) (x0 x1 x2 x3 : Value) : Prop :=
  W.cell? ⟨B, 0, none⟩ = some x0 ∧ W.cell? ⟨B, 1, none⟩ = some x1 ∧ W.cell? ⟨B, 2, none⟩ = some x2 ∧ W.cell? ⟨B, 3, none⟩ = some x3
theorem has4_new (w : World) (x0 x1 x2 x3 : Value) (t : TypeId) : Has4 (w.alloc (.cells #[x0, x1, x2, x3] t)) w.heap.size x0 x1 x2 x3 := agg4_cells w _ _ _ _ _ t (Below.refl _ _)
theorem Has4.below {W W' : World} {B : Nat} {x0 x1 x2 x3 : Value} (h : Has4 W B x0 x1 x2 x3) (hb : Below W.heap.size W W') : Has4 W' B x0 x1 x2 x3 := by
  have hl := cell_lt h.1
  have c := fun j => hb.cell (p := ⟨B, j, none⟩) hl
  exact ⟨(c 0).trans h.1, (c 1).trans h.2.1, (c 2).trans h.2.2.1, (c 3).trans h.2.2.2⟩
theorem Has4.lt {W : World} {B : Nat} {x0 x1 x2 x3 : Value} (h : Has4 W B x0 x1 x2 x3) : B < W.heap.size := cell_lt h.1

set_option maxHeartbeats 400000 in
theorem wcut_any (a : Option Addr) (n cap : Nat) (w : World) (hn : n ≤ cap) (hc : cap ≤ maxLen) :
    Calls Try.prog 4 #[.slice a n cap] w fun e w' => e = .returned (.slice a (min n 400) cap) ∧ w' = w := by
  unfold maxLen at hc
  by_cases h : 400 < n
  · have H : Hid (min n 400 = 400) := by show min n 400 = 400; omega
    go_enter Try.func4, Try.ntmps4
    go_wp2
    go_ret
    exact ⟨by rw [H.out]; rfl, rfl⟩
  · have H : Hid (min n 400 = n) := by show min n 400 = n; omega
    go_enter Try.func4, Try.ntmps4
    go_wp2
    go_ret
    exact ⟨by rw [H.out]; rfl, rfl⟩
theorem ByRow.cut {w : World} {a : Option Addr} {n cap : Nat} {z : Nat → Int} (h : ByRow w a n cap z) (m : Nat) (hm : m ≤ n) : ByRow w a m cap z :=
  ⟨h.1.mono hm, fun e => by have := h.2.1 e; omega, by have := h.2.2.1; omega, h.2.2.2.1, fun j hj => h.2.2.2.2 j (by omega)⟩
theorem ByRow.below {w w' : World} {a : Option Addr} {n cap : Nat} {z : Nat → Int} (h : ByRow w a n cap z) (hb : Below w.heap.size w w') : ByRow w' a n cap z :=
  ⟨h.1.below hb, h.2⟩

theorem parse_un (a : Option Addr) (n cap : Nat) (z : Nat → Int) (w : World) (h : ByRow w a n cap z) :
    Calls Try.prog 5 #[.slice a n cap] w fun e w' => e = .returned (.tuple #[.agg #[.int .u8 (sel (reqB n z) (z 0)), .int .u8 (sel (reqB n z) (z 1)), .int .u8 (sel (reqB n z) (z 2)), .int .u32 (sel (reqB n z) (n4 z)), .int .u64 (sel (reqB n z) (n8 z))], .int .i64 (errI (reqB n z))]) ∧ Below w.heap.size w w' := by
  by_cases hn : n = 16
  · subst hn
    obtain ⟨b, off, rfl⟩ := cells_some h.1 (by omega)
    by_cases h3 : z 3 = 0
    · cases hok : okB (z 0) (z 1) (z 2) (n4 z) (n8 z)
      · have e : reqB 16 z = false := by simp [reqB, hok]
        rw [e]; exact parse_bad b off cap z w h.2.2.1 h.1 h.2.2.2.2 h3 hok
      · have e : reqB 16 z = true := by simp [reqB, hok, h3]
        rw [e]; exact parse_ok b off cap z w h.2.2.1 h.1 h.2.2.2.2 h3 hok
    · have e : reqB 16 z = false := by simp [reqB, h3]
      rw [e]; exact (parse_three b off cap z w h.1 h3)
  · have e : reqB n z = false := by simp [reqB, hn]
    rw [e]; exact parse_short a n cap w hn
theorem parser_un (a : Option Addr) (n cap : Nat) (z : Nat → Int) (w : World) (h : ByRow w a n cap z) :
    Calls Try.prog 7 #[.slice a n cap] w fun e w' => e = .returned (.tuple #[.agg #[.int .u8 (sel (rpyB n z) (z 0)), .int .u8 (sel (rpyB n z) (z 1)), .int .u32 (sel (rpyB n z) (n4 z)), .int .u64 (sel (rpyB n z) (n8 z))], .int .i64 (errI (rpyB n z))]) ∧ Below w.heap.size w w' := by
  by_cases hn : n = 16
  · subst hn
    obtain ⟨b, off, rfl⟩ := cells_some h.1 (by omega)
    by_cases h3 : z 3 = 0
    · by_cases h2 : z 2 = 0
      · cases hok : repB (z 0) (z 1) (n4 z) (n8 z)
        · have e : rpyB 16 z = false := by simp [rpyB, hok]
          rw [e]; exact parser_bad b off cap z w h.2.2.1 h.1 h.2.2.2.2 h3 h2 hok
        · have e : rpyB 16 z = true := by simp [rpyB, hok, h3, h2]
          rw [e]; exact parser_ok b off cap z w h.2.2.1 h.1 h.2.2.2.2 h3 h2 hok
      · have e : rpyB 16 z = false := by simp [rpyB, h2]
        rw [e]; exact parser_two b off cap z w h.2.2.1 h.1 h.2.2.2.2 h3 h2
    · have e : rpyB 16 z = false := by simp [rpyB, h3]
      rw [e]; exact parser_three b off cap z w h.1 h3
  · have e : rpyB n z = false := by simp [rpyB, hn]
    rw [e]; exact parser_short a n cap w hn
end Go.Proofs.Ytmhkkdbfejajeab
