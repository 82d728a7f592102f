/- The example, which each statement asks besides. -/
import Derived.Test.YtobpignlamekmaaANewK
namespace Go.Proofs.Ytobpignlamekmaa
open Go.RowKit Go.Sort
set_option maxRecDepth 100000

def zA : Nat → Int := fun j => if j = 0 then 2 else 1
def hA : Sh := shOf zA 2
def dA0 : Da := daN hA hA.N
def dA1 : Da := alD hA dA0 0
def dA2 : Da := alD hA dA1 0
def dA3 : Da := wrD hA dA2 0 0 7
def dA4 : Da := alD hA dA3 0
def dA5 : Da := frD hA dA4 0 0
def dA6 : Da := alD hA dA5 0
def dA7 : Da := alD hA dA6 1
theorem aE0 : alN hA dA0 0 = 0 ∧ alG hA dA0 0 = 0 ∧ alE hA dA0 0 = 0 := by decide
theorem aE1 : alN hA dA1 0 = 1 ∧ alG hA dA1 0 = 0 ∧ alE hA dA1 0 = 0 := by decide
theorem aE2 : alvE hA dA2 0 0 = 0 := by decide
theorem aE3 : alE hA dA3 0 = 61 := by decide
theorem aE4 : alvE hA dA4 0 0 = 0 := by decide
theorem aE5 : alN hA dA5 0 = 0 ∧ alG hA dA5 0 = 1 ∧ alE hA dA5 0 = 0 := by decide
theorem aE6 : rdI hA dA6 0 1 = 0 ∧ alvE hA dA6 0 1 = 0 := by decide
theorem aE7 : alN hA dA6 1 = 2 ∧ alE hA dA6 1 = 0 := by decide
theorem aE8 : alvE hA dA7 0 0 = 62 := by decide
theorem mayA : mayQ 2 zA = true := by decide

/-- a block of two cells -/
def Two (W : World) (B : Nat) (x y : Value) : Prop := W.cell? ⟨B, 0, none⟩ = some x ∧ W.cell? ⟨B, 1, none⟩ = some y
theorem Two.but {W W' : World} {B : Nat} {x y : Value} {S : Nat → Prop} (h : Two W B x y) (hb : But S W W') (hn : ¬ S B) : Two W' B x y := ⟨hb.cell h.1 hn, hb.cell h.2 hn⟩
theorem Two.below {W W' : World} {B : Nat} {x y : Value} (h : Two W B x y) (hb : Below W.heap.size W W') : Two W' B x y := ⟨(hb.cell (p := ⟨B, 0, none⟩) (cell_lt h.1)).trans h.1, (hb.cell (p := ⟨B, 1, none⟩) (cell_lt h.1)).trans h.2⟩
theorem two_box (W : World) (x y : Value) (T : TypeId) : Two (W.alloc (.cells #[x, y] T)) W.heap.size x y := by
  obtain ⟨c0, c1, _⟩ := box2 (w := W) (x := x) (y := y) (T := T) (Below.refl _ _)
  exact ⟨c0, c1⟩
theorem below_box (W : World) (x : Obj) : Below W.heap.size W (W.alloc x) := (Below.refl _ W).alloc (Nat.le_refl _) _

set_option maxHeartbeats 8000000 in
theorem awake_a (w : World) : Calls Try.prog 8 #[] w fun e w' => e = .returned (.bool true) ∧ Below w.heap.size w w' := by
  have hC : Cells (w.alloc (.cells #[.int .i64 2, .int .i64 1] 3)) .i64 (some ⟨w.heap.size, 0, none⟩) 2 zA := fun j hj => ⟨w.heap.size, 0, rfl, by
    obtain ⟨c0, c1⟩ := two_box w (.int .i64 2) (.int .i64 1) 3
    match j, hj with
    | 0, _ => exact c0
    | 1, _ => exact c1⟩
  have hnew := anew_ok (some ⟨w.heap.size, 0, none⟩) 2 2 zA _ hC mayA
  have hb0 := below_box w (.cells #[.int .i64 2, .int .i64 1] 3)
  go_enter Try.func8, Try.ntmps8
  go_wp2_with fail
  refine hnew.mono ?_
  rintro e w1 ⟨o, rfl, ha1, hb1, ho⟩
  have HO : Hid (∀ b, o.has b → w.heap.size ≤ b) := fun b hb => Nat.le_trans hb0.size (ho b hb)
  have H1 : Hid (Ax w1 o hA dA0) := ha1
  have B1 := Below.onto hb0 hb1
  have hc1 := alloc_a o hA dA0 0 w1 H1.out
  rw [aE0.1, aE0.2.1, aE0.2.2] at hc1
  clear ha1 hb1 ho hnew hC hb0
  go_wp2_with fail
  refine hc1.mono ?_
  rintro e w2 ⟨rfl, ha2, hb2⟩
  /- s -/
  have hbx := below_box w2 (.cells #[.int .i64 0, .int .u64 0] 36)
  have H2 : Hid (Ax _ o hA dA1) := ha2.below hbx
  have B2 := (B1.trans (hb2.below B1.size HO.out)).trans (hbx.mono (Nat.le_trans B1.size hb2.size))
  have n2 : Hid (¬ o.has w2.heap.size) := fun hb => by have := ha2.lt _ hb; omega
  have T2 : Hid (Two _ _ _ _) := two_box w2 (.int .i64 0) (.int .u64 0) 36
  have hc2 := alloc_a o hA dA1 0 _ H2.out
  rw [aE1.1, aE1.2.1, aE1.2.2] at hc2
  clear ha2 hb2 hc1 hbx
  generalize hX2 : w2.heap.size = X2 at *
  go_wp2_with fail
  refine hc2.mono ?_
  rintro e w3 ⟨rfl, ha3, hb3⟩
  /- t -/
  have hbx := below_box w3 (.cells #[.int .i64 1, .int .u64 0] 36)
  have H3 : Hid (Ax _ o hA dA2) := ha3.below hbx
  have B3 := (B2.trans (hb3.below B2.size HO.out)).trans (hbx.mono (Nat.le_trans B2.size hb3.size))
  have n3 : Hid (¬ o.has w3.heap.size) := fun hb => by have := ha3.lt _ hb; omega
  have U2 : Hid (Two _ _ _ _) := (T2.out.but hb3 n2.out).below hbx
  have T3 : Hid (Two _ _ _ _) := two_box w3 (.int .i64 1) (.int .u64 0) 36
  clear ha3 hb3 hc2 hbx H2 T2 B2 H1 B1 hX2
  generalize hX3 : w3.heap.size = X3 at *
  have p0 := U2.out.1
  have p1 := U2.out.2
  have hc3 := write_a o hA dA2 0 0 7 _ H3.out (by decide)
  rw [aE2] at hc3
  go_wp2_with fail
  refine hc3.mono ?_
  rintro e w4 ⟨rfl, ha4, hb4⟩
  have H4 : Hid (Ax w4 o hA dA3) := ha4
  have B4 := B3.trans (hb4.below B3.size HO.out)
  have V2 : Hid (Two _ _ _ _) := U2.out.but hb4 n2.out
  have V3 : Hid (Two _ _ _ _) := T3.out.but hb4 n3.out
  clear ha4 hb4 hc3 U2 T3 p0 p1 H3 B3 hX3
  have hc4 := alloc_a o hA dA3 0 w4 H4.out
  rw [aE3] at hc4
  go_wp2_with fail
  refine hc4.mono ?_
  rintro e w5 ⟨rfl, ha5, hb5⟩
  have hbx := below_box w5 (.cells #[.int .i64 (alN hA dA3 0), .int .u64 (alG hA dA3 0)] 36)
  have H5 : Hid (Ax _ o hA dA4) := ha5.below hbx
  have B5 := (B4.trans (hb5.below B4.size HO.out)).trans (hbx.mono (Nat.le_trans B4.size hb5.size))
  have U2 : Hid (Two _ _ _ _) := (V2.out.but hb5 n2.out).below hbx
  have U3 : Hid (Two _ _ _ _) := (V3.out.but hb5 n3.out).below hbx
  have p0 := U2.out.1
  have p1 := U2.out.2
  clear ha5 hb5 hc4 hbx H4 B4 V2 V3
  generalize hg1 : alN hA dA3 0 = g1 at *
  generalize hg2 : alG hA dA3 0 = g2 at *
  have hc5 := free_a o hA dA4 0 0 _ H5.out
  rw [aE4] at hc5
  go_wp2_with fail
  refine hc5.mono ?_
  rintro e w6 ⟨rfl, ha6, hb6⟩
  have H6 : Hid (Ax w6 o hA dA5) := ha6
  have B6 := B5.trans (hb6.below B5.size HO.out)
  have V2 : Hid (Two _ _ _ _) := U2.out.but hb6 n2.out
  have V3 : Hid (Two _ _ _ _) := U3.out.but hb6 n3.out
  clear ha6 hb6 hc5 U2 U3 p0 p1 H5 B5 hg1 hg2
  have hc6 := alloc_a o hA dA5 0 w6 H6.out
  rw [aE5.1, aE5.2.1, aE5.2.2] at hc6
  go_wp2_with fail
  refine hc6.mono ?_
  rintro e w7 ⟨rfl, ha7, hb7⟩
  /- u -/
  have hbx := below_box w7 (.cells #[.int .i64 0, .int .u64 1] 36)
  have H7 : Hid (Ax _ o hA dA6) := ha7.below hbx
  have B7 := (B6.trans (hb7.below B6.size HO.out)).trans (hbx.mono (Nat.le_trans B6.size hb7.size))
  have n7 : Hid (¬ o.has w7.heap.size) := fun hb => by have := ha7.lt _ hb; omega
  have U2 : Hid (Two _ _ _ _) := (V2.out.but hb7 n2.out).below hbx
  have U3 : Hid (Two _ _ _ _) := (V3.out.but hb7 n3.out).below hbx
  have T7 : Hid (Two _ _ _ _) := two_box w7 (.int .i64 0) (.int .u64 1) 36
  clear ha7 hb7 hc6 hbx H6 B6 V2 V3
  generalize hX7 : w7.heap.size = X7 at *
  have p0 := T7.out.1
  have p1 := T7.out.2
  have hc7 := read_a o hA dA6 0 1 _ H7.out
  rw [aE6.1, aE6.2] at hc7
  go_wp2_with fail
  refine hc7.mono ?_
  rintro e w8 ⟨rfl, hb8⟩
  have H8 : Hid (Ax w8 o hA dA6) := H7.out.below hb8
  have B8 := Below.onto B7 hb8
  have V2 : Hid (Two _ _ _ _) := U2.out.below hb8
  have V3 : Hid (Two _ _ _ _) := U3.out.below hb8
  have V7 : Hid (Two _ _ _ _) := T7.out.below hb8
  clear hb8 hc7 U2 U3 T7 p0 p1 H7 B7 hX7
  have hc8 := alloc_a o hA dA6 1 w8 H8.out
  rw [aE7.1, aE7.2] at hc8
  go_wp2_with fail
  refine hc8.mono ?_
  rintro e w9 ⟨rfl, ha9, hb9⟩
  generalize hg1 : alG hA dA6 1 = g1 at *
  have hbx := below_box w9 (.cells #[.int .i64 2, .int .u64 g1] 36)
  have H9 : Hid (Ax _ o hA dA7) := ha9.below hbx
  have B9 := (B8.trans (hb9.below B8.size HO.out)).trans (hbx.mono (Nat.le_trans B8.size hb9.size))
  obtain ⟨p0, p1⟩ := (V2.out.but hb9 n2.out).below hbx
  obtain ⟨q0, _⟩ := (V3.out.but hb9 n3.out).below hbx
  obtain ⟨r0, r1⟩ := (V7.out.but hb9 n7.out).below hbx
  obtain ⟨t0, _⟩ := two_box w9 (.int .i64 2) (.int .u64 g1) 36
  clear ha9 hb9 hc8 hbx H8 B8 V2 V3 V7 hg1
  have hc9 := write_a o hA dA7 0 0 1 _ H9.out (by decide)
  rw [aE8] at hc9
  generalize w9.heap.size = X9 at *
  go_wp2_with fail
  refine hc9.mono ?_
  rintro e w10 ⟨rfl, ha10, hb10⟩
  have B10 := B9.trans (hb10.below B9.size HO.out)
  clear ha10 hb10 hc9
  go_wp2_with fail
  go_ret
  exact ⟨rfl, B10⟩
end Go.Proofs.Ytobpignlamekmaa
