/- The example. -/
import Derived.Test.YtimmjhegeagofacVAct2
namespace Go.Proofs.Ytimmjhegeagofac
open Go.RowKit Go.Sort
set_option maxRecDepth 100000

theorem Bt.bx {p B : Nat} {w w' : World} {vs : List Value} (h : Bt p w w') (hx : Bx w B vs) (hne : B ≠ p) : Bx w' B vs := fun i v e => But.cell h (hx i v e) hne
theorem Bt.below {p B : Nat} {w w' : World} (h : Bt p w w') (hB : B ≤ w.heap.size) (hp : B ≤ p) : Below B w w' := But.below h hB fun k hk => by rw [hk]; exact hp
def al1 : Tb := mtT (newTb 2) 3 1
def al2 : Tb := dpT al1 65792
def al3 : Tb := mtT al2 3 1
set_option maxHeartbeats 4000000 in
theorem valive_any (w : World) : Calls Try.prog 8 #[] w fun e w' => e = .returned (.bool true) ∧ Below w.heap.size w w' := by
  have hN := tnew_any 2 w (by omega)
  have hM1 := fun W (hW : Tx W w.heap.size (newTb 2)) => tmint_any w.heap.size 3 1 (newTb 2) W hW (by omega) (by omega)
  rw [show mtI (newTb 2) 1 = 65792 from rfl, show mtE (newTb 2) 1 = 0 from rfl, show mtT (newTb 2) 3 1 = al1 from rfl] at hM1
  have hD := fun W (hW : Tx W w.heap.size al1) => tdrop_any w.heap.size 65792 al1 W hW (by omega) (by omega)
  rw [show dpE al1 65792 = 0 from rfl, show dpT al1 65792 = al2 from rfl] at hD
  have hM2 := fun W (hW : Tx W w.heap.size al2) => tmint_any w.heap.size 3 1 al2 W hW (by omega) (by omega)
  rw [show mtI al2 1 = 131328 from rfl, show mtE al2 1 = 0 from rfl, show mtT al2 3 1 = al3 from rfl] at hM2
  have hF1 := fun W (hW : Tx W w.heap.size al3) => tfind_any w.heap.size 65792 al3 W hW (by omega) (by omega)
  rw [show tkh al3 65792 = false from rfl, show fdP al3 65792 = pc0 from rfl] at hF1
  have hF2 := fun W (hW : Tx W w.heap.size al3) => tfind_any w.heap.size 131328 al3 W hW (by omega) (by omega)
  rw [show tkh al3 131328 = true from rfl, show fdP al3 131328 = ⟨3, 1, 2⟩ from rfl] at hF2
  go_enter Try.func8, Try.ntmps8
  go_wp2_with fail
  refine hN.mono ?_
  rintro e w1 ⟨rfl, hx1, hb1⟩
  have H1 : Hid (Tx w1 w.heap.size _) := hx1
  have B1 : Hid (Below w.heap.size w w1) := hb1
  have L1 : Hid (w.heap.size < w1.heap.size) := hx1.lt
  clear hN hx1 hb1
  have HX : Hid (Bx (w1.alloc (.cells #[.int .i64 3, .int .u8 1] 30)) w1.heap.size [.int .i64 3, .int .u8 1]) := cap_box w1 _ _
  have H2 : Hid (Tx (w1.alloc (.cells #[.int .i64 3, .int .u8 1] 30)) w.heap.size _) := H1.out.below (below_new _ _)
  have B2 : Hid (Below w.heap.size w (w1.alloc (.cells #[.int .i64 3, .int .u8 1] 30))) := Below.onto B1.out (below_new _ _)
  obtain ⟨q0, q1⟩ := HX.out.two
  have ql := HX.out.lt
  go_wp2_with fail
  generalize w1.alloc (.cells #[.int .i64 3, .int .u8 1] 30) = w2 at *
  refine (hM1 _ H2.out).mono ?_
  rintro e w3 ⟨rfl, hx3, hb3⟩
  have H3 : Hid (Tx w3 w.heap.size _) := hx3
  have HX3 : Hid (Bx w3 w1.heap.size [.int .i64 3, .int .u8 1]) := hb3.bx HX.out (by have := L1.out; omega)
  have B3 : Hid (Below w.heap.size w w3) := B2.out.trans (hb3.below B2.out.size (Nat.le_refl _))
  clear hM1 hx3 hb3 q0 q1 ql
  go_wp2_with fail
  refine (hD _ H3.out).mono ?_
  rintro e w4 ⟨rfl, hx4, hb4⟩
  have H4 : Hid (Tx w4 w.heap.size _) := hx4
  have HX4 : Hid (Bx w4 w1.heap.size [.int .i64 3, .int .u8 1]) := hb4.bx HX3.out (by have := L1.out; omega)
  have B4 : Hid (Below w.heap.size w w4) := B3.out.trans (hb4.below B3.out.size (Nat.le_refl _))
  obtain ⟨q0, q1⟩ := HX4.out.two
  have ql := HX4.out.lt
  clear hD hx4 hb4
  go_wp2_with fail
  refine (hM2 _ H4.out).mono ?_
  rintro e w5 ⟨rfl, hx5, hb5⟩
  have H5 : Hid (Tx w5 w.heap.size _) := hx5
  have HX5 : Hid (Bx w5 w1.heap.size [.int .i64 3, .int .u8 1]) := hb5.bx HX4.out (by have := L1.out; omega)
  have B5 : Hid (Below w.heap.size w w5) := B4.out.trans (hb5.below B4.out.size (Nat.le_refl _))
  clear hM2 hx5 hb5 q0 q1 ql
  go_wp2_with fail
  refine (hF1 _ H5.out).mono ?_
  rintro e w6 ⟨rfl, hb6⟩
  have H6 : Hid (Tx w6 w.heap.size _) := H5.out.below hb6
  have HX6 : Hid (Bx w6 w1.heap.size [.int .i64 3, .int .u8 1]) := HX5.out.below hb6
  have B6 : Hid (Below w.heap.size w w6) := Below.onto B5.out hb6
  clear hF1 hb6
  go_wp2_with fail
  have H7 : Hid (Tx (w6.alloc (.cells #[.int .i64 0, .int .u8 0] 30)) w.heap.size _) := H6.out.below (below_new _ _)
  have HX7 : Hid (Bx (w6.alloc (.cells #[.int .i64 0, .int .u8 0] 30)) w1.heap.size [.int .i64 3, .int .u8 1]) := HX6.out.below (below_new _ _)
  have B7 : Hid (Below w.heap.size w (w6.alloc (.cells #[.int .i64 0, .int .u8 0] 30))) := Below.onto B6.out (below_new _ _)
  have e7 : w6.alloc (.cells #[.int .i64 pc0.c, .int .u8 pc0.r] 30) = w6.alloc (.cells #[.int .i64 0, .int .u8 0] 30) := rfl
  try rw [e7]
  clear e7
  generalize w6.alloc (.cells #[.int .i64 0, .int .u8 0] 30) = w7 at *
  refine (hF2 _ H7.out).mono ?_
  rintro e w8 ⟨rfl, hb8⟩
  have HX8 : Hid (Bx w8 w1.heap.size [.int .i64 3, .int .u8 1]) := HX7.out.below hb8
  have B8 : Hid (Below w.heap.size w w8) := Below.onto B7.out hb8
  obtain ⟨q0, q1⟩ := HX8.out.two
  have ql := HX8.out.lt
  clear hF2 hb8
  go_wp2_with fail
  go_ret
  exact ⟨rfl, Below.onto B8.out (below_new _ _)⟩
end Go.Proofs.Ytimmjhegeagofac
