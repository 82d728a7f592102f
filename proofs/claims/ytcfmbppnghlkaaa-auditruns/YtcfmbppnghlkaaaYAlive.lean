/- The statements' head: the example. -/
import Derived.Test.YtcfmbppnghlkaaaYSame
namespace Go.Proofs.Ytcfmbppnghlkaaa
open Go.RowKit Go.Sort
set_option maxRecDepth 100000

set_option maxHeartbeats 1000000 in
theorem yrec (w : World) (t g : Int) : Calls Try.prog 27 #[.int .i64 t, .int .i64 g] w fun e w' => e = .returned (recV ⟨t, 0, g, 0⟩) ∧ Below w.heap.size w w' := by
  have h0 := blk_new w [.int .i64 0, .int .i64 0, .int .i64 0, .int .u64 0] 38
  have hb : Below w.heap.size w (w.alloc (.cells #[.int .i64 0, .int .i64 0, .int .i64 0, .int .u64 0] 38)) := (Below.refl _ w).alloc (Nat.le_refl _) _
  have q0 := h0.cell (i := 0) rfl
  have q1 := h0.cell (i := 1) rfl
  have q2 := h0.cell (i := 2) rfl
  have q3 := h0.cell (i := 3) rfl
  have qf := h0.fz
  have HB : Hid (Below w.heap.size w (w.alloc (.cells #[.int .i64 t, .int .i64 0, .int .i64 g, .int .u64 0] 38))) := (Below.refl _ w).alloc (Nat.le_refl _) _
  have h3 := blk_new w [.int .i64 t, .int .i64 0, .int .i64 g, .int .u64 0] 38
  have s0 := h3.cell (i := 0) rfl
  have s1 := h3.cell (i := 1) rfl
  have s2 := h3.cell (i := 2) rfl
  have s3 := h3.cell (i := 3) rfl
  clear h0 h3 hb
  go_enter Try.func27, Try.ntmps27
  go_wp2_with fail
  refine bodyPost_ret (v := recV ⟨t, 0, g, 0⟩) (by simp [results, Try.results27, go_sem, s0, s1, s2, s3, recV]) rfl ⟨rfl, HB.out⟩
/-- what stood there stays, where only later blocks are changed -/
theorem below_but {w0 w w' : World} {S : Nat → Prop} (h : Below w0.heap.size w0 w) (hb : But S w w') (hS : ∀ b, S b → w0.heap.size ≤ b) : Below w0.heap.size w0 w' :=
  ⟨hb.os.trans h.os, hb.tape.trans h.tape, hb.output.trans h.output, Nat.le_trans h.size hb.size, fun b hb' => (hb.block b (Nat.lt_of_lt_of_le hb' h.size) (fun hs => by have := hS b hs; omega)).trans (h.block b hb')⟩
/-- logs of one's own -/
structure Yw (w0 w : World) (p : Nat) (R : List Int) (L : List Rc) (o : Yo) : Prop where
  x : Yx w p o R L
  b : Below w0.heap.size w0 w
  ge : ∀ b, o.has R p b → w0.heap.size ≤ b
section
variable {w0 w w' : World} {p : Nat} {R : List Int} {L : List Rc} {o : Yo}
theorem Yw.below (y : Yw w0 w p R L o) (h : Below w.heap.size w w') : Yw w0 w' p R L o := ⟨y.x.below h, Below.onto y.b h, y.ge⟩
theorem Yw.add (y : Yw w0 w p R L o) {r : Rc} (hr : r.Ok) {er : Int} {L' : List Rc} (he : addE R L r = er) (hL : addL R L r = L') :
    Calls Try.prog 12 #[ptr p, recV r] w fun e w' => e = .returned (.int .i64 er) ∧ ∃ o', Yw w0 w' p R L' o' := by
  refine (yAdd w p o R L r y.x hr).mono ?_
  rintro e w' ⟨rfl, o', h1, h2, h3⟩
  rw [he]
  rw [hL] at h1
  exact ⟨rfl, o', h1, below_but y.b h2 y.ge, fun b hb => (h3 b hb).elim (y.ge b) (fun h => Nat.le_trans y.b.size h)⟩
end
theorem addL_ok {R : List Int} {L : List Rc} {r : Rc} (h : addE R L r = 0) : addL R L r = L ++ [r] := by unfold addL; rw [if_pos h]
theorem addL_no {R : List Int} {L : List Rc} {r : Rc} (h : addE R L r ≠ 0) : addL R L r = L := by unfold addL; rw [if_neg h]
abbrev xr1 : Rc := ⟨3, 0, 0, 0⟩
abbrev xr2 : Rc := ⟨4, 0, 1, 0⟩
abbrev xr3 : Rc := ⟨5, 0, 0, 0⟩
theorem xe1 : addE [1, 2] [] xr1 = 0 := by decide +kernel
theorem xe2 : addE [1, 2] [xr1] xr2 = 0 := by decide +kernel
theorem xe3 : addE [1, 2] [xr1, xr2] xr3 = 150 := by decide +kernel
theorem xall : allR [xr1, xr2] 3 = [xr1, xr2] := rfl
theorem xok (t g : Int) (h : -9223372036854775808 ≤ t ∧ t < 9223372036854775808) : Rc.Ok ⟨t, 0, g, 0⟩ := ⟨h, by show (-9223372036854775808 : Int) ≤ 0; decide, by show (0 : Int) < 9223372036854775808; decide⟩
set_option maxHeartbeats 4000000 in
theorem yalive (w : World) : Calls Try.prog 11 #[] w fun e w' => e = .returned (.bool true) ∧ Below w.heap.size w w' := by
  have hcells : Cells (w.alloc (.cells #[.int .i64 1, .int .i64 2] 3)) .i64 (some ⟨w.heap.size, 0, none⟩) 2 (atR [1, 2]) := by
    intro j hj
    refine ⟨_, _, rfl, ?_⟩
    rw [Nat.zero_add]
    match j, hj with
    | 0, _ => exact (blk_new w [.int .i64 1, .int .i64 2] 3).cell (i := 0) rfl
    | 1, _ => exact (blk_new w [.int .i64 1, .int .i64 2] 3).cell (i := 1) rfl
  have cN := yNew (w.alloc (.cells #[.int .i64 1, .int .i64 2] 3)) (some ⟨w.heap.size, 0, none⟩) 2 [1, 2] (by decide) hcells
  have hb0 : Below w.heap.size w (w.alloc (.cells #[.int .i64 1, .int .i64 2] 3)) := (Below.refl _ w).alloc (Nat.le_refl _) _
  have HB : Hid (Below w.heap.size w (w.alloc (.cells #[.int .i64 1, .int .i64 2] 3))) := hb0
  clear hcells hb0
  go_enter Try.func11, Try.ntmps11
  go_wp2_with fail
  refine cN.mono ?_
  rintro e w1 ⟨hb1, ⟨h, _⟩ | ⟨_, p, o, rfl, x1, hlo⟩⟩
  · exact absurd h (by decide)
  have Y1 : Hid (Yw w w1 p [1, 2] [] o) := ⟨x1, Below.onto HB.out hb1, fun b h => Nat.le_trans HB.out.size (hlo b h)⟩
  clear x1 hb1 hlo cN HB
  go_wp2_with fail
  refine (yrec _ 3 0).mono ?_
  rintro e w2 ⟨rfl, hb2⟩
  have cA := (Y1.out.below hb2).add (xok 3 0 (by decide)) xe1 (addL_ok xe1)
  clear hb2 Y1
  go_wp2_with fail
  refine cA.mono ?_
  rintro e w3 ⟨rfl, o3, y3⟩
  have Y3 : Hid (Yw w w3 p [1, 2] [xr1] o3) := y3
  clear cA y3
  go_wp2_with fail
  refine (yrec _ 4 1).mono ?_
  rintro e w4 ⟨rfl, hb4⟩
  have cA := (Y3.out.below hb4).add (xok 4 1 (by decide)) xe2 (addL_ok xe2)
  clear hb4 Y3
  go_wp2_with fail
  refine cA.mono ?_
  rintro e w5 ⟨rfl, o5, y5⟩
  have Y5 : Hid (Yw w w5 p [1, 2] [xr1, xr2] o5) := y5
  clear cA y5
  go_wp2_with fail
  refine (yrec _ 5 0).mono ?_
  rintro e w6 ⟨rfl, hb6⟩
  have cA := (Y5.out.below hb6).add (xok 5 0 (by decide)) xe3 (addL_no (by rw [xe3]; decide))
  clear hb6 Y5
  go_wp2_with fail
  refine cA.mono ?_
  rintro e w7 ⟨rfl, o7, y7⟩
  have Y7 : Hid (Yw w w7 p [1, 2] [xr1, xr2] o7) := y7
  have cL := yLeft w7 p o7 [1, 2] [xr1, xr2] y7.x 1 ⟨by decide, by decide⟩
  rw [show (atR [1, 2] (1 : Int).toNat - ((ownR [xr1, xr2] (1 : Int).toNat).length : Int)) = 1 by decide +kernel] at cL
  clear cA y7
  go_wp2_with fail
  refine cL.mono ?_
  rintro e w8 ⟨rfl, hb8⟩
  have y8 := Y7.out.below hb8
  have cAll := yAll w8 p o7 [1, 2] [xr1, xr2] y8.x 3 ⟨by decide, by decide⟩
  rw [xall] at cAll
  have Y8 : Hid (Yw w w8 p [1, 2] [xr1, xr2] o7) := y8
  clear hb8 y8 cL Y7
  go_wp2_with fail
  refine cAll.mono ?_
  rintro e w9 ⟨u, rfl, ho, hb9⟩
  obtain ⟨ua, uc, rfl, hu⟩ := rcAt_own ho
  have H9 : Hid (RcAt w9 ua [xr1, xr2] ∧ Below w.heap.size w w9) := ⟨hu, Below.onto Y8.out.b hb9⟩
  clear cAll ho hb9 hu Y8
  go_wp2_with fail
  refine (yrec _ 3 0).mono ?_
  rintro e w10 ⟨rfl, hb10⟩
  have H10 : Hid (RcAt w10 ua [xr1, xr2] ∧ Below w.heap.size w w10) := ⟨H9.out.1.below hb10, Below.onto H9.out.2 hb10⟩
  clear hb10 H9
  go_wp2_with fail
  refine (yrec _ 4 1).mono ?_
  rintro e w11 ⟨rfl, hb11⟩
  have H11 : Hid (RcAt w11 ua [xr1, xr2] ∧ Below w.heap.size w w11) := ⟨H10.out.1.below hb11, Below.onto H10.out.2 hb11⟩
  clear hb11 H10
  have hbx : Below w11.heap.size w11 (w11.alloc (.cells (encRs [xr1, xr2]).toArray 38)) := (Below.refl _ w11).alloc (Nat.le_refl _) _
  have hn := blk_new w11 (encRs [xr1, xr2]) 38
  have hrow : RcAt (w11.alloc (.cells (encRs [xr1, xr2]).toArray 38)) (some ⟨w11.heap.size, 0, none⟩) [xr1, xr2] := fun j r hr => ⟨_, 0, rfl, fun k v hv => by
    have := hn.cell (encRs_at _ _ _ hr k v hv)
    rw [show 0 + j * 4 + k = 4 * j + k by omega]
    exact this⟩
  have cS := ySame ua (some ⟨w11.heap.size, 0, none⟩) uc 2 [xr1, xr2] [xr1, xr2] _ (by decide) (H11.out.1.below hbx) hrow
  have HB : Hid (Below w.heap.size w (w11.alloc (.cells (encRs [xr1, xr2]).toArray 38))) := Below.onto H11.out.2 hbx
  clear hbx hn hrow H11
  go_wp2_with fail
  refine cS.mono ?_
  rintro e w12 ⟨t, rfl, ht, hb12⟩
  obtain rfl : t = true := ht.2 trivial
  have HE : Hid (Below w.heap.size w w12) := Below.onto HB.out hb12
  clear ht hb12 cS HB
  go_wp2_with fail
  go_ret
  exact ⟨rfl, HE.out⟩
end Go.Proofs.Ytcfmbppnghlkaaa
