/- The statements' example. -/
import Derived.Test.YtafcgbahdfaiiaaERefF
namespace Go.Proofs.Ytafcgbahdfaiiaa
open Go.RowKit Go.Sort
set_option maxRecDepth 100000

theorem eels {w w1 w2 : World} {Y : Nat → Prop} (h : Below w.heap.size w w1) (k : But (Els Y) w1 w2) (hY : ∀ b, b < w.heap.size → Y b) : Below w.heap.size w w2 :=
  ⟨k.os.trans h.os, k.tape.trans h.tape, k.output.trans h.output, Nat.le_trans h.size k.size, fun b hb => (k.block b (Nat.lt_of_lt_of_le hb h.size) (fun hn => hn (hY b hb))).trans (h.block b hb)⟩
set_option maxHeartbeats 1000000 in
theorem ething (k : Int) (w : World) : Calls Try.prog 38 #[.int .i8 k] w fun v w' => v = .returned (thV k 0) ∧ Below w.heap.size w w' := by
  have HB : Hid (Below w.heap.size w (bxT w)) := (Below.refl _ w).alloc (Nat.le_refl _) _
  have hR := bxT_blk w
  have r0 := hR.cell (i := 0) rfl
  have r1 := hR.cell (i := 1) rfl
  have rf := hR.fz
  have hr5 := (hR.set 0 (.int .i8 k)).set 1 (.int .i64 0)
  have s0 := hr5.cell (i := 0) (v := .int .i8 k) rfl
  have s1 := hr5.cell (i := 1) (v := .int .i64 0) rfl
  obtain ⟨w1, hw1⟩ : ∃ w1, bxT w = w1 := ⟨_, rfl⟩
  rw [hw1] at HB r0 r1 rf s0 s1
  unfold bxT at hw1
  clear hR hr5
  generalize hN : w.heap.size = N at *
  go_enter Try.func38, Try.ntmps38
  go_wp2_with fail
  exact bodyPost_ret (v := thV k 0) (by simp [results, Try.results38, go_sem, s0, s1]) rfl ⟨rfl, (HB.out.setCell (Nat.le_refl _) _).setCell (Nat.le_refl _) _⟩
theorem nilA (p : Nat) (W : World) : (binOp .eql 23 (ptr p) (.pointer none)).run Try.prog W = .ok (.bool false) W := by kernel_rfl
theorem isB_d3 {e : En} (h : IsB [⟨5, 0, 1⟩, ⟨3, 0, 2⟩, ⟨5, 0, 3⟩] e) : e = ⟨3, 0, 2⟩ := by
  have h2 := h.2 ⟨3, 0, 2⟩ (by simp)
  have h1 := h.1
  simp at h1
  rcases h1 with rfl | rfl | rfl <;> simp [bef] at h2 ⊢
theorem isB_d4 {e : En} (h : IsB [⟨5, 0, 1⟩, ⟨9, 0, 2⟩, ⟨5, 0, 3⟩] e) : e = ⟨5, 0, 1⟩ := by
  have h2 := h.2 ⟨5, 0, 1⟩ (by simp)
  have h1 := h.1
  simp at h1
  rcases h1 with rfl | rfl | rfl <;> simp [bef] at h2 ⊢
theorem isB_d5 {e : En} (h : IsB [⟨9, 0, 2⟩, ⟨5, 0, 3⟩] e) : e = ⟨5, 0, 3⟩ := by
  have h2 := h.2 ⟨5, 0, 3⟩ (by simp)
  have h1 := h.1
  simp at h1
  rcases h1 with rfl | rfl <;> simp [bef] at h2 ⊢

set_option maxHeartbeats 4000000 in
theorem ealive (w : World) : Calls Try.prog 16 #[] w fun v w' => v = .returned (.bool true) ∧ Below w.heap.size w w' := by
  have cN := newA lessL w lessOk trivial
  have hnf := nilA
  change Calls Try.prog _ #[.func (.func 9) #[] #[]] w _ at cN
  go_enter Try.func16, Try.ntmps16
  go_wp2_with fail
  refine cN.mono ?_
  rintro v w1 ⟨p, rfl, a1, _, b1⟩
  have A1 : Hid (Ag lessL w1 p [] 0 (fun b => b < w.heap.size)) := a1.less fun _ h => ⟨h, fun h' => h'⟩
  have B1 : Hid (Below w.heap.size w w1) := b1
  clear cN a1 b1
  have cT := ething 5 w1
  go_wp2_with fail
  refine cT.mono ?_
  rintro v w2 ⟨rfl, b2⟩
  have a2 := A1.out.below b2
  have B2 : Hid (Below w.heap.size w w2) := Below.onto B1.out b2
  clear cT b2
  have cP := pushA a2 (by omega) 5 0 (by omega)
  go_wp2_with fail
  refine cP.mono ?_
  rintro v w3 ⟨rfl, a3, b3⟩
  have A3 : Hid (Ag lessL w3 p [⟨5, 0, 1⟩] 1 (fun b => b < w.heap.size)) := a3
  have B3 : Hid (Below w.heap.size w w3) := eels B2.out b3 fun _ h => h
  clear cP a2 a3 b3
  have cT := ething 3 w3
  go_wp2_with fail
  refine cT.mono ?_
  rintro v w4 ⟨rfl, b4⟩
  have a4 := A3.out.below b4
  have B4 : Hid (Below w.heap.size w w4) := Below.onto B3.out b4
  clear cT b4
  have cP := pushA a4 (by omega) 3 0 (by omega)
  go_wp2_with fail
  refine cP.mono ?_
  rintro v w5 ⟨rfl, a5, b5⟩
  have A5 : Hid (Ag lessL w5 p [⟨5, 0, 1⟩, ⟨3, 0, 2⟩] 2 (fun b => b < w.heap.size)) := a5
  have B5 : Hid (Below w.heap.size w w5) := eels B4.out b5 fun _ h => h
  clear cP a4 a5 b5
  have cT := ething 5 w5
  go_wp2_with fail
  refine cT.mono ?_
  rintro v w6 ⟨rfl, b6⟩
  have a6 := A5.out.below b6
  have B6 : Hid (Below w.heap.size w w6) := Below.onto B5.out b6
  clear cT b6
  have cP := pushA a6 (by omega) 5 0 (by omega)
  go_wp2_with fail
  refine cP.mono ?_
  rintro v w7 ⟨rfl, a7, b7⟩
  have A7 : Hid (Ag lessL w7 p [⟨5, 0, 1⟩, ⟨3, 0, 2⟩, ⟨5, 0, 3⟩] 3 (fun b => b < w.heap.size)) := a7
  have B7 : Hid (Below w.heap.size w w7) := eels B6.out b7 fun _ h => h
  clear cP a6 a7 b7
  have cF := firstA A7.out (by simp)
  go_wp2_with fail
  refine cF.mono ?_
  rintro v w8 ⟨e, ⟨_, he⟩, rfl, a8, b8⟩
  obtain rfl := isB_d3 (he trivial)
  have B8 : Hid (Below w.heap.size w w8) := eels B7.out b8 fun _ h => h
  have A9 : Hid (Ag lessL (bxV w8 3 0) p [⟨5, 0, 1⟩, ⟨3, 0, 2⟩, ⟨5, 0, 3⟩] 3 (fun b => b < w.heap.size ∨ b = w8.heap.size)) := a8.box _
  have hb9 : Below w8.heap.size w8 (bxV w8 3 0) := (Below.refl _ w8).alloc (Nat.le_refl _) _
  have B9 : Hid (Below w.heap.size w (bxV w8 3 0)) := Below.onto B8.out hb9
  have M9 : Hid (Blk (bxV w8 3 0) w8.heap.size 27 [.int .i8 3, .int .i64 0]) := blk_new w8 _ _
  clear cF a8 b8 hb9 he
  have cT := ething 9 (bxV w8 3 0)
  unfold thV at *
  go_wp2_with fail
  unfold bxV at *
  generalize w8.alloc (.cells #[.int .i8 3, .int .i64 0] 27) = w9 at *
  generalize w8.heap.size = N at *
  refine cT.mono ?_
  rintro v w10 ⟨rfl, b10⟩
  have a10 := A9.out.below b10
  have B10 : Hid (Below w.heap.size w w10) := Below.onto B9.out b10
  have M10 : Hid (Blk w10 N 27 [.int .i8 3, .int .i64 0]) := M9.out.below b10
  clear cT b10
  have cS := setA a10 9 0 (by omega) (e := ⟨3, 0, 2⟩) (by simp)
  rw [show setD [⟨5, 0, 1⟩, ⟨3, 0, 2⟩, ⟨5, 0, 3⟩] (⟨3, 0, 2⟩ : En).n 9 0 = [⟨5, 0, 1⟩, ⟨9, 0, 2⟩, ⟨5, 0, 3⟩] from rfl] at cS
  go_wp2_with fail
  refine cS.mono ?_
  rintro v w11 ⟨rfl, a11, b11⟩
  have A11 : Hid (Ag lessL w11 p [⟨5, 0, 1⟩, ⟨9, 0, 2⟩, ⟨5, 0, 3⟩] 3 (fun b => b < w.heap.size ∨ b = N)) := a11
  have B11 : Hid (Below w.heap.size w w11) := eels B10.out b11 fun _ h => .inl h
  have M11 : Hid (Blk w11 N 27 [.int .i8 3, .int .i64 0]) := M10.out.but b11 fun h => h (.inr rfl)
  clear cS a10 a11 b11
  have cF := firstA A11.out (by simp)
  go_wp2_with fail
  refine cF.mono ?_
  rintro v w12 ⟨e, ⟨_, he⟩, rfl, a12, b12⟩
  obtain rfl := isB_d4 (he trivial)
  have hb13 : Below w12.heap.size w12 (bxV w12 5 0) := (Below.refl _ w12).alloc (Nat.le_refl _) _
  have A13 : Hid (Ag lessL (bxV w12 5 0) p [⟨5, 0, 1⟩, ⟨9, 0, 2⟩, ⟨5, 0, 3⟩] 3 (fun b => b < w.heap.size ∨ b = N)) := a12.below hb13
  have B13 : Hid (Below w.heap.size w (bxV w12 5 0)) := Below.onto (eels B11.out b12 fun _ h => .inl h) hb13
  have M13 : Hid (Blk (bxV w12 5 0) N 27 [.int .i8 3, .int .i64 0]) := (M11.out.but b12 fun h => h (.inr rfl)).below hb13
  clear cF a12 b12 hb13 he
  have cD := dropA A13.out (e := ⟨5, 0, 1⟩) (by simp)
  rw [show dropD [⟨5, 0, 1⟩, ⟨9, 0, 2⟩, ⟨5, 0, 3⟩] (⟨5, 0, 1⟩ : En).n = [⟨9, 0, 2⟩, ⟨5, 0, 3⟩] from rfl] at cD
  go_wp2_with fail
  unfold bxV at *
  generalize w12.alloc (.cells #[.int .i8 5, .int .i64 0] 27) = w13 at *
  refine cD.mono ?_
  rintro v w14 ⟨rfl, a14, b14⟩
  have A14 : Hid (Ag lessL w14 p [⟨9, 0, 2⟩, ⟨5, 0, 3⟩] 3 (fun b => b < w.heap.size ∨ b = N)) := a14
  have B14 : Hid (Below w.heap.size w w14) := eels B13.out b14 fun _ h => .inl h
  have M14 : Hid (Blk w14 N 27 [.int .i8 3, .int .i64 0]) := M13.out.but b14 fun h => h (.inr rfl)
  clear cD a14 b14
  have cF := firstA A14.out (by simp)
  go_wp2_with fail
  refine cF.mono ?_
  rintro v w15 ⟨e, ⟨_, he⟩, rfl, a15, b15⟩
  obtain rfl := isB_d5 (he trivial)
  have hb16 : Below w15.heap.size w15 (bxV w15 5 0) := (Below.refl _ w15).alloc (Nat.le_refl _) _
  have B16 : Hid (Below w.heap.size w (bxV w15 5 0)) := Below.onto (eels B14.out b15 fun _ h => .inl h) hb16
  have m16 := (M14.out.but b15 fun h => h (.inr rfl)).below hb16
  have c0 := cell_regrown (m16.cell (i := 0) rfl)
  have c1 := cell_regrown (m16.cell (i := 1) rfl)
  have cL := ercalls (w := bxV w15 5 0) fun W _ => ething 3 W
  clear cF a15 b15 hb16 he m16
  unfold thV at *
  go_wp2_with fail
  unfold bxV at *
  generalize w15.alloc (.cells #[.int .i8 5, .int .i64 0] 27) = w16 at *
  refine wp_region_quiet_below (by kernel_rfl) (by kernel_rfl) ?_
  repeat (go_big_quiet_step (with_reducible exact cL _ _))
  refine wpQuiet_nil ?_
  intro _ hw'
  obtain ⟨⟨dq, osq⟩, hw''⟩ := hw'
  subst hw''
  have HB5 : Hid (Below w.heap.size w _) := Below.onto B16.out (below_regrown _ dq osq)
  go_wp2_with fail
  go_ret
  exact ⟨rfl, HB5.out⟩
end Go.Proofs.Ytafcgbahdfaiiaa
