/- AuditNobody, walked. -/
import Derived.Test.YtcfmbppnghlkaaaYAlive
import Derived.Test.YtcfmbppnghlkaaaUMem
namespace Go.Proofs.Ytcfmbppnghlkaaa
open Go.RowKit Go.Sort Go.Shelf
set_option maxRecDepth 100000

theorem nb_zero (w : World) : NbL (w.alloc (.cells #[.slice none 0 0] 57)) (ptr w.heap.size) := .inr ⟨_, rfl, blk_new w [.slice none 0 0] _⟩
set_option maxHeartbeats 8000000 in
theorem ynobody (r : Rc) (w : World) : Calls Try.prog 7 #[recV r] w fun e w' => e = .returned (.bool true) ∧ Below w.heap.size w w' := by
  have hb0 := bxQ_below w r
  have r0 := bxQ_blk w r
  obtain ⟨w1, hw1⟩ : ∃ w1, bxQ w r = w1 := ⟨_, rfl⟩
  rw [hw1] at hb0 r0
  have hb1 : Below w1.heap.size w1 (w1.alloc (.cells #[.slice none 0 0] 57)) := (Below.refl _ w1).alloc (Nat.le_refl _) _
  have z1 := nb_zero w1
  have s1 : (w1.alloc (.cells #[.slice none 0 0] 57)).heap.size = w1.heap.size + 1 := by simp
  obtain ⟨w2, hw2⟩ : ∃ w2, w1.alloc (.cells #[.slice none 0 0] 57) = w2 := ⟨_, rfl⟩
  rw [hw2] at hb1 z1 s1
  have hb2 : Below w2.heap.size w2 (w2.alloc (.cells #[.pointer none, ptr w1.heap.size] 28)) := (Below.refl _ w2).alloc (Nat.le_refl _) _
  have l2 := blk_new w2 [.pointer none, ptr w1.heap.size] 28
  obtain ⟨w3, hw3⟩ : ∃ w3, w2.alloc (.cells #[.pointer none, ptr w1.heap.size] 28) = w3 := ⟨_, rfl⟩
  rw [hw3] at hb2
  have l3 : Blk w3 w2.heap.size 28 [.pointer none, ptr w1.heap.size] := by rw [← hw3]; exact l2
  have HX : Hid (Below w.heap.size w w3 ∧ Blk w3 w.heap.size 38 [.int .i64 r.t, .int .i64 r.s, .int .i64 r.g, .int .u64 r.p] ∧ Blk w3 w2.heap.size 28 [.pointer none, ptr w1.heap.size] ∧ NbL w3 (ptr w1.heap.size)) :=
    ⟨Below.onto (Below.onto hb0 hb1) hb2, (r0.below hb1).below hb2, l3, z1.below hb2⟩
  rw [s1] at HX
  clear hb0 r0 hb1 z1 hb2 l2 l3
  unfold bxQ at hw1
  unfold recV
  go_enter Try.func7, Try.ntmps7
  go_wp2_with fail
  clear hw1 hw2 hw3 s1
  generalize w1.heap.size = N1 at *
  go_loopw [15] (fun i wr => ∃ j : Nat, j ≤ 2 ∧ i = .int .i64 j ∧ Hid (Below w3.heap.size w3 wr)) (fun i _ => 2 - (intOf i).toNat)
  case atStart => exact ⟨0, by omega, rfl, Below.refl _ _⟩
  case round =>
    obtain ⟨j, hj, rfl, hM⟩ := hrel
    by_cases hlt : j < 2
    · obtain ⟨P, hP, hnb⟩ : ∃ P, wr.cell? ⟨N1 + 1, j, none⟩ = some P ∧ NbL wr P := by
        have hl := HX.out.2.2.1.below hM.out
        match j, hlt with
        | 0, _ => exact ⟨_, hl.cell (i := 0) rfl, .inl rfl⟩
        | 1, _ => exact ⟨_, hl.cell (i := 1) rfl, HX.out.2.2.2.below hM.out⟩
      have cL := yLeft_bad wr P 0 4 (by decide) (ylog_no wr P hnb 0)
      go_wp2_with fail
      refine cL.mono ?_
      rintro e w4 ⟨rfl, hw4⟩
      subst hw4
      clear cL hP
      go_wp2_with fail
      refine (yLast_no _ P hnb).mono ?_
      rintro e w5 ⟨rfl, hb5⟩
      have hb6 : Below w5.heap.size w5 (bxZ w5) := bxZ_below w5
      have l6 := bxZ_blk w5
      have H6 : Hid (Below w3.heap.size w3 (bxZ w5) ∧ NbL (bxZ w5) P) := ⟨Below.onto (Below.onto hM.out hb5) hb6, (hnb.below hb5).below hb6⟩
      have r6 := HX.out.2.1.below H6.out.1
      have z0 := l6.cell (i := 0) rfl
      have z1 := l6.cell (i := 1) rfl
      have z2 := l6.cell (i := 2) rfl
      have z3 := l6.cell (i := 3) rfl
      have zf := l6.fz
      clear hb5 hb6 hnb hM
      unfold bxZ recV rec0 at *
      go_wp2_with fail
      generalize w5.alloc (.cells #[.int .i64 0, .int .i64 0, .int .i64 0, .int .u64 0] 38) = w6 at *
      have q0 := regrown_call (w := w6) fun W hW => yAdd_no W P (H6.out.2.below hW) r
      have q1 := regrown_call (w := w6) fun W hW => (yOf_bad W P 0 4 (by decide) (ylog_no W P (H6.out.2.below hW) 0)).mono fun e w' h => ⟨h.1, by rw [h.2]; exact Below.refl _ _⟩
      have q2 := regrown_call (w := w6) fun W hW => yAll_no W P (H6.out.2.below hW) 1
      have q3 := regrown_call (w := w6) fun W hW => yUpto_no W P (H6.out.2.below hW) r.t r.s
      have r0 := cell_regrown (r6.cell (i := 0) rfl)
      have r1 := cell_regrown (r6.cell (i := 1) rfl)
      have r2 := cell_regrown (r6.cell (i := 2) rfl)
      have r3 := cell_regrown (r6.cell (i := 3) rfl)
      have z0 := cell_regrown z0
      have z1 := cell_regrown z1
      have z2 := cell_regrown z2
      have z3 := cell_regrown z3
      clear r6 zf
      refine wp_region_quiet_below (by kernel_rfl) (by kernel_rfl) ?_
      repeat (go_big_quiet_step (first | with_reducible exact q0 _ _ | with_reducible exact q1 _ _ | with_reducible exact q2 _ _ | with_reducible exact q3 _ _))
      refine wpQuiet_nil ?_
      intro _ hw'
      obtain ⟨⟨dq, osq⟩, hw''⟩ := hw'
      subst hw''
      have HE : Hid (Below w3.heap.size w3 (grow (redrawn w6 dq) osq)) := Below.onto H6.out.1 (below_regrown _ _ _)
      clear q0 q1 q2 q3 r0 r1 r2 r3 z0 z1 z2 z3
      go_wp2_with fail
      go_roundw
      case rel => exact ⟨j + 1, by omega, by go_num, HE.out⟩
      case measure => simp [intOf]; omega
    · obtain rfl : j = 2 := by omega
      go_wp2_with fail
      refine (yalive _).mono ?_
      rintro e w9 ⟨rfl, hb9⟩
      have HE : Hid (Below w.heap.size w w9) := Below.onto (Below.onto HX.out.1 hM.out) hb9
      clear hb9
      go_wp2_with fail
      go_ret
      exact ⟨rfl, HE.out⟩
end Go.Proofs.Ytcfmbppnghlkaaa
