/- What calls of a lane do: those that only read, and those that write its block. -/
import Derived.Test.YtilahfomiofgcaaJState
import Derived.Test.YtilahfomiofgcaaJQuiet
namespace Go.Proofs.Ytilahfomiofgcaa
open Go.RowKit Go.Sort
set_option maxRecDepth 100000

theorem staI_laid (A : La) (q e : Int) : (staI A q e = 3) = (laidB A q e = true) := by
  unfold staI
  by_cases he : e = A.ep
  · rw [if_pos he]
    cases hC : inC A q e
    · have : laidB A q e = false := by simp [laidB, hC]
      rw [this]
      simp only [Bool.false_eq_true, if_false]
      split
      · simp
      · split <;> simp
    · cases laidB A q e <;> simp
  · have : laidB A q e = false := by simp [laidB, inC, he]
    rw [if_neg he, this]; simp

set_option maxHeartbeats 2000000 in
theorem jlacks (o : Lo) (A : La) (q e : Int) (w : World) (x : Lx w o A) (q0 : 0 ≤ q) (q1 : q < 18446744073709551616) :
    Calls Try.prog 32 #[o.ptr, tkV q e] w fun v w' => v = .returned (.int .i64 (lackE A q e)) ∧ Below w.heap.size w w' := by
  have HX : Hid (Lx w o A) := x
  have HB : Hid (Below w.heap.size w (w.alloc (.cells #[.int .u64 q, .int .u64 e] 34))) := (Below.refl _ w).alloc (Nat.le_refl _) _
  obtain ⟨b0, b1, _⟩ := jbox2 (w := w) (x := .int .u64 q) (y := .int .u64 e) (T := 34) (Below.refl _ _)
  obtain ⟨B, hB⟩ : ∃ B, w.heap.size = B := ⟨_, rfl⟩
  obtain ⟨w1, hw1⟩ : ∃ w1, w.alloc (.cells #[.int .u64 q, .int .u64 e] 34) = w1 := ⟨_, rfl⟩
  have cS := jstate o A q e w1 (x.below (hw1 ▸ HB.out)) q0 q1
  have hx1 := x.below (hw1 ▸ HB.out)
  have E3 := staI_laid A q e
  have E : Hid (lackE A q e = if laidB A q e then (if q = sqI A.st A.r then 0 else 83) else 82) := rfl
  have HB1 : Hid (Below w.heap.size w w1) := hw1 ▸ HB.out
  rw [hw1, hB] at b0 b1
  clear x HB
  unfold tkV at *
  go_enter Try.func32, Try.ntmps32
  go_wp2_with fail
  clear hw1
  refine (jis o A _ hx1).mono ?_
  rintro v w' ⟨rfl, hw'⟩
  subst hw'
  go_wp2_with fail
  refine cS.mono ?_
  rintro v w2 ⟨rfl, hb⟩
  have t0 := (hb.cell (p := ⟨B, 0, none⟩) (cell_lt b0)).trans b0
  have r0 := cell_regrown t0
  have r4 := cell_regrown (hx1.below hb).lc.c4
  have HB2 : Hid (Below w.heap.size w w2) := Below.onto HB1.out hb
  have E' := E.out
  clear hb b0 b1 t0 hx1 HX cS HB1
  generalize sqI A.st A.r = qr at *
  generalize staI A q e = s at *
  cases hl : laidB A q e
  · have hs : ¬ s = 3 := by rw [E3, hl]; simp
    rw [hl] at E'
    simp only [Bool.false_eq_true, if_false] at E'
    clear E E3 hl
    go_wp2_with fail
    go_ret
    exact ⟨by rw [E']; rfl, HB2.out⟩
  · have hs : s = 3 := by rw [E3, hl]
    subst hs
    rw [hl] at E'
    simp only [if_true] at E'
    clear E E3 hl
    by_cases hq : q = qr
    · rw [if_pos hq] at E'
      subst hq
      go_wp2_with fail
      refine wp_region_quiet_below (by kernel_rfl) (by kernel_rfl) ?_
      repeat (go_big_quiet_step (fail))
      refine wpQuiet_nil ?_
      intro _ hw'
      obtain ⟨⟨dq, osq⟩, hw''⟩ := hw'
      subst hw''
      go_wp2_with fail
      go_ret
      exact ⟨by rw [E']; rfl, Below.onto HB2.out (below_regrown w2 dq osq)⟩
    · rw [if_neg hq] at E'
      go_wp2_with fail
      refine wp_region_quiet_below (by kernel_rfl) (by kernel_rfl) ?_
      repeat (go_big_quiet_step (fail))
      refine wpQuiet_nil ?_
      intro _ hw'
      obtain ⟨⟨dq, osq⟩, hw''⟩ := hw'
      subst hw''
      go_wp2_with fail
      go_ret
      exact ⟨by rw [E']; rfl, Below.onto HB2.out (below_regrown w2 dq osq)⟩

set_option maxHeartbeats 1000000 in
theorem jready (o : Lo) (A : La) (q e : Int) (w : World) (x : Lx w o A) (q0 : 0 ≤ q) (q1 : q < 18446744073709551616) :
    Calls Try.prog 15 #[o.ptr, tkV q e] w fun v w' => v = .returned (.bool (decide (lackE A q e = 0))) ∧ Below w.heap.size w w' := by
  have HB : Hid (Below w.heap.size w (w.alloc (.cells #[.int .u64 q, .int .u64 e] 34))) := (Below.refl _ w).alloc (Nat.le_refl _) _
  have cS := jlacks o A q e _ (x.below HB.out) q0 q1
  generalize lackE A q e = s at *
  clear x
  unfold tkV at *
  go_enter Try.func15, Try.ntmps15
  go_wp2_with fail
  refine cS.mono ?_
  rintro v w2 ⟨rfl, hb⟩
  go_wp2_with fail
  go_ret
  exact ⟨rfl, Below.onto HB.out hb⟩

/-- what a lane's state says -/
def staV (A : La) : Value := .agg #[.int .i64 (leftI A), .int .i64 (A.C.length : Int), .int .i64 (A.P.length : Int), .int .i64 ((A.T.filter is3).length : Int), .int .i64 ((A.T.filter is4).length : Int), .int .u64 A.ep]
set_option maxHeartbeats 2000000 in
theorem jState (o : Lo) (A : La) (w : World) (x : Lx w o A) :
    Calls Try.prog 8 #[o.ptr] w fun v w' => v = .returned (staV A) ∧ Below w.heap.size w w' := by
  have HB : Hid (Below w.heap.size w (w.alloc (.cells #[.int .i64 0, .int .i64 0, .int .i64 0, .int .i64 0, .int .i64 0, .int .u64 0] 42))) := (Below.refl _ w).alloc (Nat.le_refl _) _
  have x1 := x.below HB.out
  obtain ⟨w1, hw1⟩ : ∃ w1, w.alloc (.cells #[.int .i64 0, .int .i64 0, .int .i64 0, .int .i64 0, .int .i64 0, .int .u64 0] 42) = w1 := ⟨_, rfl⟩
  rw [hw1] at x1
  have b6 : ∀ i, i < 6 → w1.cell? ⟨w.heap.size, i, none⟩ = some (if i = 5 then .int .u64 0 else .int .i64 0) := fun i hi => by
    rw [← hw1, jnew_at w _ _ i (by simpa using hi)]
    match i, hi with
    | 0, _ => rfl
    | 1, _ => rfl
    | 2, _ => rfl
    | 3, _ => rfl
    | 4, _ => rfl
    | 5, _ => rfl
  have bf : ∀ W, Below w1.heap.size w1 W → ∀ i, W.frozen? ⟨w.heap.size, i, none⟩ = false := fun W hW => jnew_fz (hw1 ▸ hW)
  have HB1 : Hid (Below w.heap.size w w1) := hw1 ▸ HB.out
  obtain ⟨B, hB⟩ : ∃ B, w.heap.size = B := ⟨_, rfl⟩
  rw [hB] at b6 bf
  obtain ⟨a, cap, hv⟩ := own_form x1.hd
  have e1 : ((A.T.filter is3).length : Int) = (o.tl.length : Int) := by rw [x1.tp.length_eq]
  have e2 : ((A.T.filter is4).length : Int) = (o.hl.length : Int) := by rw [x1.hp.length_eq]
  have h1 := x1.ok.hr
  have h2 := x1.ok.bd
  have h3 := x1.tl_len
  have hw5 : IntKind.u64.wrap (sqI A.st A.c - sqI A.st A.r) = (A.C.length : Int) := by rw [lessI_wrap, sq_less (by omega) (by omega)]; congr 1; omega
  have hw4 : IntKind.u64.wrap (sqI A.st A.r - sqI A.st A.h) = (A.P.length : Int) := by rw [lessI_wrap, sq_less (by omega) (by omega)]; congr 1; omega
  have r2 := cell_regrown x1.lc.c2
  have r3 := cell_regrown x1.lc.c3
  have r4 := cell_regrown x1.lc.c4
  have r5 := cell_regrown x1.lc.c5
  have rm := cell_regrown x1.lc.cm
  have rh := cell_regrown x1.lc.ch
  rw [hv] at rh
  have hl := fun ty d os => (x1.mp.same (w' := grow (redrawn w1 d) os) ((below_regrown w1 d os).block _ x1.mp.lt)).len ty
  have cL := jregrown (w := w1) fun W hW => jleft o A W (x1.below hW)
  have E : Hid (staV A = .agg #[.int .i64 (leftI A), .int .i64 (A.C.length : Int), .int .i64 (A.P.length : Int), .int .i64 (o.tl.length : Int), .int .i64 (o.hl.length : Int), .int .u64 A.ep]) := by show _ = _; unfold staV; rw [e1, e2]
  have cI := jis o A w1 x1
  clear x e1 e2 hv x1
  generalize leftI A = lI at *
  generalize sqI A.st A.c = qc at *
  generalize sqI A.st A.h = qh at *
  generalize sqI A.st A.r = qr at *
  go_enter Try.func8, Try.ntmps8
  go_wp2_with fail
  refine cI.mono ?_
  rintro v w' ⟨rfl, hw'⟩
  subst hw'
  go_wp2_with fail
  clear hw1 cI HB
  refine wp_region_quiet_last (by simp) (by kernel_rfl) (by kernel_rfl) (by kernel_rfl) ?_
  dsimp only [List.dropLast, List.getLast]
  repeat (go_big_quiet_step (with_reducible exact cL _ _))
  refine wpQuiet_nil ?_
  intro _ hw'
  obtain ⟨⟨dq, osq⟩, hw''⟩ := hw'
  subst hw''
  have hb3 := below_regrown w' dq osq
  have k0 := (hb3.cell (p := ⟨B, 0, none⟩) (cell_lt (b6 0 (by decide)))).trans (b6 0 (by decide))
  have k1 := (hb3.cell (p := ⟨B, 1, none⟩) (cell_lt (b6 0 (by decide)))).trans (b6 1 (by decide))
  have k2 := (hb3.cell (p := ⟨B, 2, none⟩) (cell_lt (b6 0 (by decide)))).trans (b6 2 (by decide))
  have k3 := (hb3.cell (p := ⟨B, 3, none⟩) (cell_lt (b6 0 (by decide)))).trans (b6 3 (by decide))
  have k4 := (hb3.cell (p := ⟨B, 4, none⟩) (cell_lt (b6 0 (by decide)))).trans (b6 4 (by decide))
  have k5 := (hb3.cell (p := ⟨B, 5, none⟩) (cell_lt (b6 0 (by decide)))).trans (b6 5 (by decide))
  have kf := bf _ hb3
  have HB3 : Hid (Below w.heap.size w (grow (redrawn w' dq) osq)) := Below.onto HB1.out hb3
  clear r2 r3 r4 r5 rm rh hl cL b6 bf hb3
  generalize grow (redrawn w' dq) osq = w3 at *
  intro K hK
  go_simp
  refine hK _ _ ?_
  go_wp2_with fail
  refine bodyPost_ret (v := staV A) (by rw [E.out]; simp [results, Try.results8, go_sem, k0, k1, k2, k3, k4, k5]) rfl ⟨rfl, ?_⟩
  iterate 6 (refine Below.setCell ?_ (by exact Nat.le_refl _) _)
  have h := HB3.out
  rw [hB] at h
  exact h
end Go.Proofs.Ytilahfomiofgcaa
