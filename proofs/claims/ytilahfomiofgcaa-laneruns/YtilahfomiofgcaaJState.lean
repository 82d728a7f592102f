/- The state of a ticket, as the program tells it. -/
import Derived.Test.YtilahfomiofgcaaJLeaf
import Derived.Deep.RegionHeld3
namespace Go.Proofs.Ytilahfomiofgcaa
open Go.RowKit Go.Sort
set_option maxRecDepth 100000

theorem La.Ok.wC {A : La} (o : A.Ok) {q : Int} (h0 : 0 ≤ q) (h1 : q < 18446744073709551616) : decide (lessI (sqI A.st A.r) q < lessI (sqI A.st A.r) (sqI A.st A.c)) = (decide (A.r ≤ dqN A.st q) && decide (dqN A.st q < A.c)) := by
  have h2 := o.hr
  have h3 := o.bd
  rw [Bool.eq_iff_iff]
  simp only [decide_eq_true_eq, Bool.and_eq_true]
  exact sq_within (by omega) (by omega) h0 h1
theorem La.Ok.wP {A : La} (o : A.Ok) {q : Int} (h0 : 0 ≤ q) (h1 : q < 18446744073709551616) : decide (lessI (sqI A.st A.h) q < lessI (sqI A.st A.h) (sqI A.st A.r)) = (decide (A.h ≤ dqN A.st q) && decide (dqN A.st q < A.r)) := by
  have h2 := o.hr
  have h3 := o.bd
  rw [Bool.eq_iff_iff]
  simp only [decide_eq_true_eq, Bool.and_eq_true]
  exact sq_within (by omega) (by omega) h0 h1
/-- what is looked up among the taken ones -/
theorem Lx.looked {w : World} {o : Lo} {A : La} (x : Lx w o A) {q : Int} (h0 : 0 ≤ q) (h1 : q < 18446744073709551616) :
    ∃ y0 y1 y2 y4 y5 : Int, ∃ y3 : Bool, ∀ W, W.heap[o.bm]? = w.heap[o.bm]? → (Instr.lookup 54 (.map (some o.bm)) (.int .u64 q) true).run Try.prog W = .ok (.tuple #[.agg #[.int .u64 y0, .int .i64 y1, .int .u64 y2, .bool y3, .int .i64 y4, .int .i64 y5], .bool (takenB A q)]) W := by
  have hl : o.tl.length ≤ 1000 := by have := x.tl_len; omega
  cases ht : takenB A q
  · refine ⟨0, 0, 0, 0, 0, false, fun W hW => ?_⟩
    refine (x.mp.same hW).look_no hl h0 h1 (fun m hm e => ?_) true
    have hm2 := x.tl_mem hm
    have : m.k = dqN A.st q := (sq_iff (x.tl_k m hm) h0 h1).1 e
    have hc : takenB A q = true := List.any_eq_true.2 ⟨m, hm2.1, by simp [tkB, this, hm2.2]⟩
    rw [ht] at hc
    cases hc
  · obtain ⟨m, hm, hk, h3, _⟩ := takenB_at ht
    have hmt : m ∈ o.tl := (x.tp.mem_iff).2 (List.mem_filter.2 ⟨List.mem_of_getElem? hm, by simp [is3, h3]⟩)
    have hq : sqI A.st m.k = q := by rw [hk]; exact sq_dq h0 h1
    refine ⟨q, m.n, m.g, m.tk, m.sp, m.laid, fun W hW => ?_⟩
    have := (x.mp.same hW).look hl hmt x.tl_k true
    unfold msV at this
    rw [hq] at this
    exact this
set_option maxHeartbeats 4000000 in
theorem jstate (o : Lo) (A : La) (q e : Int) (w : World) (x : Lx w o A) (q0 : 0 ≤ q) (q1 : q < 18446744073709551616) :
    Calls Try.prog 31 #[o.ptr, tkV q e] w fun v w' => v = .returned (.int .i64 (staI A q e)) ∧ Below w.heap.size w w' := by
  obtain ⟨y0, y1, y2, y4, y5, y3, hL⟩ := x.looked q0 q1
  have HX : Hid (Lx w o A) := x
  have HB : Hid (Below w.heap.size w (w.alloc (.cells #[.int .u64 q, .int .u64 e] 34))) := (Below.refl _ w).alloc (Nat.le_refl _) _
  obtain ⟨b0, b1, _⟩ := jbox2 (w := w) (x := .int .u64 q) (y := .int .u64 e) (T := 34) (Below.refl _ _)
  have x1 := x.alloc (.cells #[.int .u64 q, .int .u64 e] 34)
  have hL1 := fun W (hW : Below (w.alloc (.cells #[.int .u64 q, .int .u64 e] 34)).heap.size (w.alloc (.cells #[.int .u64 q, .int .u64 e] 34)) W) => hL W ((hW.block _ x1.mp.lt).trans (HB.out.block _ x.mp.lt))
  have E : Hid (staI A q e = if e = A.ep then (if (decide (A.r ≤ dqN A.st q) && decide (dqN A.st q < A.c)) then (if ((A.C[atC A q]?.map (·.laid)).getD false) then 3 else 2) else if decide (A.h ≤ dqN A.st q) && decide (dqN A.st q < A.r) then 4 else if takenB A q then 5 else 0) else 1) := by
    show _ = _
    unfold staI laidB inC
    by_cases he : e = A.ep
    · simp only [he, decide_true, Bool.true_and, if_true]
      cases (decide (A.r ≤ dqN A.st q) && decide (dqN A.st q < A.c)) <;> simp
    · simp [he]
  have wC := fun W => x.ok.wC q0 q1 ▸ within_any (sqI A.st A.r) q (sqI A.st A.c) W
  have wP := fun W => x.ok.wP q0 q1 ▸ within_any (sqI A.st A.h) q (sqI A.st A.r) W
  clear hL
  unfold tkV
  go_enter Try.func31, Try.ntmps31
  go_wp2_with fail
  obtain ⟨B, hB⟩ : ∃ B, w.heap.size = B := ⟨_, rfl⟩
  obtain ⟨w1, hw1⟩ : ∃ w1, w.alloc (.cells #[.int .u64 q, .int .u64 e] 34) = w1 := ⟨_, rfl⟩
  have HB1 : Hid (Below w.heap.size w w1) := hw1 ▸ HB.out
  rw [hw1] at b0 b1 x1 hL1 ⊢
  rw [hB] at b0 b1 ⊢
  clear HB hw1 x
  have hS : ∀ W, Below w1.heap.size w1 W → W.cell? ⟨o.p, 390, none⟩ = some (.map (some o.bm)) ∧ W.cell? ⟨B, 0, none⟩ = some (.int .u64 q) ∧ (Instr.lookup 54 (.map (some o.bm)) (.int .u64 q) true).run Try.prog W = .ok (.tuple #[.agg #[.int .u64 y0, .int .i64 y1, .int .u64 y2, .bool y3, .int .i64 y4, .int .i64 y5], .bool (takenB A q)]) W :=
    fun W hW => ⟨(x1.below hW).lc.cm, (hW.cell (p := ⟨B, 0, none⟩) (cell_lt b0)).trans b0, hL1 W hW⟩
  have hT : ∀ W, Below w1.heap.size w1 W → W.cell? ⟨B, 0, none⟩ = some (.int .u64 q) ∧ W.cell? ⟨B, 1, none⟩ = some (.int .u64 e) ∧ W.cell? ⟨o.p, 2, none⟩ = some (.int .u64 A.ep) ∧ W.cell? ⟨o.p, 3, none⟩ = some (.int .u64 (sqI A.st A.h)) ∧
      W.cell? ⟨o.p, 4, none⟩ = some (.int .u64 (sqI A.st A.r)) ∧ W.cell? ⟨o.p, 5, none⟩ = some (.int .u64 (sqI A.st A.c)) ∧
      ((decide (A.r ≤ dqN A.st q) && decide (dqN A.st q < A.c)) = true → W.cell? ⟨o.p, plN q + 3, none⟩ = some (.bool ((A.C[atC A q]?.map (·.laid)).getD false))) ∧
      Calls Try.prog 30 #[o.ptr, .int .u64 q] W fun e w' => e = .returned (.pointer (some ⟨o.p, plN q, none⟩)) ∧ w' = W := fun W hW => by
    have x2 := x1.below hW
    refine ⟨(hW.cell (p := ⟨B, 0, none⟩) (cell_lt b0)).trans b0, (hW.cell (p := ⟨B, 1, none⟩) (cell_lt b0)).trans b1, x2.lc.c2, x2.lc.c3, x2.lc.c4, x2.lc.c5, fun hh => ?_, jplace o A q W x2 q0⟩
    have hin : inC A q A.ep = true := by simp only [inC, hh, decide_true, Bool.and_self]
    obtain ⟨m, hm, hk, _⟩ := inC_at x2.ok hin
    have := (x2.ring (List.mem_append_right A.P (List.mem_of_getElem? hm))).2.2.2.1
    rw [hk, sq_dq q0 q1] at this
    rw [this, hm]
    rfl
  clear b0 b1 x1 hL1
  go_region_held3 (fun W => W.cell? ⟨o.p, 390, none⟩ = some (.map (some o.bm)) ∧ W.cell? ⟨B, 0, none⟩ = some (.int .u64 q) ∧ (Instr.lookup 54 (.map (some o.bm)) (.int .u64 q) true).run Try.prog W = .ok (.tuple #[.agg #[.int .u64 y0, .int .i64 y1, .int .u64 y2, .bool y3, .int .i64 y4, .int .i64 y5], .bool (takenB A q)]) W) (first | assumption | exact hS _ (Below.refl _ _) | exact hS _ (Below.refl _ _).drew | exact hS _ (((Below.refl _ w1).alloc (Nat.le_refl _) _).drew) | exact hS _ ((Below.refl _ w1).alloc (Nat.le_refl _) _)) (fail)
  all_goals
    have hb2 : Below w1.heap.size w1 ((w1.alloc (.cells #[.int .u64 y0, .int .i64 y1, .int .u64 y2, .bool y3, .int .i64 y4, .int .i64 y5] 56)).drew) := ((Below.refl _ w1).alloc (Nat.le_refl _) _).drew
    generalize (w1.alloc (.cells #[.int .u64 y0, .int .i64 y1, .int .u64 y2, .bool y3, .int .i64 y4, .int .i64 y5] 56)).drew = w2 at *
    clear hS HX
    generalize (decide (A.r ≤ dqN A.st q) && decide (dqN A.st q < A.c)) = bC at *
    generalize (decide (A.h ≤ dqN A.st q) && decide (dqN A.st q < A.r)) = bP at *
    generalize ((A.C[atC A q]?.map (·.laid)).getD false) = bL at *
    generalize takenB A q = bT at *
    generalize sqI A.st A.c = qc at *
    generalize sqI A.st A.h = qh at *
    generalize sqI A.st A.r = qr at *
    generalize A.ep = ep at *
    generalize plN q = pq at *
    by_cases he : e = ep
    · subst he
      cases bC
      · have E' := E.out
        simp only [if_true, Bool.false_eq_true, if_false] at E'
        cases bP
        · simp only [Bool.false_eq_true, if_false] at E'
          cases bT
          · simp only [Bool.false_eq_true, if_false] at E'
            clear E
            go_wp2_with fail
            obtain ⟨t0, t1, t2, t3, t4, t5, tL, tP⟩ := hT w2 hb2
            have r1 := cell_regrown t1
            have r2 := cell_regrown t2
            clear t0 t1 t2 t3 t4 t5 tL tP
            refine wp_region_quiet_below (by kernel_rfl) (by kernel_rfl) ?_
            repeat (go_big_quiet_step (fail))
            refine wpQuiet_nil ?_
            intro _ hw'
            obtain ⟨⟨dq, osq⟩, hw''⟩ := hw'
            subst hw''
            have hb3 := Below.onto hb2 (below_regrown w2 dq osq)
            clear r1 r2 hb2
            generalize grow (redrawn w2 dq) osq = w3 at *
            go_wp2_with fail
            obtain ⟨t0, t1, t2, t3, t4, t5, tL, tP⟩ := hT w3 hb3
            have r0 := cell_regrown t0
            have r4 := cell_regrown t4
            have r5 := cell_regrown t5
            have cC := jregrown (w := w3) fun W _ => (wC W).mono fun _ _ h' => ⟨h'.1, by rw [h'.2]; exact Below.refl _ _⟩
            clear t0 t1 t2 t3 t4 t5 tL tP
            refine wp_region_quiet_below (by kernel_rfl) (by kernel_rfl) ?_
            repeat (go_big_quiet_step (first | with_reducible exact cC _ _))
            refine wpQuiet_nil ?_
            intro _ hw'
            obtain ⟨⟨dq, osq⟩, hw''⟩ := hw'
            subst hw''
            have hb4 := Below.onto hb3 (below_regrown w3 dq osq)
            clear r0 r4 r5 cC hb3
            generalize grow (redrawn w3 dq) osq = w4 at *
            go_wp2_with fail
            obtain ⟨t0, t1, t2, t3, t4, t5, tL, tP⟩ := hT w4 hb4
            have r0 := cell_regrown t0
            have r4 := cell_regrown t4
            have r5 := cell_regrown t5
            have cC := jregrown (w := w4) fun W _ => (wC W).mono fun _ _ h' => ⟨h'.1, by rw [h'.2]; exact Below.refl _ _⟩
            clear t0 t1 t2 t3 t4 t5 tL tP
            refine wp_region_quiet_below (by kernel_rfl) (by kernel_rfl) ?_
            repeat (go_big_quiet_step (first | with_reducible exact cC _ _))
            refine wpQuiet_nil ?_
            intro _ hw'
            obtain ⟨⟨dq, osq⟩, hw''⟩ := hw'
            subst hw''
            have hb5 := Below.onto hb4 (below_regrown w4 dq osq)
            clear r0 r4 r5 cC hb4
            generalize grow (redrawn w4 dq) osq = w5 at *
            go_wp2_with fail
            obtain ⟨t0, t1, t2, t3, t4, t5, tL, tP⟩ := hT w5 hb5
            have r0 := cell_regrown t0
            have r3 := cell_regrown t3
            have r4 := cell_regrown t4
            have cP := jregrown (w := w5) fun W _ => (wP W).mono fun _ _ h' => ⟨h'.1, by rw [h'.2]; exact Below.refl _ _⟩
            clear t0 t1 t2 t3 t4 t5 tL tP
            refine wp_region_quiet_below (by kernel_rfl) (by kernel_rfl) ?_
            repeat (go_big_quiet_step (first | with_reducible exact cP _ _))
            refine wpQuiet_nil ?_
            intro _ hw'
            obtain ⟨⟨dq, osq⟩, hw''⟩ := hw'
            subst hw''
            have hb6 := Below.onto hb5 (below_regrown w5 dq osq)
            clear r0 r3 r4 cP hb5
            generalize grow (redrawn w5 dq) osq = w6 at *
            go_wp2_with fail
            go_ret
            exact ⟨by rw [E']; rfl, Below.onto HB1.out hb6⟩
          · simp only [if_true] at E'
            clear E
            go_wp2_with fail
            obtain ⟨t0, t1, t2, t3, t4, t5, tL, tP⟩ := hT w2 hb2
            have r1 := cell_regrown t1
            have r2 := cell_regrown t2
            clear t0 t1 t2 t3 t4 t5 tL tP
            refine wp_region_quiet_below (by kernel_rfl) (by kernel_rfl) ?_
            repeat (go_big_quiet_step (fail))
            refine wpQuiet_nil ?_
            intro _ hw'
            obtain ⟨⟨dq, osq⟩, hw''⟩ := hw'
            subst hw''
            have hb3 := Below.onto hb2 (below_regrown w2 dq osq)
            clear r1 r2 hb2
            generalize grow (redrawn w2 dq) osq = w3 at *
            go_wp2_with fail
            obtain ⟨t0, t1, t2, t3, t4, t5, tL, tP⟩ := hT w3 hb3
            have r0 := cell_regrown t0
            have r4 := cell_regrown t4
            have r5 := cell_regrown t5
            have cC := jregrown (w := w3) fun W _ => (wC W).mono fun _ _ h' => ⟨h'.1, by rw [h'.2]; exact Below.refl _ _⟩
            clear t0 t1 t2 t3 t4 t5 tL tP
            refine wp_region_quiet_below (by kernel_rfl) (by kernel_rfl) ?_
            repeat (go_big_quiet_step (first | with_reducible exact cC _ _))
            refine wpQuiet_nil ?_
            intro _ hw'
            obtain ⟨⟨dq, osq⟩, hw''⟩ := hw'
            subst hw''
            have hb4 := Below.onto hb3 (below_regrown w3 dq osq)
            clear r0 r4 r5 cC hb3
            generalize grow (redrawn w3 dq) osq = w4 at *
            go_wp2_with fail
            obtain ⟨t0, t1, t2, t3, t4, t5, tL, tP⟩ := hT w4 hb4
            have r0 := cell_regrown t0
            have r4 := cell_regrown t4
            have r5 := cell_regrown t5
            have cC := jregrown (w := w4) fun W _ => (wC W).mono fun _ _ h' => ⟨h'.1, by rw [h'.2]; exact Below.refl _ _⟩
            clear t0 t1 t2 t3 t4 t5 tL tP
            refine wp_region_quiet_below (by kernel_rfl) (by kernel_rfl) ?_
            repeat (go_big_quiet_step (first | with_reducible exact cC _ _))
            refine wpQuiet_nil ?_
            intro _ hw'
            obtain ⟨⟨dq, osq⟩, hw''⟩ := hw'
            subst hw''
            have hb5 := Below.onto hb4 (below_regrown w4 dq osq)
            clear r0 r4 r5 cC hb4
            generalize grow (redrawn w4 dq) osq = w5 at *
            go_wp2_with fail
            obtain ⟨t0, t1, t2, t3, t4, t5, tL, tP⟩ := hT w5 hb5
            have r0 := cell_regrown t0
            have r3 := cell_regrown t3
            have r4 := cell_regrown t4
            have cP := jregrown (w := w5) fun W _ => (wP W).mono fun _ _ h' => ⟨h'.1, by rw [h'.2]; exact Below.refl _ _⟩
            clear t0 t1 t2 t3 t4 t5 tL tP
            refine wp_region_quiet_below (by kernel_rfl) (by kernel_rfl) ?_
            repeat (go_big_quiet_step (first | with_reducible exact cP _ _))
            refine wpQuiet_nil ?_
            intro _ hw'
            obtain ⟨⟨dq, osq⟩, hw''⟩ := hw'
            subst hw''
            have hb6 := Below.onto hb5 (below_regrown w5 dq osq)
            clear r0 r3 r4 cP hb5
            generalize grow (redrawn w5 dq) osq = w6 at *
            go_wp2_with fail
            go_ret
            exact ⟨by rw [E']; rfl, Below.onto HB1.out hb6⟩
        · simp only [if_true] at E'
          clear E
          go_wp2_with fail
          obtain ⟨t0, t1, t2, t3, t4, t5, tL, tP⟩ := hT w2 hb2
          have r1 := cell_regrown t1
          have r2 := cell_regrown t2
          clear t0 t1 t2 t3 t4 t5 tL tP
          refine wp_region_quiet_below (by kernel_rfl) (by kernel_rfl) ?_
          repeat (go_big_quiet_step (fail))
          refine wpQuiet_nil ?_
          intro _ hw'
          obtain ⟨⟨dq, osq⟩, hw''⟩ := hw'
          subst hw''
          have hb3 := Below.onto hb2 (below_regrown w2 dq osq)
          clear r1 r2 hb2
          generalize grow (redrawn w2 dq) osq = w3 at *
          go_wp2_with fail
          obtain ⟨t0, t1, t2, t3, t4, t5, tL, tP⟩ := hT w3 hb3
          have r0 := cell_regrown t0
          have r4 := cell_regrown t4
          have r5 := cell_regrown t5
          have cC := jregrown (w := w3) fun W _ => (wC W).mono fun _ _ h' => ⟨h'.1, by rw [h'.2]; exact Below.refl _ _⟩
          clear t0 t1 t2 t3 t4 t5 tL tP
          refine wp_region_quiet_below (by kernel_rfl) (by kernel_rfl) ?_
          repeat (go_big_quiet_step (first | with_reducible exact cC _ _))
          refine wpQuiet_nil ?_
          intro _ hw'
          obtain ⟨⟨dq, osq⟩, hw''⟩ := hw'
          subst hw''
          have hb4 := Below.onto hb3 (below_regrown w3 dq osq)
          clear r0 r4 r5 cC hb3
          generalize grow (redrawn w3 dq) osq = w4 at *
          go_wp2_with fail
          obtain ⟨t0, t1, t2, t3, t4, t5, tL, tP⟩ := hT w4 hb4
          have r0 := cell_regrown t0
          have r4 := cell_regrown t4
          have r5 := cell_regrown t5
          have cC := jregrown (w := w4) fun W _ => (wC W).mono fun _ _ h' => ⟨h'.1, by rw [h'.2]; exact Below.refl _ _⟩
          clear t0 t1 t2 t3 t4 t5 tL tP
          refine wp_region_quiet_below (by kernel_rfl) (by kernel_rfl) ?_
          repeat (go_big_quiet_step (first | with_reducible exact cC _ _))
          refine wpQuiet_nil ?_
          intro _ hw'
          obtain ⟨⟨dq, osq⟩, hw''⟩ := hw'
          subst hw''
          have hb5 := Below.onto hb4 (below_regrown w4 dq osq)
          clear r0 r4 r5 cC hb4
          generalize grow (redrawn w4 dq) osq = w5 at *
          go_wp2_with fail
          obtain ⟨t0, t1, t2, t3, t4, t5, tL, tP⟩ := hT w5 hb5
          have r0 := cell_regrown t0
          have r3 := cell_regrown t3
          have r4 := cell_regrown t4
          have cP := jregrown (w := w5) fun W _ => (wP W).mono fun _ _ h' => ⟨h'.1, by rw [h'.2]; exact Below.refl _ _⟩
          clear t0 t1 t2 t3 t4 t5 tL tP
          refine wp_region_quiet_below (by kernel_rfl) (by kernel_rfl) ?_
          repeat (go_big_quiet_step (first | with_reducible exact cP _ _))
          refine wpQuiet_nil ?_
          intro _ hw'
          obtain ⟨⟨dq, osq⟩, hw''⟩ := hw'
          subst hw''
          have hb6 := Below.onto hb5 (below_regrown w5 dq osq)
          clear r0 r3 r4 cP hb5
          generalize grow (redrawn w5 dq) osq = w6 at *
          go_wp2_with fail
          go_ret
          exact ⟨by rw [E']; rfl, Below.onto HB1.out hb6⟩
      · have E' := E.out
        simp only [if_true] at E'
        cases bL
        · simp only [Bool.false_eq_true, if_false] at E'
          clear E
          go_wp2_with fail
          obtain ⟨t0, t1, t2, t3, t4, t5, tL, tP⟩ := hT w2 hb2
          have r1 := cell_regrown t1
          have r2 := cell_regrown t2
          clear t0 t1 t2 t3 t4 t5 tL tP
          refine wp_region_quiet_below (by kernel_rfl) (by kernel_rfl) ?_
          repeat (go_big_quiet_step (fail))
          refine wpQuiet_nil ?_
          intro _ hw'
          obtain ⟨⟨dq, osq⟩, hw''⟩ := hw'
          subst hw''
          have hb3 := Below.onto hb2 (below_regrown w2 dq osq)
          clear r1 r2 hb2
          generalize grow (redrawn w2 dq) osq = w3 at *
          go_wp2_with fail
          obtain ⟨t0, t1, t2, t3, t4, t5, tL, tP⟩ := hT w3 hb3
          have r0 := cell_regrown t0
          have r4 := cell_regrown t4
          have r5 := cell_regrown t5
          have cC := jregrown (w := w3) fun W _ => (wC W).mono fun _ _ h' => ⟨h'.1, by rw [h'.2]; exact Below.refl _ _⟩
          have cL := jregrown (w := w3) fun W hW => (hT W (Below.onto hb3 hW)).2.2.2.2.2.2.2.mono fun _ _ h' => ⟨h'.1, by rw [h'.2]; exact Below.refl _ _⟩
          have rL := cell_regrown (tL (by first | rfl | trivial))
          clear t0 t1 t2 t3 t4 t5 tL tP
          refine wp_region_quiet_below (by kernel_rfl) (by kernel_rfl) ?_
          repeat (go_big_quiet_step (first | with_reducible exact cC _ _ | with_reducible exact cL _ _))
          refine wpQuiet_nil ?_
          intro _ hw'
          obtain ⟨⟨dq, osq⟩, hw''⟩ := hw'
          subst hw''
          have hb4 := Below.onto hb3 (below_regrown w3 dq osq)
          clear r0 r4 r5 cC cL rL hb3
          generalize grow (redrawn w3 dq) osq = w4 at *
          go_wp2_with fail
          obtain ⟨t0, t1, t2, t3, t4, t5, tL, tP⟩ := hT w4 hb4
          have r0 := cell_regrown t0
          have r4 := cell_regrown t4
          have r5 := cell_regrown t5
          have cC := jregrown (w := w4) fun W _ => (wC W).mono fun _ _ h' => ⟨h'.1, by rw [h'.2]; exact Below.refl _ _⟩
          clear t0 t1 t2 t3 t4 t5 tL tP
          refine wp_region_quiet_below (by kernel_rfl) (by kernel_rfl) ?_
          repeat (go_big_quiet_step (first | with_reducible exact cC _ _))
          refine wpQuiet_nil ?_
          intro _ hw'
          obtain ⟨⟨dq, osq⟩, hw''⟩ := hw'
          subst hw''
          have hb5 := Below.onto hb4 (below_regrown w4 dq osq)
          clear r0 r4 r5 cC hb4
          generalize grow (redrawn w4 dq) osq = w5 at *
          go_wp2_with fail
          go_ret
          exact ⟨by rw [E']; rfl, Below.onto HB1.out hb5⟩
        · simp only [if_true] at E'
          clear E
          go_wp2_with fail
          obtain ⟨t0, t1, t2, t3, t4, t5, tL, tP⟩ := hT w2 hb2
          have r1 := cell_regrown t1
          have r2 := cell_regrown t2
          clear t0 t1 t2 t3 t4 t5 tL tP
          refine wp_region_quiet_below (by kernel_rfl) (by kernel_rfl) ?_
          repeat (go_big_quiet_step (fail))
          refine wpQuiet_nil ?_
          intro _ hw'
          obtain ⟨⟨dq, osq⟩, hw''⟩ := hw'
          subst hw''
          have hb3 := Below.onto hb2 (below_regrown w2 dq osq)
          clear r1 r2 hb2
          generalize grow (redrawn w2 dq) osq = w3 at *
          go_wp2_with fail
          obtain ⟨t0, t1, t2, t3, t4, t5, tL, tP⟩ := hT w3 hb3
          have r0 := cell_regrown t0
          have r4 := cell_regrown t4
          have r5 := cell_regrown t5
          have cC := jregrown (w := w3) fun W _ => (wC W).mono fun _ _ h' => ⟨h'.1, by rw [h'.2]; exact Below.refl _ _⟩
          have cL := jregrown (w := w3) fun W hW => (hT W (Below.onto hb3 hW)).2.2.2.2.2.2.2.mono fun _ _ h' => ⟨h'.1, by rw [h'.2]; exact Below.refl _ _⟩
          have rL := cell_regrown (tL (by first | rfl | trivial))
          clear t0 t1 t2 t3 t4 t5 tL tP
          refine wp_region_quiet_below (by kernel_rfl) (by kernel_rfl) ?_
          repeat (go_big_quiet_step (first | with_reducible exact cC _ _ | with_reducible exact cL _ _))
          refine wpQuiet_nil ?_
          intro _ hw'
          obtain ⟨⟨dq, osq⟩, hw''⟩ := hw'
          subst hw''
          have hb4 := Below.onto hb3 (below_regrown w3 dq osq)
          clear r0 r4 r5 cC cL rL hb3
          generalize grow (redrawn w3 dq) osq = w4 at *
          go_wp2_with fail
          go_ret
          exact ⟨by rw [E']; rfl, Below.onto HB1.out hb4⟩
    · have E' := E.out
      rw [if_neg he] at E'
      clear E
      go_wp2_with fail
      obtain ⟨t0, t1, t2, t3, t4, t5, tL, tP⟩ := hT w2 hb2
      have r1 := cell_regrown t1
      have r2 := cell_regrown t2
      clear t0 t1 t2 t3 t4 t5 tL tP
      refine wp_region_quiet_below (by kernel_rfl) (by kernel_rfl) ?_
      repeat (go_big_quiet_step (fail))
      refine wpQuiet_nil ?_
      intro _ hw'
      obtain ⟨⟨dq, osq⟩, hw''⟩ := hw'
      subst hw''
      have hb3 := Below.onto hb2 (below_regrown w2 dq osq)
      clear r1 r2 hb2
      generalize grow (redrawn w2 dq) osq = w3 at *
      go_wp2_with fail
      go_ret
      exact ⟨by rw [E']; rfl, Below.onto HB1.out hb3⟩
end Go.Proofs.Ytilahfomiofgcaa
