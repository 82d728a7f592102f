/- The document's arena: what is asked of it. -/
import Derived.Test.YtobpignlamekmaaQMem
namespace Go.Proofs.Ytobpignlamekmaa
open Go.RowKit Go.Sort Go.BigFrame
set_option maxRecDepth 100000

/-- partitions lie one behind the other -/
structure Cont (h : Sh) : Prop where
  z : h.fs 0 = 0
  s : ∀ k, k < h.P → h.fs (k + 1) = h.fs k + h.sz k
  e : h.fs h.P = h.N
theorem shOf_cont (z : Nat → Int) (n : Nat) : Cont (shOf z n) := ⟨rfl, fun _ _ => rfl, rfl⟩
/-- a partition's slots are those of its number -/
theorem part_range {h : Sh} (ok : h.Ok) (c : Cont h) {k : Nat} (hk : k < h.P) : (List.range h.N).filter (fun x => decide (h.pt x = k)) = (List.range (h.sz k)).map (h.fs k + ·) := by
  have key : ∀ j, j ≤ h.P → (List.range (h.fs j)).filter (fun x => decide (h.pt x = k)) = if k < j then (List.range (h.sz k)).map (h.fs k + ·) else [] := by
    intro j
    induction j with
    | zero => intro _; rw [c.z]; simp
    | succ j ih =>
      intro hj
      rw [c.s j (by omega), List.range_add, List.filter_append, ih (by omega)]
      have hall : ∀ x, x ∈ (List.range (h.sz j)).map (h.fs j + ·) → h.pt x = j := by
        intro x hx
        obtain ⟨i, hi, rfl⟩ := List.mem_map.1 hx
        exact (ok.in_ j i (by omega) (List.mem_range.1 hi)).2
      by_cases e : j = k
      · subst e
        rw [if_neg (by omega), if_pos (by omega), List.nil_append]
        apply List.filter_eq_self.2
        intro x hx
        simp [hall x hx]
      · have h2 : ((List.range (h.sz j)).map (h.fs j + ·)).filter (fun x => decide (h.pt x = k)) = [] := by
          apply List.filter_eq_nil_iff.2
          intro x hx
          simp [hall x hx, e]
        rw [h2, List.append_nil]
        by_cases e2 : k < j
        · rw [if_pos e2, if_pos (by omega)]
        · rw [if_neg e2, if_neg (by omega)]
  have := key h.P (Nat.le_refl _)
  rw [c.e, if_pos hk] at this
  exact this

set_option maxHeartbeats 1000000 in
theorem rpart_q (q : Qo) (h : Sh) (s : Qs) (x : Int) (w : World) (a : Qx w q h s) :
    Calls Try.prog 38 #[q.ptr, .int .i64 x] w fun e w' => e = .returned (.bool (inR h.P x)) ∧ w' = w := by
  have c0 := a.c0
  clear a
  by_cases h0 : 0 ≤ x
  · have e : inR h.P x = decide (x < h.P) := by simp [inR, h0]
    rw [e]
    go_enter Try.func38, Try.ntmps38
    go_wp2_with fail
    go_ret
    exact ⟨rfl, rfl⟩
  · have e : inR h.P x = false := by simp [inR, h0]
    rw [e]
    go_enter Try.func38, Try.ntmps38
    go_wp2_with fail
    go_ret
    exact ⟨rfl, rfl⟩

set_option maxHeartbeats 4000000 in
theorem ralive_q (q : Qo) (h : Sh) (d : Da) (x g : Int) (w : World) (a : Qx w q h (qOf h d)) :
    Calls Try.prog 50 #[q.ptr, .agg #[.int .i64 x, .int .u64 g]] w fun e w' => e = .returned (.bool (alvB h d x g)) ∧ Below w.heap.size w w' := by
  have hB := below_box w (.cells #[.int .i64 x, .int .u64 g] 36)
  obtain ⟨c0, c1, _⟩ := box2 (w := w) (x := .int .i64 x) (y := .int .u64 g) (T := 36) (Below.refl _ _)
  obtain ⟨W, hW⟩ : ∃ W, w.alloc (.cells #[.int .i64 x, .int .u64 g] 36) = W := ⟨_, rfl⟩
  rw [hW] at hB c0 c1
  have aW := a.below hB
  have r0 := cell_regrown c0
  have r1 := cell_regrown c1
  have p1 := aW.c1
  have HB : Hid (Below w.heap.size w W) := hB
  clear hB c0 c1 a
  by_cases h0 : 0 ≤ x
  · by_cases h1 : x < h.N
    · obtain ⟨n, rfl⟩ : ∃ n : Nat, x = (n : Int) := ⟨x.toNat, by omega⟩
      have hn : n < h.N := by omega
      have hin : inR h.N (n : Int) = true := inR_iff.2 (by omega)
      rw [aW.cl (by omega)] at p1
      have p2 := cell_regrown p1
      have y1 := cell_regrown (aW.y1 n hn)
      have y2 := cell_regrown (aW.y2 n hn)
      have e : alvB h d (n : Int) g = (!d.fr h n && decide (d.gen n = g)) := by simp [alvB, hin]
      rw [e]
      have e1 : (qOf h d).hd n = !d.fr h n := rfl
      have e2 : (qOf h d).gen n = d.gen n := rfl
      rw [e1] at y2
      rw [e2] at y1
      clear aW p1 e e1 e2 hin
      generalize d.fr h n = ff at *
      cases ff
      · simp only [Bool.not_false] at y2
        by_cases hg : d.gen n = g
        · rw [hg] at y1 ⊢
          simp only [Bool.not_false, Bool.true_and, decide_true]
          go_enter Try.func50, Try.ntmps50
          go_wp2_with fail
          refine wp_region_quiet_below (by kernel_rfl) (by kernel_rfl) ?_
          repeat (go_big_quiet_step (fail))
          refine wpQuiet_nil ?_
          intro _ hw'
          obtain ⟨⟨dq, osq⟩, hw''⟩ := hw'
          subst hw''
          go_wp2_with fail
          go_ret
          exact ⟨rfl, Below.onto HB.out (below_regrown W dq osq)⟩
        · generalize d.gen n = gg at *
          simp only [Bool.not_false, Bool.true_and, hg, decide_false]
          go_enter Try.func50, Try.ntmps50
          go_wp2_with fail
          refine wp_region_quiet_below (by kernel_rfl) (by kernel_rfl) ?_
          repeat (go_big_quiet_step (fail))
          refine wpQuiet_nil ?_
          intro _ hw'
          obtain ⟨⟨dq, osq⟩, hw''⟩ := hw'
          subst hw''
          go_wp2_with fail
          go_ret
          exact ⟨ret_bool (by simp [hg]), Below.onto HB.out (below_regrown W dq osq)⟩
      · simp only [Bool.not_true] at y2
        simp only [Bool.not_true, Bool.false_and]
        go_enter Try.func50, Try.ntmps50
        go_wp2_with fail
        refine wp_region_quiet_below (by kernel_rfl) (by kernel_rfl) ?_
        repeat (go_big_quiet_step (fail))
        refine wpQuiet_nil ?_
        intro _ hw'
        obtain ⟨⟨dq, osq⟩, hw''⟩ := hw'
        subst hw''
        go_wp2_with fail
        go_ret
        exact ⟨rfl, Below.onto HB.out (below_regrown W dq osq)⟩
    · have hin : inR h.N x = false := by simp [inR, h1]
      have e : alvB h d x g = false := by simp [alvB, hin]
      rw [e]
      have p2 := cell_regrown p1
      have hd1 : decide (x < (h.N : Int)) = false := decide_eq_false h1
      clear aW p1 hin e
      go_enter Try.func50, Try.ntmps50
      go_wp2_with fail
      refine wp_region_quiet_below (by kernel_rfl) (by kernel_rfl) ?_
      repeat (go_big_quiet_step (fail))
      refine wpQuiet_nil ?_
      intro _ hw'
      obtain ⟨⟨dq, osq⟩, hw''⟩ := hw'
      subst hw''
      go_wp2_with fail
      go_ret
      exact ⟨rfl, Below.onto HB.out (below_regrown W dq osq)⟩
  · have hin : inR h.N x = false := by simp [inR, h0]
    have e : alvB h d x g = false := by simp [alvB, hin]
    rw [e]
    have hd0 : decide (0 ≤ x) = false := decide_eq_false h0
    have hd1 : decide (x ≥ 0) = false := decide_eq_false h0
    clear aW p1 hin e
    go_enter Try.func50, Try.ntmps50
    go_wp2_with fail
    refine wp_region_quiet_below (by kernel_rfl) (by kernel_rfl) ?_
    repeat (go_big_quiet_step (fail))
    refine wpQuiet_nil ?_
    intro _ hw'
    obtain ⟨⟨dq, osq⟩, hw''⟩ := hw'
    subst hw''
    go_wp2_with fail
    go_ret
    exact ⟨rfl, Below.onto HB.out (below_regrown W dq osq)⟩

set_option maxHeartbeats 4000000 in
theorem rlook_q (q : Qo) (h : Sh) (d : Da) (x : Int) (w : World) (a : Qx w q h (qOf h d)) :
    Calls Try.prog 14 #[q.ptr, .int .i64 x] w fun e w' => e = .returned (.tuple #[.int .u64 (lkP h d x), .int .u64 (lkG h d x), .bool (lkH h d x)]) ∧ Below w.heap.size w w' := by
  have p1 := a.c1
  by_cases h0 : 0 ≤ x
  · by_cases h1 : x < h.N
    · obtain ⟨n, rfl⟩ : ∃ n : Nat, x = (n : Int) := ⟨x.toNat, by omega⟩
      have hn : n < h.N := by omega
      have hin : inR h.N (n : Int) = true := inR_iff.2 (by omega)
      rw [show lkP h d (n : Int) = d.pay n by simp [lkP, hin], show lkG h d (n : Int) = d.gen n by simp [lkG, hin], show lkH h d (n : Int) = !d.fr h n by simp [lkH, hin]]
      rw [a.cl (by omega)] at p1
      have y0 : w.cell? ⟨q.bc, n * 3, none⟩ = some (.int .u64 (d.pay n)) := a.y0 n hn
      have y1 : w.cell? ⟨q.bc, n * 3 + 1, none⟩ = some (.int .u64 (d.gen n)) := a.y1 n hn
      have y2 : w.cell? ⟨q.bc, n * 3 + 2, none⟩ = some (.bool (!d.fr h n)) := a.y2 n hn
      have p2 := cell_regrown p1
      have z0 := cell_regrown y0
      have z1 := cell_regrown y1
      have z2 := cell_regrown y2
      generalize (!d.fr h n) = bb at *
      clear a y0 y1 y2 hin
      go_enter Try.func14, Try.ntmps14
      go_wp2_with fail
      refine wp_region_quiet_below (by kernel_rfl) (by kernel_rfl) ?_
      repeat (go_big_quiet_step (fail))
      refine wpQuiet_nil ?_
      intro _ hw'
      obtain ⟨⟨dq, osq⟩, hw''⟩ := hw'
      subst hw''
      go_wp2_with fail
      go_ret3
      exact ⟨rfl, below_regrown w dq osq⟩
    · have hin : inR h.N x = false := by simp [inR, h1]
      rw [show lkP h d x = 0 by simp [lkP, hin], show lkG h d x = 0 by simp [lkG, hin], show lkH h d x = false by simp [lkH, hin]]
      clear a hin
      go_enter Try.func14, Try.ntmps14
      go_wp2_with fail
      go_ret3
      exact ⟨rfl, Below.refl _ _⟩
  · have hin : inR h.N x = false := by simp [inR, h0]
    rw [show lkP h d x = 0 by simp [lkP, hin], show lkG h d x = 0 by simp [lkG, hin], show lkH h d x = false by simp [lkH, hin]]
    clear a hin
    go_enter Try.func14, Try.ntmps14
    go_wp2_with fail
    go_ret3
    exact ⟨rfl, Below.refl _ _⟩

theorem own_len {w : World} {B : Nat} {v : Value} {l : List Nat} (h : w.ownsRow B 3 1 v l.length (encL l)) : ∃ a c, v = .slice a l.length c := by
  rcases h.2 with ⟨rfl, e⟩ | ⟨g, cap, cur, rfl, _⟩
  · exact ⟨none, 0, by rw [e]⟩
  · exact ⟨_, _, rfl⟩
set_option maxHeartbeats 4000000 in
theorem rcounts_q (q : Qo) (h : Sh) (d : Da) (x : Int) (w : World) (a : Qx w q h (qOf h d)) (ok : h.Ok) :
    Calls Try.prog 18 #[q.ptr, .int .i64 x] w fun e w' => e = .returned (.tuple #[.int .i64 (cnH h d x), .int .i64 (cnF h d x), .int .i64 (knE h x)]) ∧ Below w.heap.size w w' := by
  have hp := rpart_q q h _ x w a
  cases hh : inR h.P x
  · rw [hh] at hp
    rw [show cnF h d x = 0 by simp [cnF, lenR, hh], show cnH h d x = 0 by simp [cnH, hh], show knE h x = 5 by simp [knE, hh]]
    clear a
    go_enter Try.func18, Try.ntmps18
    go_wp2_with fail
    refine hp.mono ?_
    rintro e w2 ⟨rfl, e2⟩
    subst e2
    go_wp2_with fail
    go_ret3
    exact ⟨rfl, Below.refl _ _⟩
  · rw [hh] at hp
    obtain ⟨k, rfl, hk⟩ := inR_nat hh
    rw [show cnF h d (k : Int) = ((d.R k).length : Int) by simp [cnF, lenR, hh], show cnH h d (k : Int) = (h.sz k : Int) - ((d.R k).length : Int) by simp [cnH, lenR, hh], show knE h (k : Int) = 0 by simp [knE, hh]]
    have p0 := cell_regrown a.c0
    have p2 := cell_regrown a.c2
    have z := cell_regrown (a.z k hk)
    obtain ⟨v, hv, hrow⟩ := a.row k hk
    obtain ⟨va, vc, rfl⟩ := own_len hrow
    have hv2 := cell_regrown hv
    have hl : (d.R k).length ≤ 4096 := a.len k hk
    have hs := ok.s256 k hk
    have hP := ok.p16
    have e1 : (qOf h d).R k = d.R k := rfl
    rw [e1] at hv2
    generalize (d.R k).length = L at *
    clear a hh hrow hv e1
    go_enter Try.func18, Try.ntmps18
    go_wp2_with fail
    refine hp.mono ?_
    rintro e w2 ⟨rfl, e2⟩
    subst e2
    go_wp2_with fail
    refine wp_region_quiet_below (by kernel_rfl) (by kernel_rfl) ?_
    repeat (go_big_quiet_step (fail))
    refine wpQuiet_nil ?_
    intro _ hw'
    obtain ⟨⟨dq, osq⟩, hw''⟩ := hw'
    subst hw''
    go_wp2_with fail
    go_ret3
    exact ⟨rfl, below_regrown w2 dq osq⟩
end Go.Proofs.Ytobpignlamekmaa
