/- The small functions of package arena. -/
import Derived.Test.YtobpignlamekmaaAMem
import Derived.Lib.QuietBelow
import Derived.BigRegion
namespace Go.Proofs.Ytobpignlamekmaa
open Go.RowKit Go.Sort
set_option maxRecDepth 100000

/-- a contract that ends in Below, in a world of the class -/
theorem aregrown {f : FuncId} {args : Array Value} {w : World} {v : Value} (h : ∀ W, Below w.heap.size w W → Calls Try.prog f args W fun e w' => e = .returned v ∧ Below W.heap.size W w') :
    ∀ d os, Calls Try.prog f args (grow (redrawn w d) os) fun e w'' => e = .returned v ∧ ∃ p : Regrown, w'' = grow (redrawn w p.d) p.os :=
  fun d os => Calls.regrown_of (h _ (below_regrown w d os))
theorem below_but {w w' : World} (h : But (fun _ => False) w w') : Below w.heap.size w w' := h.below (Nat.le_refl _) fun _ hf => hf.elim

/-- a block of one's own, just made -/
theorem new_at (w : World) (zs : Array Value) (T : TypeId) (i : Nat) (hi : i < zs.size) : (w.alloc (.cells zs T)).cell? ⟨w.heap.size, i, none⟩ = some zs[i] := by
  have hb : (w.alloc (.cells zs T)).heap[w.heap.size]? = some (.cells zs T (0, 0)) := World.alloc_heap_new w _
  rw [cell_of_row _ _ i _ T (0, 0) hb]
  simp [hi]
theorem new_fz {w w' : World} {zs : Array Value} {T : TypeId} (hb : Below (w.alloc (.cells zs T)).heap.size (w.alloc (.cells zs T)) w') (i : Nat) : w'.frozen? ⟨w.heap.size, i, none⟩ = false := by
  have h : (w.alloc (.cells zs T)).heap[w.heap.size]? = some (.cells zs T (0, 0)) := World.alloc_heap_new w _
  exact frozen_of_row _ _ i _ _ ((hb.block _ (by simp)).trans h)

theorem box2 {w w' : World} {x y : Value} {T : TypeId} (hb : Below (w.alloc (.cells #[x, y] T)).heap.size (w.alloc (.cells #[x, y] T)) w') : w'.cell? ⟨w.heap.size, 0, none⟩ = some x ∧ w'.cell? ⟨w.heap.size, 1, none⟩ = some y ∧ ∀ i, w'.frozen? ⟨w.heap.size, i, none⟩ = false :=
  ⟨(hb.cell (p := ⟨w.heap.size, 0, none⟩) (by simp)).trans (new_at w #[x, y] T 0 (by simp)), (hb.cell (p := ⟨w.heap.size, 1, none⟩) (by simp)).trans (new_at w #[x, y] T 1 (by simp)), new_fz hb⟩

set_option maxHeartbeats 1000000 in
theorem abelow_any (x : Int) (n : Nat) (w : World) :
    Calls Try.prog 44 #[.int .i64 x, .int .i64 (n : Int)] w fun e w' => e = .returned (.bool (inR n x)) ∧ w' = w := by
  by_cases h : 0 ≤ x
  · have e : inR n x = decide (x < n) := by simp [inR, h]
    rw [e]
    go_enter Try.func44, Try.ntmps44
    go_wp2_with fail
    go_ret
    exact ⟨rfl, rfl⟩
  · have e : inR n x = false := by simp [inR, h]
    rw [e]
    go_enter Try.func44, Try.ntmps44
    go_wp2_with fail
    go_ret
    exact ⟨rfl, rfl⟩

set_option maxHeartbeats 1000000 in
theorem ais_a (o : Po) (h : Sh) (d : Da) (w : World) (a : Ax w o h d) :
    Calls Try.prog 51 #[o.ptr] w fun e w' => e = .returned (.bool true) ∧ w' = w := by
  have h0 := a.c2
  clear a
  go_enter Try.func51, Try.ntmps51
  go_wp2_with fail
  go_ret
  exact ⟨rfl, rfl⟩

set_option maxHeartbeats 1000000 in
theorem has_a (o : Po) (h : Sh) (d : Da) (x : Int) (w : World) (a : Ax w o h d) :
    Calls Try.prog 33 #[o.ptr, .int .i64 x] w fun e w' => e = .returned (.bool (inR h.N x)) ∧ w' = w := by
  have h0 := a.c1
  have HK : Hid (Ax w o h d) := a
  clear a
  go_enter Try.func33, Try.ntmps33
  go_wp2_with fail
  refine (ais_a o h d _ HK.out).mono ?_
  rintro e w1 ⟨rfl, e1⟩
  subst e1
  go_wp2_with fail
  refine (abelow_any x h.N _).mono ?_
  rintro e w2 ⟨rfl, e2⟩
  subst e2
  go_wp2_with fail
  go_ret
  exact ⟨rfl, rfl⟩

def knE (h : Sh) (x : Int) : Int := if inR h.P x then 0 else 5
set_option maxHeartbeats 1000000 in
theorem known_a (o : Po) (h : Sh) (d : Da) (x : Int) (w : World) (a : Ax w o h d) :
    Calls Try.prog 36 #[o.ptr, .int .i64 x] w fun e w' => e = .returned (.int .i64 (knE h x)) ∧ w' = w := by
  have h0 := a.c0
  have hb := abelow_any x h.P w
  have HK : Hid (Ax w o h d) := a
  clear a
  obtain ⟨z, hz⟩ : ∃ z, z = knE h x := ⟨_, rfl⟩
  rw [← hz]
  cases hh : inR h.P x
  all_goals
    unfold knE at hz
    rw [hh] at hb hz
    simp only [if_true, Bool.false_eq_true, if_false] at hz
    subst hz
    go_enter Try.func36, Try.ntmps36
    go_wp2_with fail
    refine (ais_a o h d _ HK.out).mono ?_
    rintro e w1 ⟨rfl, e1⟩
    subst e1
    go_wp2_with fail
    refine hb.mono ?_
    rintro e w2 ⟨rfl, e2⟩
    subst e2
    go_wp2_with fail
    go_ret
    exact ⟨rfl, rfl⟩

set_option maxHeartbeats 1000000 in
theorem home_a (o : Po) (h : Sh) (d : Da) (n : Nat) (w : World) (a : Ax w o h d) (hn : n < h.N) :
    Calls Try.prog 43 #[o.ptr, .int .i64 (n : Int)] w fun e w' => e = .returned (.tuple #[.pointer (some ⟨o.bp, h.pt n * 258, none⟩), .int .i64 ((h.ql n : Nat) : Int)]) ∧ Below w.heap.size w w' := by
  have h0 := a.c0
  have h1 := a.c1
  have h2 := a.s0 n hn
  have h3 := a.sh.at_ n hn
  have h4 := a.f0 (h.pt n) h3.1
  have h5 := a.sh.ql hn
  have h6 := a.sh.n4
  have h7 := a.sh.p16
  rw [a.sa (by omega)] at h1
  clear a
  generalize h.ql n = q at *
  generalize hk : h.pt n = k at *
  generalize hf : h.fs k = f at *
  clear hk hf
  go_enter Try.func43, Try.ntmps43
  go_wp2_with fail
  go_region
  go_wp2_with fail
  go_region
  go_wp2_with fail
  go_ret2
  refine ⟨?_, ((Below.refl _ w).drew).drew⟩
  rw [show (n : Int) - (f : Int) = (q : Int) by omega]
  rfl

set_option maxHeartbeats 1000000 in
theorem name_a (o : Po) (h : Sh) (d : Da) (n : Nat) (w : World) (a : Ax w o h d) (hn : n < h.N) :
    Calls Try.prog 34 #[o.ptr, .int .i64 (n : Int)] w fun e w' => e = .returned (.agg #[.int .i64 (n : Int), .int .u64 (d.gen n)]) ∧ Below w.heap.size w w' := by
  have HK : Hid (Ax w o h d) := a
  have h5 := a.sh.ql hn
  clear a
  go_enter Try.func34, Try.ntmps34
  go_wp2_with fail
  refine (home_a o h d n _ (HK.out.alloc _) hn).mono ?_
  rintro e w1 ⟨rfl, hb⟩
  have hg := ((HK.out.alloc _).below hb).g n hn
  have hB := Below.onto ((Below.refl _ w).alloc (Nat.le_refl _) _) hb
  obtain ⟨hc0, hc1, hf⟩ := box2 hb
  clear hb
  go_wp2_with fail
  refine bodyPost_ret (v := .agg #[.int .i64 (n : Int), .int .u64 (d.gen n)]) (by simp [results, Try.results34, go_sem, hc0, hc1]) rfl ⟨rfl, ?_⟩
  exact (hB.setCell (Nat.le_refl _) _).setCell (Nat.le_refl _) _

set_option maxHeartbeats 1000000 in
theorem heldB_a (o : Po) (h : Sh) (d : Da) (n : Nat) (w : World) (a : Ax w o h d) (hn : n < h.N) :
    Calls Try.prog 35 #[o.ptr, .int .i64 (n : Int)] w fun e w' => e = .returned (.bool (!d.fr h n)) ∧ Below w.heap.size w w' := by
  have hof := of_k o.l h.N h.P d.R n w a.kv
  rw [a.ofB hn] at hof
  have h0 := a.c2
  clear a
  go_enter Try.func35, Try.ntmps35
  go_wp2_with fail
  refine hof.mono ?_
  rintro e w2 ⟨rfl, e2⟩
  have e3 := below_but e2
  go_wp2_with fail
  go_ret
  exact ⟨rfl, e3⟩

/-- is a name alive? -/
def alvB (h : Sh) (d : Da) (x g : Int) : Bool := inR h.N x && (!d.fr h x.toNat && decide (d.gen x.toNat = g))
def alvE (h : Sh) (d : Da) (x g : Int) : Int := if alvB h d x g then 0 else 62

set_option maxHeartbeats 2000000 in
theorem alive_a (o : Po) (h : Sh) (d : Da) (x g : Int) (w : World) (a : Ax w o h d) :
    Calls Try.prog 42 #[o.ptr, .agg #[.int .i64 x, .int .u64 g]] w fun e w' => e = .returned (.int .i64 (alvE h d x g)) ∧ Below w.heap.size w w' := by
  have HK : Hid (Ax w o h d) := a
  clear a
  have hB := (Below.refl _ w).alloc (Nat.le_refl _) (.cells #[.int .i64 x, .int .u64 g] 36)
  obtain ⟨c0, c1, _⟩ := box2 (w := w) (x := .int .i64 x) (y := .int .u64 g) (T := 36) (Below.refl _ _)
  obtain ⟨W, hW⟩ : ∃ W, w.alloc (.cells #[.int .i64 x, .int .u64 g] 36) = W := ⟨_, rfl⟩
  have HW : Hid (Ax W o h d) := hW ▸ HK.out.below hB
  have r0 := cell_regrown (hW ▸ c0)
  have r1 := cell_regrown (hW ▸ c1)
  have HB : Hid (Below w.heap.size w W) := hW ▸ hB
  have cH := aregrown (w := W) fun W' hW' => ((has_a o h d x W' (HW.out.below hW')).mono fun e w' h' => ⟨h'.1, by rw [h'.2]; exact Below.refl _ _⟩)
  clear c0 c1 hB
  cases hh : inR h.N x
  · have hE : alvE h d x g = 62 := by simp [alvE, alvB, hh]
    rw [hh] at cH
    rw [hE]
    go_enter Try.func42, Try.ntmps42
    go_wp2_with fail
    refine (ais_a o h d _ HW.out).mono ?_
    rintro e w2 ⟨rfl, e2⟩
    subst e2
    go_wp2_with fail
    refine wp_region_quiet_below (by kernel_rfl) (by kernel_rfl) ?_
    repeat (go_big_quiet_step (with_reducible exact cH _ _))
    refine wpQuiet_nil ?_
    intro _ hw'
    obtain ⟨⟨dq, osq⟩, hw''⟩ := hw'
    subst hw''
    go_wp2_with fail
    go_ret
    exact ⟨rfl, Below.onto HB.out (below_regrown w2 dq osq)⟩
  · obtain ⟨n, rfl, hn⟩ := inR_nat hh
    have cL := aregrown (w := W) fun W' hW' => heldB_a o h d n W' (HW.out.below hW') hn
    have cN := aregrown (w := W) fun W' hW' => name_a o h d n W' (HW.out.below hW') hn
    rw [hh] at cH
    cases hf : d.fr h n
    · rw [hf] at cL
      by_cases hg : d.gen n = g
      · have hE : alvE h d n g = 0 := by simp [alvE, alvB, hh, hf, hg]
        rw [hE]
        rw [hg] at cN
        clear hE hf hg hh
        go_enter Try.func42, Try.ntmps42
        go_wp2_with fail
        refine (ais_a o h d _ HW.out).mono ?_
        rintro e w2 ⟨rfl, e2⟩
        subst e2
        go_wp2_with fail
        refine wp_region_quiet_below (by kernel_rfl) (by kernel_rfl) ?_
        repeat (go_big_quiet_step (first | with_reducible exact cH _ _ | with_reducible exact cL _ _ | with_reducible exact cN _ _))
        refine wpQuiet_nil ?_
        intro _ hw'
        obtain ⟨⟨dq, osq⟩, hw''⟩ := hw'
        subst hw''
        go_wp2_with fail
        go_ret
        exact ⟨rfl, Below.onto HB.out (below_regrown w2 dq osq)⟩
      · have hE : alvE h d n g = 62 := by simp [alvE, alvB, hh, hf, hg]
        rw [hE]
        generalize d.gen n = g' at *
        clear hE hf hh
        go_enter Try.func42, Try.ntmps42
        go_wp2_with fail
        refine (ais_a o h d _ HW.out).mono ?_
        rintro e w2 ⟨rfl, e2⟩
        subst e2
        go_wp2_with fail
        refine wp_region_quiet_below (by kernel_rfl) (by kernel_rfl) ?_
        repeat (go_big_quiet_step (first | with_reducible exact cH _ _ | with_reducible exact cL _ _ | with_reducible exact cN _ _))
        refine wpQuiet_nil ?_
        intro _ hw'
        obtain ⟨⟨dq, osq⟩, hw''⟩ := hw'
        subst hw''
        go_wp2_with fail
        go_ret
        exact ⟨rfl, Below.onto HB.out (below_regrown w2 dq osq)⟩
    · rw [hf] at cL
      have hE : alvE h d n g = 62 := by simp [alvE, alvB, hf]
      rw [hE]
      clear hE hf hh cN
      go_enter Try.func42, Try.ntmps42
      go_wp2_with fail
      refine (ais_a o h d _ HW.out).mono ?_
      rintro e w2 ⟨rfl, e2⟩
      subst e2
      go_wp2_with fail
      refine wp_region_quiet_below (by kernel_rfl) (by kernel_rfl) ?_
      repeat (go_big_quiet_step (first | with_reducible exact cH _ _ | with_reducible exact cL _ _))
      refine wpQuiet_nil ?_
      intro _ hw'
      obtain ⟨⟨dq, osq⟩, hw''⟩ := hw'
      subst hw''
      go_wp2_with fail
      go_ret
      exact ⟨rfl, Below.onto HB.out (below_regrown w2 dq osq)⟩
end Go.Proofs.Ytobpignlamekmaa
