/- The document's first. -/
import Derived.Test.YtafcgbahdfaiiaaERef
namespace Go.Proofs.Ytafcgbahdfaiiaa
open Go.RowKit Go.Sort
set_option maxRecDepth 100000

/-- the first i of D: the place of the one that comes first -/
def Fst (D : List En) (i : Nat) (k : Int) : Prop := (i = 0 ∧ k = -1) ∨ ∃ (q : Nat) (e : En), k = (q : Int) ∧ q < i ∧ D[q]? = some e ∧ ∀ j y, j < i → D[j]? = some y → e.k ≤ y.k ∧ (j < q → e.k < y.k)
theorem Fst.step {D : List En} {i q : Nat} {e y : En} (h : ∀ j y, j < i → D[j]? = some y → e.k ≤ y.k ∧ (j < q → e.k < y.k)) (hq : q < i) (he : D[q]? = some e) (hy : D[i]? = some y) (hn : ¬ y.k < e.k) : Fst D (i + 1) (q : Int) :=
  .inr ⟨q, e, rfl, by omega, he, fun j z hj hz => by
    by_cases hji : j = i
    · subst hji; rw [hy] at hz; cases hz; exact ⟨by omega, fun h => by omega⟩
    · exact h j z (by omega) hz⟩
theorem Fst.less {D : List En} {i q : Nat} {e y : En} (h : ∀ j y, j < i → D[j]? = some y → e.k ≤ y.k ∧ (j < q → e.k < y.k)) (hy : D[i]? = some y) (hn : y.k < e.k) : Fst D (i + 1) (i : Int) :=
  .inr ⟨i, y, rfl, by omega, hy, fun j z hj hz => by
    by_cases hji : j = i
    · subst hji; rw [hy] at hz; cases hz; exact ⟨by omega, fun h => by omega⟩
    · have := (h j z (by omega) hz).1; exact ⟨by omega, fun _ => by omega⟩⟩
theorem Fst.zero {D : List En} {y : En} (hy : D[0]? = some y) : Fst D 1 0 :=
  .inr ⟨0, y, rfl, by omega, hy, fun j z hj hz => by
    obtain rfl : j = 0 := by omega
    rw [hy] at hz; cases hz; exact ⟨by omega, fun h => by omega⟩⟩
theorem Fst.isB {D : List En} {k : Int} (h : Fst D D.length k) (hs : Srt D) (hD : D ≠ []) : ∃ (q : Nat) (e : En), k = (q : Int) ∧ D[q]? = some e ∧ IsB D e := by
  rcases h with ⟨h, _⟩ | ⟨q, e, hk, hq, he, h⟩
  · exact absurd (List.eq_nil_of_length_eq_zero h) hD
  · refine ⟨q, e, hk, he, List.mem_of_getElem? he, fun y hy hb => ?_⟩
    obtain ⟨j, hj⟩ := List.getElem?_of_mem hy
    have hjl := (List.getElem?_eq_some_iff.1 hj).1
    obtain ⟨h1, h2⟩ := h j y hjl hj
    unfold bef at hb
    rcases hb with hb | ⟨hb, hn⟩
    · omega
    · by_cases hjq : j < q
      · have := h2 hjq; omega
      · by_cases e' : j = q
        · subst e'; rw [he] at hj; cases hj; omega
        · have := List.pairwise_iff_getElem.1 hs q j (by omega) hjl (by omega)
          rw [(List.getElem?_eq_some_iff.1 he).2, (List.getElem?_eq_some_iff.1 hj).2] at this
          omega
theorem ercalls {f : FuncId} {args : Array Value} {w : World} {v : Value} (h : ∀ W, Below w.heap.size w W → Calls Try.prog f args W fun e w' => e = .returned v ∧ Below W.heap.size W w') :
    ∀ d os, Calls Try.prog f args (grow (redrawn w d) os) fun e w'' => e = .returned v ∧ ∃ p : Regrown, w'' = grow (redrawn w p.d) p.os :=
  fun d os => Calls.regrown_of (h _ (below_regrown w d os))

set_option maxHeartbeats 2000000 in
theorem rfirst (w : World) (r : Nat) (rv : Value) (D : List En) (last : Nat) (x : Rd w r rv D last) :
    Calls Try.prog 35 #[ptr r] w fun v w' => ∃ k, v = .returned (.int .i64 k) ∧ Fst D D.length k ∧ Below w.heap.size w w' := by
  have hbd := x.bd.1
  obtain ⟨a0, cap, hv, _⟩ := x.form
  have HX : Hid (Rd w r rv D last) := x
  clear x
  generalize hN : D.length = N at *
  go_enter Try.func35, Try.ntmps35
  go_wp2_with fail
  go_loopw [3, 4] (fun vk vi wr => ∃ (k : Int) (i : Nat), vk = .int .i64 k ∧ vi = .int .i64 (i : Int) ∧ i ≤ N ∧ Hid (Fst D i k) ∧ Hid (Below w.heap.size w wr)) (fun _ vi _ => N - (intOf vi).toNat)
  case atStart => exact ⟨_, 0, rfl, rfl, Nat.zero_le _, .inl ⟨rfl, rfl⟩, Below.refl _ _⟩
  case round =>
    obtain ⟨k, i, rfl, rfl, hi, HF, HB⟩ := hrel
    have x2 := HX.out.below HB.out
    have c0 := x2.bl.cell (i := 0) rfl
    rw [hv] at c0
    by_cases hiN : i < N
    · obtain ⟨g, cap', hv', _⟩ := x2.form1 (by omega)
      obtain ⟨y, hy⟩ : ∃ e, D[i]? = some e := ⟨D[i]'(by omega), List.getElem?_eq_getElem _⟩
      rw [hv, hN] at hv'
      injection hv' with ha _ hcap
      subst ha hcap
      obtain ⟨y0, y1, _⟩ := x2.cells (by rw [hv, hN]) hy
      rcases HF.out with ⟨h0, hk⟩ | ⟨q, e, hk, hq, he, h⟩
      · subst h0 hk
        have h1 : decide ((-1 : Int) < 0) = true := by decide
        clear y0 y1 x2
        go_wp2_with fail
        refine wp_region_quiet_below (by kernel_rfl) (by kernel_rfl) ?_
        repeat (go_big_quiet_step (fail))
        refine wpQuiet_nil ?_
        intro _ hw'
        obtain ⟨⟨dq, osq⟩, hw''⟩ := hw'
        subst hw''
        have hb5 := below_regrown wr dq osq
        have HB5 : Hid (Below w.heap.size w (grow (redrawn wr dq) osq)) := Below.onto HB.out hb5
        clear hb5
        generalize grow (redrawn wr dq) osq = w5 at *
        go_wp2_with fail
        go_roundw
        case rel => exact ⟨0, 1, rfl, rfl, by omega, Fst.zero hy, HB5⟩
        case measure => simp [intOf]; omega
      · subst hk
        have HH : Hid (∀ j y, j < i → D[j]? = some y → e.k ≤ y.k ∧ (j < q → e.k < y.k)) := h
        clear h
        obtain ⟨z0, z1, _⟩ := x2.cells (by rw [hv, hN]) he
        have cL := ercalls (w := wr) fun W _ => rless y.k y.m e.k e.m W
        have r0 := cell_regrown c0
        have r1 := cell_regrown y0
        have r2 := cell_regrown y1
        have r3 := cell_regrown z0
        have r4 := cell_regrown z1
        have h1 : decide ((q : Int) < 0) = false := by simp
        have h2 : (0 : Int) ≤ (q : Int) := by omega
        have h3 : (q : Int) < (N : Int) := by omega
        have h3' : q < N := by omega
        unfold thV at cL
        clear x2 y0 y1 z0 z1
        go_wp2_with fail
        refine wp_region_quiet_below (by kernel_rfl) (by kernel_rfl) ?_
        repeat (go_big_quiet_step (with_reducible exact cL _ _))
        refine wpQuiet_nil ?_
        intro _ hw'
        obtain ⟨⟨dq, osq⟩, hw''⟩ := hw'
        subst hw''
        have hb5 := below_regrown wr dq osq
        have HB5 : Hid (Below w.heap.size w (grow (redrawn wr dq) osq)) := Below.onto HB.out hb5
        clear hb5 r0 r1 r2 r3 r4 cL
        generalize grow (redrawn wr dq) osq = w5 at *
        by_cases hl : y.k < e.k
        · have hd : decide (y.k < e.k) = true := by simpa using hl
          rw [hd]
          go_wp2_with fail
          go_roundw
          case rel => exact ⟨i, i + 1, rfl, by go_num, by omega, Fst.less HH.out hy hl, HB5⟩
          case measure => simp [intOf]; omega
        · have hd : decide (y.k < e.k) = false := by simpa using hl
          rw [hd]
          go_wp2_with fail
          go_roundw
          case rel => exact ⟨q, i + 1, rfl, by go_num, by omega, Fst.step HH.out hq he hy hl, HB5⟩
          case measure => simp [intOf]; omega
    · obtain rfl : i = N := by omega
      go_wp2_with fail
      go_ret
      exact ⟨k, rfl, HF.out, HB.out⟩
end Go.Proofs.Ytafcgbahdfaiiaa
