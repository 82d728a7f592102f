/- The document's Publish. -/
import Derived.Test.YtkgjikfndinpoaaJRefL
namespace Go.Proofs.Ytkgjikfndinpoaa
open Go.RowKit Go.Sort
set_option maxRecDepth 100000

section
variable {w : World} {r : Nat} {rv : Value} {A : La} {l : List Ms}
set_option maxHeartbeats 2000000 in
theorem rpub_no (x : Rq w r rv A l) (hl : l.length ≤ 1000) (q e t s : Int) (hf : fdI A l q e 1 = -1) :
    Calls Try.prog 23 #[pV r, tkV q e, smV t s] w fun v w' => v = .returned (.int .i64 82) ∧ RGo w r rv w' A l := by
  have hb := jalloc (jalloc (Below.refl _ w) (.cells #[.int .u64 q, .int .u64 e] 34)) (.cells #[.int .i64 t, .int .i64 s] 38)
  have hF := rfind _ r rv A l (x.below hb) hl q e 1
  obtain ⟨⟨d0, d1, _⟩, _, _, _⟩ := jtwo (w := w) (x := .int .u64 q) (y := .int .u64 e) (u := .int .i64 t) (v := .int .i64 s) (T := 34) (U := 38) (Below.refl _ _)
  have HX : Hid (Rq w r rv A l) := x
  have HB : Hid (Below w.heap.size w ((w.alloc (.cells #[.int .u64 q, .int .u64 e] 34)).alloc (.cells #[.int .i64 t, .int .i64 s] 38))) := hb
  rw [hf] at hF
  unfold tkV smV at *
  clear x hb
  go_enter Try.func23, Try.ntmps23
  go_wp2_with fail
  refine hF.mono ?_
  rintro v w2 ⟨rfl, hb2⟩
  go_wp2_with fail
  go_ret
  exact ⟨rfl, RGo.stay HX.out (Below.onto HB.out hb2)⟩
set_option maxHeartbeats 4000000 in
theorem rpub_at (x : Rq w r rv A l) (hl : l.length ≤ 1000) (q e t s : Int) (i : Nat) (m : Ms) (hm : l[i]? = some m) (hf : fdI A l q e 1 = (i : Int)) (c : Nat) (hc : c ≤ i) (h0 : ∀ j m, j < c → l[j]? = some m → ¬ m.is = 1) (h1 : ∀ m, l[c]? = some m → m.is = 1) :
    Calls Try.prog 23 #[pV r, tkV q e, smV t s] w fun v w' => v = .returned (.int .i64 (if m.laid then (if c = i then 0 else 83) else 82)) ∧ RGo w r rv w' A (if m.laid ∧ c = i then l.set i { m with is := 2, tk := t, sp := s } else l) := by
  have hi := (List.getElem?_eq_some_iff.1 hm).1
  have hb := jalloc (jalloc (Below.refl _ w) (.cells #[.int .u64 q, .int .u64 e] 34)) (.cells #[.int .i64 t, .int .i64 s] 38)
  have hF := rfind _ r rv A l (x.below hb) hl q e 1
  obtain ⟨⟨d0, d1, _⟩, d2, d3, _⟩ := jtwo (w := w) (x := .int .u64 q) (y := .int .u64 e) (u := .int .i64 t) (v := .int .i64 s) (T := 34) (U := 38) (Below.refl _ _)
  obtain ⟨w1, hw1⟩ : ∃ w1, (w.alloc (.cells #[.int .u64 q, .int .u64 e] 34)).alloc (.cells #[.int .i64 t, .int .i64 s] 38) = w1 := ⟨_, rfl⟩
  rw [hw1] at hb hF d0 d1 d2 d3
  have HX : Hid (Rq w r rv A l) := x
  have HB : Hid (Below w.heap.size w w1) := hb
  obtain ⟨er, her⟩ : ∃ er : Int, er = if m.laid then (if c = i then 0 else 83) else 82 := ⟨_, rfl⟩
  obtain ⟨l', hl'⟩ : ∃ l' : List Ms, l' = if m.laid ∧ c = i then l.set i { m with is := 2, tk := t, sp := s } else l := ⟨_, rfl⟩
  rw [← her, ← hl']
  have HER : Hid (er = if m.laid then (if c = i then 0 else 83) else 82) := her
  have HLL : Hid (l' = if m.laid ∧ c = i then l.set i { m with is := 2, tk := t, sp := s } else l) := hl'
  clear her hl'
  have cR := fun w2 (y : Rq w2 r rv A l) => rready_at y hl q e i m hm hf c hc h0 h1
  rw [hf] at hF
  unfold tkV smV at *
  clear x hb h0 h1
  go_enter Try.func23, Try.ntmps23
  go_wp2_with fail
  refine hF.mono ?_
  rintro v w2 ⟨rfl, hb2⟩
  have hbw := Below.onto HB.out hb2
  have x2 := HX.out.below hbw
  have cR2 := cR w2 x2
  clear cR
  obtain ⟨g0, cap, rfl, _, _, c0, c1, c2, c3, c4, c5, c6⟩ := x2.at_ hm
  have k4 := x2.cell 4
  simp only [List.getElem?_toArray, List.getElem?_cons_succ, List.getElem?_cons_zero] at k4
  have HB2 : Hid (Below w.heap.size w w2) := hbw
  have d0 := jcells hb2 d0
  have d1 := jcells hb2 d1
  have d2 := jcells hb2 d2
  have d3 := jcells hb2 d3
  clear hF hw1 hbw hb2
  cases hml : m.laid
  · rw [hml] at c2
    have HML : Hid (m.laid = false) := hml
    clear hml cR2 c0 c1 c3 c4 c5 c6
    go_wp2_with fail
    go_ret
    exact ⟨by rw [HER.out, HML.out]; rfl, by rw [HLL.out, if_neg (by rw [HML.out]; simp)]; exact RGo.stay HX.out HB2.out⟩
  · rw [hml] at c2 cR2
    by_cases hci : c = i
    · rw [hci] at cR2
      rw [decide_eq_true (rfl : i = i), Bool.true_and] at cR2
      have HCI : Hid (c = i) := hci
      have HML : Hid (m.laid = true) := hml
      clear hml hci
      go_wp2_with fail
      refine cR2.mono ?_
      rintro v w3 ⟨rfl, hb3⟩
      have x3 := x2.below hb3
      have hb4 := jalloc (Below.refl _ w3) (.cells #[.int .u64 (sqI A.st m.k), .int .i64 2, .bool true, .int .i64 m.n, .int .u64 m.g, .int .i64 t, .int .i64 s] 75)
      have cS := rset _ r _ A l (x3.below hb4) hl i hi { m with is := 2, tk := t, sp := s }
      unfold mrV at cS
      simp only [HML.out] at cS
      have c0 := jcells hb3 c0
      have c1 := jcells hb3 c1
      have c2 := jcells hb3 c2
      have c3 := jcells hb3 c3
      have c4 := jcells hb3 c4
      have c5 := jcells hb3 c5
      have c6 := jcells hb3 c6
      have k4 := jcells hb3 k4
      have d2 := fun z => jcells (jalloc (Below.refl _ w3) z) (jcells hb3 d2)
      have d3 := fun z => jcells (jalloc (Below.refl _ w3) z) (jcells hb3 d3)
      have HB4 : Hid (Below w.heap.size w (w3.alloc (.cells #[.int .u64 (sqI A.st m.k), .int .i64 2, .bool true, .int .i64 m.n, .int .u64 m.g, .int .i64 t, .int .i64 s] 75))) := Below.onto (Below.onto HB2.out hb3) hb4
      clear cR2 x3 hb3 hb4 d0 d1 x2
      go_wp2_with fail
      refine cS.mono ?_
      rintro v w4 ⟨rfl, rv', y, hbut, hown⟩
      go_wp2_with fail
      go_ret
      refine ⟨by rw [HER.out, HML.out, if_pos rfl, if_pos HCI.out]; rfl, ?_⟩
      rw [HLL.out, if_pos ⟨HML.out, HCI.out⟩]
      exact ⟨rv', by rw [HML.out]; exact y, (But.of HB4.out).trans hbut, fun b hb => (hown b hb).imp id fun h => Nat.le_trans HB4.out.size h⟩
    · have HCI : Hid (¬ c = i) := hci
      have HML : Hid (m.laid = true) := hml
      rw [decide_eq_false hci] at cR2
      clear hml hci
      go_wp2_with fail
      refine cR2.mono ?_
      rintro v w3 ⟨rfl, hb3⟩
      go_wp2_with fail
      go_ret
      refine ⟨by rw [HER.out, HML.out, if_pos rfl, if_neg HCI.out]; rfl, ?_⟩
      rw [HLL.out, if_neg (fun h => HCI.out h.2)]
      exact RGo.stay HX.out (Below.onto HB2.out hb3)
end
end Go.Proofs.Ytkgjikfndinpoaa
