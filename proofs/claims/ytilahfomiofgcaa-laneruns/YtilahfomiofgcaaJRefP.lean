/- The document's Publish. -/
import Derived.Test.YtilahfomiofgcaaJRefS
namespace Go.Proofs.Ytilahfomiofgcaa
open Go.RowKit Go.Sort
set_option maxRecDepth 100000

section
variable {w : World} {r : Nat} {rv : Value} {A : La} {l : List Ms}
set_option maxHeartbeats 2000000 in
theorem rlay_no (x : Rq w r rv A l) (hl : l.length ≤ 1000) (q e n g : Int) (hf : fdI A l q e 1 = -1) :
    Calls Try.prog 17 #[pV r, tkV q e, slV n g] w fun v w' => v = .returned (.int .i64 82) ∧ RGo w r rv w' A l := by
  have hb := jalloc (jalloc (Below.refl _ w) (.cells #[.int .u64 q, .int .u64 e] 34)) (.cells #[.int .i64 n, .int .u64 g] 36)
  have hF := rfind _ r rv A l (x.below hb) hl q e 1
  obtain ⟨⟨d0, d1, _⟩, _, _, _⟩ := jtwo (w := w) (x := .int .u64 q) (y := .int .u64 e) (u := .int .i64 n) (v := .int .u64 g) (T := 34) (U := 36) (Below.refl _ _)
  have HX : Hid (Rq w r rv A l) := x
  have HB : Hid (Below w.heap.size w ((w.alloc (.cells #[.int .u64 q, .int .u64 e] 34)).alloc (.cells #[.int .i64 n, .int .u64 g] 36))) := hb
  rw [hf] at hF
  unfold tkV slV at *
  clear x hb
  go_enter Try.func17, Try.ntmps17
  go_wp2_with fail
  refine hF.mono ?_
  rintro v w2 ⟨rfl, hb2⟩
  go_wp2_with fail
  go_ret
  exact ⟨rfl, RGo.stay HX.out (Below.onto HB.out hb2)⟩
set_option maxHeartbeats 2000000 in
theorem rlay_ok (x : Rq w r rv A l) (hl : l.length ≤ 1000) (q e n g : Int) (i : Nat) (m : Ms) (hm : l[i]? = some m) (hf : fdI A l q e 1 = (i : Int)) :
    Calls Try.prog 17 #[pV r, tkV q e, slV n g] w fun v w' => v = .returned (.int .i64 0) ∧ RGo w r rv w' A (l.set i { m with laid := true, n := n, g := g }) := by
  have hi := (List.getElem?_eq_some_iff.1 hm).1
  have hb := jalloc (jalloc (Below.refl _ w) (.cells #[.int .u64 q, .int .u64 e] 34)) (.cells #[.int .i64 n, .int .u64 g] 36)
  have hF := rfind _ r rv A l (x.below hb) hl q e 1
  obtain ⟨⟨d0, d1, _⟩, d2, d3, _⟩ := jtwo (w := w) (x := .int .u64 q) (y := .int .u64 e) (u := .int .i64 n) (v := .int .u64 g) (T := 34) (U := 36) (Below.refl _ _)
  obtain ⟨w1, hw1⟩ : ∃ w1, (w.alloc (.cells #[.int .u64 q, .int .u64 e] 34)).alloc (.cells #[.int .i64 n, .int .u64 g] 36) = w1 := ⟨_, rfl⟩
  rw [hw1] at hb hF d0 d1 d2 d3
  have HX : Hid (Rq w r rv A l) := x
  have HB : Hid (Below w.heap.size w w1) := hb
  rw [hf] at hF
  unfold tkV slV at *
  clear x hb
  go_enter Try.func17, Try.ntmps17
  go_wp2_with fail
  refine hF.mono ?_
  rintro v w2 ⟨rfl, hb2⟩
  have hbw := Below.onto HB.out hb2
  have x2 := HX.out.below hbw
  obtain ⟨g0, cap, rfl, _, _, c0, c1, c2, c3, c4, c5, c6⟩ := x2.at_ hm
  have k4 := x2.cell 4
  simp only [List.getElem?_toArray, List.getElem?_cons_succ, List.getElem?_cons_zero] at k4
  have hb3 := jalloc (Below.refl _ w2) (.cells #[.int .u64 (sqI A.st m.k), .int .i64 (m.is : Int), .bool true, .int .i64 n, .int .u64 g, .int .i64 m.tk, .int .i64 m.sp] 72)
  have cS := rset _ r _ A l (x2.below hb3) hl i hi { m with laid := true, n := n, g := g }
  unfold mrV at cS
  have d2 := fun z => jcells (jalloc (Below.refl _ w2) z) (jcells hb2 d2)
  have d3 := fun z => jcells (jalloc (Below.refl _ w2) z) (jcells hb2 d3)
  have HB3 : Hid (Below w.heap.size w (w2.alloc (.cells #[.int .u64 (sqI A.st m.k), .int .i64 (m.is : Int), .bool true, .int .i64 n, .int .u64 g, .int .i64 m.tk, .int .i64 m.sp] 72))) := Below.onto hbw hb3
  clear hF d0 d1 hw1 x2 hb2 hbw hb3
  go_wp2_with fail
  refine cS.mono ?_
  rintro v w4 ⟨rfl, rv', y, hbut, hown⟩
  go_wp2_with fail
  go_ret
  exact ⟨rfl, rv', y, (But.of HB3.out).trans hbut, fun b hb => (hown b hb).imp id fun h => Nat.le_trans HB3.out.size h⟩
set_option maxHeartbeats 2000000 in
theorem rready_no (x : Rq w r rv A l) (hl : l.length ≤ 1000) (q e : Int) (hf : fdI A l q e 1 = -1) :
    Calls Try.prog 18 #[pV r, tkV q e] w fun v w' => v = .returned (.bool false) ∧ Below w.heap.size w w' := by
  have hb := jalloc (Below.refl _ w) (.cells #[.int .u64 q, .int .u64 e] 34)
  have hF := rfind _ r rv A l (x.below hb) hl q e 1
  obtain ⟨d0, d1, _⟩ := jbox2 (w := w) (x := .int .u64 q) (y := .int .u64 e) (T := 34) (Below.refl _ _)
  rw [hf] at hF
  unfold tkV at *
  clear x
  go_enter Try.func18, Try.ntmps18
  go_wp2_with fail
  refine hF.mono ?_
  rintro v w2 ⟨rfl, hb2⟩
  go_wp2_with fail
  go_ret
  exact ⟨rfl, Below.onto hb hb2⟩
set_option maxHeartbeats 4000000 in
theorem rready_at (x : Rq w r rv A l) (hl : l.length ≤ 1000) (q e : Int) (i : Nat) (m : Ms) (hm : l[i]? = some m) (hf : fdI A l q e 1 = (i : Int)) (c : Nat) (hc : c ≤ i) (h0 : ∀ j m, j < c → l[j]? = some m → ¬ m.is = 1) (h1 : ∀ m, l[c]? = some m → m.is = 1) :
    Calls Try.prog 18 #[pV r, tkV q e] w fun v w' => v = .returned (.bool (m.laid && decide (c = i))) ∧ Below w.heap.size w w' := by
  have hi := (List.getElem?_eq_some_iff.1 hm).1
  have hb := jalloc (Below.refl _ w) (.cells #[.int .u64 q, .int .u64 e] 34)
  have hF := rfind _ r rv A l (x.below hb) hl q e 1
  obtain ⟨d0, d1, _⟩ := jbox2 (w := w) (x := .int .u64 q) (y := .int .u64 e) (T := 34) (Below.refl _ _)
  obtain ⟨a0, cap0, hv0⟩ := x.form
  subst hv0
  have HX : Hid (Rq w r (.slice a0 l.length cap0) A l) := x
  have HB : Hid (Below w.heap.size w (w.alloc (.cells #[.int .u64 q, .int .u64 e] 34))) := hb
  have H0 : Hid (∀ j m, j < c → l[j]? = some m → ¬ m.is = 1) := h0
  have H1 : Hid (∀ m, l[c]? = some m → m.is = 1) := h1
  rw [hf] at hF
  unfold tkV at *
  clear x hb h0 h1
  go_enter Try.func18, Try.ntmps18
  go_wp2_with fail
  refine hF.mono ?_
  rintro v w2 ⟨rfl, hb2⟩
  have hbw : Hid (Below w.heap.size w w2) := Below.onto HB.out hb2
  have x2 := HX.out.below hbw.out
  obtain ⟨g0, cap, hv2, _, _, c0, c1, c2, _⟩ := x2.at_ hm
  injection hv2 with hv2 hv3 hv4
  subst hv2 hv4
  clear hv3
  have k4 := x2.cell 4
  simp only [List.getElem?_toArray, List.getElem?_cons_succ, List.getElem?_cons_zero] at k4
  have HX2 : Hid (Rq w2 r (.slice (some ⟨g0, 0, none⟩) l.length cap0) A l) := x2
  generalize hN : l.length = N at *
  clear hF d0 d1 x2 hb2 c0 c1
  cases hml : m.laid
  · rw [hml] at c2
    have HML : Hid (m.laid = false) := hml
    clear hml
    go_wp2_with fail
    go_ret
    exact ⟨by rw [HML.out]; rfl, hbw.out⟩
  · rw [hml] at c2
    have HML : Hid (m.laid = true) := hml
    clear hml
    go_wp2_with fail
    clear c2 k4
    go_loopw [6] (fun vi wr => ∃ k : Nat, k ≤ c ∧ vi = .int .i64 k ∧ Hid (Below w2.heap.size w2 wr)) (fun vi _ => c - (intOf vi).toNat)
    case atStart => exact ⟨0, Nat.zero_le _, rfl, Below.refl _ _⟩
    case round =>
      obtain ⟨k, hk, rfl, HBr⟩ := hrel
      have xr := HX2.out.below HBr.out
      have k4 := xr.cell 4
      simp only [List.getElem?_toArray, List.getElem?_cons_succ, List.getElem?_cons_zero] at k4
      by_cases hki : k < i
      · obtain ⟨mk, hmk⟩ : ∃ m, l[k]? = some m := ⟨l[k]'(by omega), List.getElem?_eq_getElem (by omega)⟩
        obtain ⟨g2, cap2, hv2, _, _, _, c1, _⟩ := xr.at_ hmk
        injection hv2 with hv2 hv3 hv4
        injection hv2 with hv2
        injection hv2 with hv2 _ _
        subst hv2 hv4
        clear hv3
        by_cases hkc : k < c
        · have hne := H0.out k mk hkc hmk
          have hne' : ((mk.is : Int) == 1) = false := by simp; omega
          generalize mk.is = mi at *
          clear hmk xr
          go_wp2_with fail
          go_roundw
          case rel => exact ⟨k + 1, by omega, by go_num, HBr⟩
          case measure => simp [intOf]; omega
        · obtain rfl : k = c := by omega
          have he := H1.out mk hmk
          rw [he] at c1
          have hci : ¬ k = i := by omega
          have HCI : Hid (decide (k = i) = false) := by show _ = _; simp [hci]
          clear hmk xr he hci hkc
          go_wp2_with fail
          go_ret
          exact ⟨by rw [HML.out, HCI.out]; rfl, Below.onto hbw.out HBr.out⟩
      · obtain rfl : c = i := by omega
        go_wp2_with fail
        go_ret
        exact ⟨by rw [HML.out]; simp, Below.onto hbw.out HBr.out⟩
end
end Go.Proofs.Ytilahfomiofgcaa
namespace Go.Proofs.Ytilahfomiofgcaa
open Go.RowKit Go.Sort
set_option maxRecDepth 100000

section
variable {w : World} {r : Nat} {rv : Value} {A : La} {l : List Ms}
set_option maxHeartbeats 2000000 in
theorem rpub_no (x : Rq w r rv A l) (hl : l.length ≤ 1000) (q e t s : Int) (hf : fdI A l q e 1 = -1) :
    Calls Try.prog 19 #[pV r, tkV q e, smV t s] w fun v w' => v = .returned (.int .i64 82) ∧ RGo w r rv w' A l := by
  have hb := jalloc (jalloc (Below.refl _ w) (.cells #[.int .u64 q, .int .u64 e] 34)) (.cells #[.int .i64 t, .int .i64 s] 38)
  have hF := rfind _ r rv A l (x.below hb) hl q e 1
  obtain ⟨⟨d0, d1, _⟩, _, _, _⟩ := jtwo (w := w) (x := .int .u64 q) (y := .int .u64 e) (u := .int .i64 t) (v := .int .i64 s) (T := 34) (U := 38) (Below.refl _ _)
  have HX : Hid (Rq w r rv A l) := x
  have HB : Hid (Below w.heap.size w ((w.alloc (.cells #[.int .u64 q, .int .u64 e] 34)).alloc (.cells #[.int .i64 t, .int .i64 s] 38))) := hb
  rw [hf] at hF
  unfold tkV smV at *
  clear x hb
  go_enter Try.func19, Try.ntmps19
  go_wp2_with fail
  refine hF.mono ?_
  rintro v w2 ⟨rfl, hb2⟩
  go_wp2_with fail
  go_ret
  exact ⟨rfl, RGo.stay HX.out (Below.onto HB.out hb2)⟩
set_option maxHeartbeats 4000000 in
theorem rpub_at (x : Rq w r rv A l) (hl : l.length ≤ 1000) (q e t s : Int) (i : Nat) (m : Ms) (hm : l[i]? = some m) (hf : fdI A l q e 1 = (i : Int)) (c : Nat) (hc : c ≤ i) (h0 : ∀ j m, j < c → l[j]? = some m → ¬ m.is = 1) (h1 : ∀ m, l[c]? = some m → m.is = 1) :
    Calls Try.prog 19 #[pV r, tkV q e, smV t s] w fun v w' => v = .returned (.int .i64 (if m.laid then (if c = i then 0 else 83) else 82)) ∧ RGo w r rv w' A (if m.laid ∧ c = i then l.set i { m with is := 2, tk := t, sp := s } else l) := by
  have hi := (List.getElem?_eq_some_iff.1 hm).1
  have hb := jalloc (jalloc (Below.refl _ w) (.cells #[.int .u64 q, .int .u64 e] 34)) (.cells #[.int .i64 t, .int .i64 s] 38)
  have hF := rfind _ r rv A l (x.below hb) hl q e 1
  obtain ⟨⟨d0, d1, _⟩, d2, d3, _⟩ := jtwo (w := w) (x := .int .u64 q) (y := .int .u64 e) (u := .int .i64 t) (v := .int .i64 s) (T := 34) (U := 38) (Below.refl _ _)
  obtain ⟨w1, hw1⟩ : ∃ w1, (w.alloc (.cells #[.int .u64 q, .int .u64 e] 34)).alloc (.cells #[.int .i64 t, .int .i64 s] 38) = w1 := ⟨_, rfl⟩
  rw [hw1] at hb hF d0 d1 d2 d3
  have HX : Hid (Rq w r rv A l) := x
  have HB : Hid (Below w.heap.size w w1) := hb
  obtain ⟨er, her⟩ : ∃ er : Int, er = if m.laid then (if c = i then 0 else 83) else 82 := ⟨_, rfl⟩
  obtain ⟨l', hl'⟩ : ∃ l' : List Ms, l' = if m.laid ∧ c = i then l.set i { m with is := 2, tk := t, sp := s } else l := ⟨_, rfl⟩
  rw [← her, ← hl']
  have HER : Hid (er = if m.laid then (if c = i then 0 else 83) else 82) := her
  have HLL : Hid (l' = if m.laid ∧ c = i then l.set i { m with is := 2, tk := t, sp := s } else l) := hl'
  clear her hl'
  have cR := fun w2 (y : Rq w2 r rv A l) => rready_at y hl q e i m hm hf c hc h0 h1
  rw [hf] at hF
  unfold tkV smV at *
  clear x hb h0 h1
  go_enter Try.func19, Try.ntmps19
  go_wp2_with fail
  refine hF.mono ?_
  rintro v w2 ⟨rfl, hb2⟩
  have hbw := Below.onto HB.out hb2
  have x2 := HX.out.below hbw
  have cR2 := cR w2 x2
  clear cR
  obtain ⟨g0, cap, rfl, _, _, c0, c1, c2, c3, c4, c5, c6⟩ := x2.at_ hm
  have k4 := x2.cell 4
  simp only [List.getElem?_toArray, List.getElem?_cons_succ, List.getElem?_cons_zero] at k4
  have HB2 : Hid (Below w.heap.size w w2) := hbw
  have d0 := jcells hb2 d0
  have d1 := jcells hb2 d1
  have d2 := jcells hb2 d2
  have d3 := jcells hb2 d3
  clear hF hw1 hbw hb2
  cases hml : m.laid
  · rw [hml] at c2
    have HML : Hid (m.laid = false) := hml
    clear hml cR2 c0 c1 c3 c4 c5 c6
    go_wp2_with fail
    go_ret
    exact ⟨by rw [HER.out, HML.out]; rfl, by rw [HLL.out, if_neg (by rw [HML.out]; simp)]; exact RGo.stay HX.out HB2.out⟩
  · rw [hml] at c2 cR2
    by_cases hci : c = i
    · rw [hci] at cR2
      rw [decide_eq_true (rfl : i = i), Bool.true_and] at cR2
      have HCI : Hid (c = i) := hci
      have HML : Hid (m.laid = true) := hml
      clear hml hci
      go_wp2_with fail
      refine cR2.mono ?_
      rintro v w3 ⟨rfl, hb3⟩
      have x3 := x2.below hb3
      have hb4 := jalloc (Below.refl _ w3) (.cells #[.int .u64 (sqI A.st m.k), .int .i64 2, .bool true, .int .i64 m.n, .int .u64 m.g, .int .i64 t, .int .i64 s] 72)
      have cS := rset _ r _ A l (x3.below hb4) hl i hi { m with is := 2, tk := t, sp := s }
      unfold mrV at cS
      simp only [HML.out] at cS
      have c0 := jcells hb3 c0
      have c1 := jcells hb3 c1
      have c2 := jcells hb3 c2
      have c3 := jcells hb3 c3
      have c4 := jcells hb3 c4
      have c5 := jcells hb3 c5
      have c6 := jcells hb3 c6
      have k4 := jcells hb3 k4
      have d2 := fun z => jcells (jalloc (Below.refl _ w3) z) (jcells hb3 d2)
      have d3 := fun z => jcells (jalloc (Below.refl _ w3) z) (jcells hb3 d3)
      have HB4 : Hid (Below w.heap.size w (w3.alloc (.cells #[.int .u64 (sqI A.st m.k), .int .i64 2, .bool true, .int .i64 m.n, .int .u64 m.g, .int .i64 t, .int .i64 s] 72))) := Below.onto (Below.onto HB2.out hb3) hb4
      clear cR2 x3 hb3 hb4 d0 d1 x2
      go_wp2_with fail
      refine cS.mono ?_
      rintro v w4 ⟨rfl, rv', y, hbut, hown⟩
      go_wp2_with fail
      go_ret
      refine ⟨by rw [HER.out, HML.out, if_pos rfl, if_pos HCI.out]; rfl, ?_⟩
      rw [HLL.out, if_pos ⟨HML.out, HCI.out⟩]
      exact ⟨rv', by rw [HML.out]; exact y, (But.of HB4.out).trans hbut, fun b hb => (hown b hb).imp id fun h => Nat.le_trans HB4.out.size h⟩
    · have HCI : Hid (¬ c = i) := hci
      have HML : Hid (m.laid = true) := hml
      rw [decide_eq_false hci] at cR2
      clear hml hci
      go_wp2_with fail
      refine cR2.mono ?_
      rintro v w3 ⟨rfl, hb3⟩
      go_wp2_with fail
      go_ret
      refine ⟨by rw [HER.out, HML.out, if_pos rfl, if_neg HCI.out]; rfl, ?_⟩
      rw [HLL.out, if_neg (fun h => HCI.out h.2)]
      exact RGo.stay HX.out (Below.onto HB2.out hb3)
end
end Go.Proofs.Ytilahfomiofgcaa
