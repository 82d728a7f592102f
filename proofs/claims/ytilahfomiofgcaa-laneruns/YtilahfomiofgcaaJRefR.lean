/- The document's Retire. -/
import Derived.Test.YtilahfomiofgcaaJReg
namespace Go.Proofs.Ytilahfomiofgcaa
open Go.RowKit Go.Sort
set_option maxRecDepth 100000

theorem run_rlow {o : Oper} {s t g m cap k : Nat} (hop : o.op = .slice 61 (.tmp s) none (some (.tmp t)) none) (hk : k ≤ m) (hm : m ≤ cap) (b : Act) (W : World) (h1 : b.tmps[s]? = some (.slice (some ⟨g, 0, none⟩) m cap)) (h2 : b.tmps[t]? = some (.int .i64 (k : Int))) :
    (execOp b.eval o).run Try.prog W = .ok (.value (.slice (some ⟨g, 0, none⟩) k cap)) W := by
  obtain ⟨d, op, ty, pos, aft, gd⟩ := o
  simp only at hop
  subst hop
  have j1 : (0 : Int) ≤ (k : Int) := by omega
  have j2 : (k : Int) ≤ (cap : Int) := by omega
  go_simp
theorem run_rhigh {o : Oper} {s t g m cap k : Nat} (hop : o.op = .slice 61 (.tmp s) (some (.tmp t)) none none) (hk : k + 1 ≤ m) (b : Act) (W : World) (h1 : b.tmps[s]? = some (.slice (some ⟨g, 0, none⟩) m cap)) (h2 : b.tmps[t]? = some (.int .i64 ((k : Int) + 1))) :
    (execOp b.eval o).run Try.prog W = .ok (.value (.slice (some ⟨g, if cap = k + 1 then 0 else (k + 1) * 7, none⟩) (m - (k + 1)) (cap - (k + 1)))) W := by
  have e1 : (k : Int) + 1 = ((k + 1 : Nat) : Int) := by omega
  rw [e1] at h2
  generalize k + 1 = n at *
  obtain ⟨d, op, ty, pos, aft, gd⟩ := o
  simp only at hop
  subst hop
  clear e1
  have j1 : (0 : Int) ≤ (n : Int) := by omega
  have j2 : (n : Int) ≤ (m : Int) := by omega
  by_cases e : cap = n
  · rw [if_pos e]
    go_simp
  · rw [if_neg e]
    go_simp
section
variable {w : World} {r : Nat} {rv : Value} {A : La} {l : List Ms}
theorem encR_take_drop (st : Int) (l : List Ms) (i : Nat) : encR st l = encR st (l.take i) ++ encR st (l.drop i) := by rw [← encR_app, List.take_append_drop]
set_option maxHeartbeats 2000000 in
theorem rret_other (x : Rq w r rv A l) (q e : Int) (he : ¬ e = A.ep) :
    Calls Try.prog 23 #[pV r, tkV q e] w fun v w' => v = .returned (.tuple #[slV 0 0, .bool false, .int .i64 0]) ∧ RGo w r rv w' A l := by
  have hb := jalloc (jalloc (Below.refl _ w) (.cells #[.int .u64 q, .int .u64 e] 34)) (.cells #[.int .i64 0, .int .u64 0] 36)
  have b2 := fun W hW => jtwo (w := w) (w' := W) (x := .int .u64 q) (y := .int .u64 e) (u := .int .i64 0) (v := .int .u64 0) (T := 34) (U := 36) hW
  have HX : Hid (Rq w r rv A l) := x
  have x1 := x.below hb
  have c3 := x1.cell 3
  simp only [List.getElem?_toArray, List.getElem?_cons_succ, List.getElem?_cons_zero] at c3
  obtain ⟨w1, hw1⟩ : ∃ w1, (w.alloc (.cells #[.int .u64 q, .int .u64 e] 34)).alloc (.cells #[.int .i64 0, .int .u64 0] 36) = w1 := ⟨_, rfl⟩
  rw [hw1] at hb b2 c3
  have HB : Hid (Below w.heap.size w w1) := hb
  obtain ⟨⟨_, d1, _⟩, _⟩ := b2 _ (Below.refl _ _)
  obtain ⟨B, hBs⟩ : ∃ B, w.heap.size = B := ⟨_, rfl⟩
  rw [hBs] at d1 b2
  have r3 := cell_regrown c3
  have r1 := cell_regrown d1
  clear x x1 hb c3 d1
  generalize A.ep = ep at *
  unfold tkV
  go_enter Try.func23, Try.ntmps23
  go_wp2_with fail
  clear hw1
  refine wp_region_quiet_below (by kernel_rfl) (by kernel_rfl) ?_
  repeat (go_big_quiet_step (fail))
  refine wpQuiet_nil ?_
  intro _ hw'
  obtain ⟨⟨dq, osq⟩, hw''⟩ := hw'
  subst hw''
  have hb2 := below_regrown w1 dq osq
  obtain ⟨_, k2, k3, kg⟩ := b2 _ hb2
  have HB2 : Hid (Below w.heap.size w (grow (redrawn w1 dq) osq)) := Below.onto HB.out hb2
  clear b2 hb2 HB r3 r1
  generalize grow (redrawn w1 dq) osq = w2 at *
  go_wp2_with fail
  refine bodyPost_ret (v := .tuple #[slV 0 0, .bool false, .int .i64 0]) (by simp [results, Try.results23, go_sem, k2, k3, slV]) rfl ⟨rfl, RGo.stay HX.out ?_⟩
  iterate 2 (refine Below.setCell ?_ (by show _ ≤ B + 1; omega) _)
  exact HB2.out
set_option maxHeartbeats 4000000 in
theorem rret_at (x : Rq w r rv A l) (hl : l.length ≤ 900) (q e : Int) (he : e = A.ep) (vn vg : Int) (vb : Bool) (er : Int) (l' : List Ms)
    (hno : fdI A l q e 3 = -1 → vn = 0 ∧ vg = 0 ∧ vb = false ∧ er = 82 ∧ l' = l)
    (h2 : ∀ (i : Nat) m, fdI A l q e 3 = (i : Int) → l[i]? = some m → A.two = true → vn = m.n ∧ vg = m.g ∧ vb = true ∧ er = 0 ∧ l' = l.take i ++ l.drop (i + 1))
    (h1 : ∀ (i : Nat) m, fdI A l q e 3 = (i : Int) → l[i]? = some m → A.two = false → vn = 0 ∧ vg = 0 ∧ vb = false ∧ er = 0 ∧ l' = l.set i { m with is := 4 })
    (hfd : fdI A l q e 3 = -1 ∨ ∃ (i : Nat) (m : Ms), fdI A l q e 3 = (i : Int) ∧ l[i]? = some m) :
    Calls Try.prog 23 #[pV r, tkV q e] w fun v w' => v = .returned (.tuple #[slV vn vg, .bool vb, .int .i64 er]) ∧ RGo w r rv w' A l' := by
  have hb := jalloc (jalloc (Below.refl _ w) (.cells #[.int .u64 q, .int .u64 e] 34)) (.cells #[.int .i64 0, .int .u64 0] 36)
  have b2 := fun W hW => jtwo (w := w) (w' := W) (x := .int .u64 q) (y := .int .u64 e) (u := .int .i64 0) (v := .int .u64 0) (T := 34) (U := 36) hW
  have HX : Hid (Rq w r rv A l) := x
  have hrl := x.lt
  have x1 := x.below hb
  have c3 := x1.cell 3
  simp only [List.getElem?_toArray, List.getElem?_cons_succ, List.getElem?_cons_zero] at c3
  rw [← he] at c3
  obtain ⟨w1, hw1⟩ : ∃ w1, (w.alloc (.cells #[.int .u64 q, .int .u64 e] 34)).alloc (.cells #[.int .i64 0, .int .u64 0] 36) = w1 := ⟨_, rfl⟩
  have hs1 : w1.heap.size = w.heap.size + 2 := by rw [← hw1]; simp
  rw [hw1] at hb b2 c3
  have HB : Hid (Below w.heap.size w w1) := hb
  obtain ⟨⟨_, d1, _⟩, _⟩ := b2 _ (Below.refl _ _)
  obtain ⟨B, hBs⟩ : ∃ B, w.heap.size = B := ⟨_, rfl⟩
  rw [hBs] at d1 b2
  have r3 := cell_regrown c3
  have r1 := cell_regrown d1
  have HFD : Hid (fdI A l q e 3 = -1 ∨ ∃ (i : Nat) (m : Ms), fdI A l q e 3 = (i : Int) ∧ l[i]? = some m) := hfd
  have HNO : Hid (fdI A l q e 3 = -1 → vn = 0 ∧ vg = 0 ∧ vb = false ∧ er = 82 ∧ l' = l) := hno
  have H2 : Hid (∀ (i : Nat) m, fdI A l q e 3 = (i : Int) → l[i]? = some m → A.two = true → vn = m.n ∧ vg = m.g ∧ vb = true ∧ er = 0 ∧ l' = l.take i ++ l.drop (i + 1)) := h2
  have H1 : Hid (∀ (i : Nat) m, fdI A l q e 3 = (i : Int) → l[i]? = some m → A.two = false → vn = 0 ∧ vg = 0 ∧ vb = false ∧ er = 0 ∧ l' = l.set i { m with is := 4 }) := h1
  have HE : Hid (e = A.ep) := he
  clear x x1 hb c3 d1 hno h2 h1 hfd he
  unfold tkV
  go_enter Try.func23, Try.ntmps23
  go_wp2_with fail
  clear hw1
  refine wp_region_quiet_below (by kernel_rfl) (by kernel_rfl) ?_
  repeat (go_big_quiet_step (fail))
  refine wpQuiet_nil ?_
  intro _ hw'
  obtain ⟨⟨dq, osq⟩, hw''⟩ := hw'
  subst hw''
  have hb2 := below_regrown w1 dq osq
  have HB2 : Hid (Below w.heap.size w (grow (redrawn w1 dq) osq)) := Below.onto HB.out hb2
  have b3 := fun W (hW : Below (grow (redrawn w1 dq) osq).heap.size (grow (redrawn w1 dq) osq) W) => b2 W (Below.onto hb2 hW)
  clear b2 hb2 HB r3 r1
  generalize grow (redrawn w1 dq) osq = w2 at *
  obtain ⟨⟨d0, d1, _⟩, _⟩ := b3 _ (Below.refl _ _)
  have cF := rfind w2 r rv A l (HX.out.below HB2.out) (by omega) q e 3
  unfold tkV at cF
  have hs2 : w.heap.size + 2 ≤ w2.heap.size := by
    have h9 := cell_lt ((b3 _ (Below.refl _ _)).2.1)
    omega
  have HS2 : Hid (w.heap.size + 2 ≤ w2.heap.size) := hs2
  clear hs1 hs2
  rcases HFD.out with hf | ⟨i, m, hf, hm⟩
  · rw [hf] at cF
    obtain ⟨rfl, rfl, rfl, rfl, rfl⟩ := HNO.out hf
    clear HNO H2 H1 HFD
    go_wp2_with fail
    refine cF.mono ?_
    rintro v w3 ⟨rfl, hb3⟩
    obtain ⟨_, k2, k3, kg⟩ := b3 _ hb3
    clear cF b3
    go_wp2_with fail
    refine bodyPost_ret (v := .tuple #[slV 0 0, .bool false, .int .i64 82]) (by simp [results, Try.results23, go_sem, k2, k3, slV]) rfl ⟨rfl, RGo.stay HX.out ?_⟩
    iterate 2 (refine Below.setCell ?_ (by show _ ≤ B + 1; omega) _)
    exact Below.onto HB2.out hb3
  · have hi := (List.getElem?_eq_some_iff.1 hm).1
    rw [hf] at cF
    go_wp2_with fail
    refine cF.mono ?_
    rintro v w3 ⟨rfl, hb3⟩
    have x3 := HX.out.below (Below.onto HB2.out hb3)
    obtain ⟨g0, cap, rfl, hcp, _, c0, c1, c2, c3, c4, c5, c6⟩ := x3.at_ hm
    have k4 := x3.cell 4
    have kt := x3.cell 1
    simp only [List.getElem?_toArray, List.getElem?_cons_succ, List.getElem?_cons_zero] at k4 kt
    have b4 := fun W (hW : Below w3.heap.size w3 W) => b3 W (Below.onto hb3 hW)
    have HB3 : Hid (Below w.heap.size w w3) := Below.onto HB2.out hb3
    have HS3 : Hid (w.heap.size + 2 ≤ w3.heap.size) := Nat.le_trans HS2.out hb3.size
    clear cF b3 d0 d1
    cases ht : A.two
    · obtain ⟨rfl, rfl, rfl, rfl, hl'⟩ := H1.out i m hf hm ht
      have HL : Hid (l' = l.set i { m with is := 4 }) := hl'
      rw [ht] at kt
      have hb4 := jalloc (Below.refl _ w3) (.cells #[.int .u64 (sqI A.st m.k), .int .i64 4, .bool m.laid, .int .i64 m.n, .int .u64 m.g, .int .i64 m.tk, .int .i64 m.sp] 72)
      have cS := rset _ r _ A l (x3.below hb4) (by omega) i hi { m with is := 4 }
      unfold mrV at cS
      have kt := fun z => jcells (jalloc (Below.refl _ w3) z) kt
      obtain ⟨_, e2, e3, eg⟩ := b4 _ hb4
      have HB4 : Hid (Below w.heap.size w (w3.alloc (.cells #[.int .u64 (sqI A.st m.k), .int .i64 4, .bool m.laid, .int .i64 m.n, .int .u64 m.g, .int .i64 m.tk, .int .i64 m.sp] 72))) := Below.onto HB3.out hb4
      clear HNO H2 H1 HFD hl' x3 hb4 b4 ht hb3
      go_wp2_with fail
      refine cS.mono ?_
      rintro v w5 ⟨rfl, rv', y, hbut, hown⟩
      have e2 := hbut.cell e2 (by omega)
      have e3 := hbut.cell e3 (by omega)
      have eg : ∀ i, w5.frozen? ⟨B + 1, i, none⟩ = false := fun i => (World.frozen?_of_block (a := ⟨B + 1, i, none⟩) (hbut.block (B + 1) (by have := HS3.out; simp; omega) (by omega))).trans (eg i)
      have HY : Hid (Rq w5 r rv' A (l.set i { m with is := 4 })) := y
      have HBT : Hid (But (fun b => b = r) w w5) := (But.of HB4.out).trans hbut
      have HOW : Hid (∀ b, rv'.ownBlock = some b → (Value.slice (some ⟨g0, 0, none⟩) l.length cap).ownBlock = some b ∨ w3.heap.size + 1 ≤ b) := fun b hb => by simpa using hown b hb
      have HGL : Hid (g0 < w.heap.size) := (HX.out.ow.lt g0 rfl).2
      clear cS y hbut hown
      go_wp2_with fail
      refine bodyPost_ret (v := .tuple #[slV 0 0, .bool false, .int .i64 0]) (by simp [results, Try.results23, go_sem, e2, e3, slV]) rfl ⟨rfl, ?_⟩
      rw [HL.out]
      refine ⟨rv', (HY.out.but (S := fun b => b = B + 1) (But.setCell (S := fun b => b = B + 1) (But.setCell (S := fun b => b = B + 1) (But.refl _ w5) (p := ⟨B + 1, 0, none⟩) rfl _) (p := ⟨B + 1, 1, none⟩) rfl _) fun b hb hs => ?_), (HBT.out.setNew (p := ⟨B + 1, 0, none⟩) (by show _ ≤ B + 1; omega) _).setNew (p := ⟨B + 1, 1, none⟩) (by show _ ≤ B + 1; omega) _, fun b hb => (HOW.out b hb).imp id fun h => by have := HS3.out; omega⟩
      rcases hb with hb | hb
      · omega
      · have := HS3.out
        rcases HOW.out b hb with h | h
        · have := HGL.out
          simp [Value.ownBlock] at h
          omega
        · omega
    · obtain ⟨rfl, rfl, rfl, rfl, hl'⟩ := H2.out i m hf hm ht
      have HL : Hid (l' = l.take i ++ l.drop (i + 1)) := hl'
      rw [ht] at kt
      have hb4 := jalloc (Below.refl _ w3) (.cells #[.int .u64 (sqI A.st m.k), .int .i64 (m.is : Int), .bool m.laid, .int .i64 m.n, .int .u64 m.g, .int .i64 m.tk, .int .i64 m.sp] 72)
      have kt := fun z => jcells (jalloc (Below.refl _ w3) z) kt
      have nw := fun k hk => jnew_at w3 #[.int .u64 (sqI A.st m.k), .int .i64 (m.is : Int), .bool m.laid, .int .i64 m.n, .int .u64 m.g, .int .i64 m.tk, .int .i64 m.sp] 72 k hk
      have n3 := nw 3 (by simp)
      have n4 := nw 4 (by simp)
      simp only [List.getElem_toArray, List.getElem_cons_zero, List.getElem_cons_succ] at n3 n4
      have x4 := x3.below hb4
      obtain ⟨_, e2, e3, eg⟩ := b4 _ hb4
      have HB4 : Hid (Below w.heap.size w (w3.alloc (.cells #[.int .u64 (sqI A.st m.k), .int .i64 (m.is : Int), .bool m.laid, .int .i64 m.n, .int .u64 m.g, .int .i64 m.tk, .int .i64 m.sp] 72))) := Below.onto HB3.out hb4
      have HSZ : Hid ((w3.alloc (.cells #[.int .u64 (sqI A.st m.k), .int .i64 (m.is : Int), .bool m.laid, .int .i64 m.n, .int .u64 m.g, .int .i64 m.tk, .int .i64 m.sp] 72)).heap.size = w3.heap.size + 1) := by show _ = _; simp
      clear HNO H2 H1 HFD hl' x3 hb4 b4 ht hb3 nw
      have HI : Hid (i < l.length) := hi
      obtain ⟨N, hN⟩ : ∃ N, l.length = N := ⟨_, rfl⟩
      have HN : Hid (l.length = N) := hN
      rw [hN] at k4 hi hl hcp
      have hk4 := x4.cell 4
      simp only [List.getElem?_toArray, List.getElem?_cons_succ, List.getElem?_cons_zero] at hk4
      rw [hN] at hk4
      go_wp2_with fail
      generalize w3.alloc (.cells #[.int .u64 (sqI A.st m.k), .int .i64 (m.is : Int), .bool m.laid, .int .i64 m.n, .int .u64 m.g, .int .i64 m.tk, .int .i64 m.sp] 72) = w4 at *
      have hsrc1 : Src w4 (.slice (some ⟨g0, 0, none⟩) i cap) i (encR A.st (l.take i)) := by
        refine .inr ⟨g0, 0, cap, rfl, fun j y hj => ?_⟩
        have hjl := (List.getElem?_eq_some_iff.1 hj).1
        rw [encR_len, List.length_take] at hjl
        rw [Nat.zero_add, x4.ow.cellAt j (by omega), encR_take_drop A.st l i, List.getElem?_append_left (by rw [encR_len, List.length_take]; omega)]
        exact hj
      have hsrc2 : Src w4 (.slice (some ⟨g0, if cap = i + 1 then 0 else (i + 1) * 7, none⟩) (N - (i + 1)) (cap - (i + 1))) (N - (i + 1)) (encR A.st (l.drop (i + 1))) := by
        refine .inr ⟨g0, _, _, rfl, fun j y hj => ?_⟩
        have hjl := (List.getElem?_eq_some_iff.1 hj).1
        rw [encR_len, List.length_drop, HN.out] at hjl
        rw [if_neg (by omega)]
        rw [x4.ow.cellAt ((i + 1) * 7 + j) (by rw [HN.out]; omega), encR_take_drop A.st l (i + 1), List.getElem?_append_right (by rw [encR_len, List.length_take]; omega), encR_len, List.length_take, ← hj]
        congr 1
        rw [Nat.min_eq_left (by rw [HN.out]; omega)]
        omega
      refine rtr_region (r := r) (N := N) (cv := cap) (av := some ⟨g0, 0, none⟩) (k := i) (m1 := i) (m2 := N - (i + 1)) (S1 := .slice (some ⟨g0, 0, none⟩) i cap) (S2 := .slice (some ⟨g0, if cap = i + 1 then 0 else (i + 1) * 7, none⟩) (N - (i + 1)) (cap - (i + 1))) (xs1 := encR A.st (l.take i)) (xs2 := encR A.st (l.drop (i + 1))) rfl rfl (by kernel_rfl) (by kernel_rfl) (by kernel_rfl) rfl rfl rfl rfl rfl rfl rfl rfl rfl rfl rfl rfl rfl rfl rfl rfl rfl rfl rfl rfl rfl rfl rfl rfl rfl rfl rfl rfl rfl rfl rfl rfl rfl rfl rfl rfl rfl rfl rfl rfl rfl rfl rfl rfl (by omega) hk4 (fun W hW => (x4.below hW).fz 4) (run_rlow rfl (by omega) (by omega)) (run_rhigh rfl (by omega)) hsrc1 (by rw [encR_len, List.length_take]; omega) (encR_one _ _) hsrc2 (by rw [encR_len, List.length_drop]; omega) (encR_one _ _) (by omega) (by kernel_rfl) (by kernel_rfl) (by kernel_rfl) (by kernel_rfl) (fun _ _ d _ _ h => by cases d <;> exact h) ?_
      intro vA vB vC W9 hown9 hb9
      simp only [Act.put, List.setIfInBounds_toArray, List.set_cons_zero, List.set_cons_succ]
      obtain ⟨ad, cp, hvC⟩ := own_form hown9
      subst hvC
      have x9 := x4.below hb9
      have hs4 := HSZ.out
      have hs3 := HS3.out
      have hneC : ∀ b, (Value.slice ad (i + (N - (i + 1))) cp).ownBlock = some b → w4.heap.size ≤ b := fun b e => (hown9.lt b e).1
      have hne : ¬ (Value.slice ad (i + (N - (i + 1))) cp).ownBlock = some r := fun e => by have := hneC r e; omega
      have hlen : (l.take i ++ l.drop (i + 1)).length = i + (N - (i + 1)) := by rw [List.length_append, List.length_take, List.length_drop, HN.out]; omega
      have R5 : Rq (W9.setCell ⟨r, 4, none⟩ (.slice ad (i + (N - (i + 1))) cp)) r (.slice ad (i + (N - (i + 1))) cp) A (l.take i ++ l.drop (i + 1)) := rq_put x9.bl (by rw [hlen, encR_app]; exact hown9) hne
      have ot : ∀ {b j : Nat} {u : Value}, b ≠ r → w4.cell? ⟨b, j, none⟩ = some u → (W9.setCell ⟨r, 4, none⟩ (.slice ad (i + (N - (i + 1))) cp)).cell? ⟨b, j, none⟩ = some u := fun hb h => by
        rw [World.cell?_setCell_other _ _ _ _ (by intro h; injection h with h1 _ _; exact hb h1.symm)]
        exact jcells hb9 h
      obtain ⟨D, hD⟩ : ∃ D, w3.heap.size = D := ⟨_, rfl⟩
      rw [hD] at n3 n4 hs4 hs3
      have n3 := ot (by omega) n3
      have n4 := ot (by omega) n4
      have e2 := ot (by omega) e2
      have e3 := ot (by omega) e3
      have eg : ∀ j, (W9.setCell ⟨r, 4, none⟩ (.slice ad (i + (N - (i + 1))) cp)).frozen? ⟨B + 1, j, none⟩ = false := fun j => by
        rw [World.frozen?_setCell]
        exact (World.frozen?_of_block (a := ⟨B + 1, j, none⟩) (hb9.block (B + 1) (by omega))).trans (eg j)
      have HR5 : Hid (Rq (W9.setCell ⟨r, 4, none⟩ (.slice ad (i + (N - (i + 1))) cp)) r (.slice ad (i + (N - (i + 1))) cp) A (l.take i ++ l.drop (i + 1))) := R5
      have HE5 : Hid (But (fun b => b = r) w (W9.setCell ⟨r, 4, none⟩ (.slice ad (i + (N - (i + 1))) cp))) := But.setCell (S := fun b => b = r) (But.of (Below.onto HB4.out hb9)) (p := ⟨r, 4, none⟩) rfl _
      have HNC : Hid (∀ b, (Value.slice ad (i + (N - (i + 1))) cp).ownBlock = some b → B + 2 ≤ b) := fun b hb => by have := hneC b hb; omega
      clear x9 x4 hown9 hb9 hneC hne hlen R5 ot hsrc1 hsrc2 hk4 k4 c0 c1 c2 c3 c4 c5 c6 kt
      generalize W9.setCell ⟨r, 4, none⟩ (.slice ad (i + (N - (i + 1))) cp) = w5 at *
      generalize Value.slice ad (i + (N - (i + 1))) cp = vC at *
      go_wp2_with fail
      all_goals
        refine bodyPost_ret (v := .tuple #[slV m.n m.g, .bool true, .int .i64 0]) (by simp [results, Try.results23, go_sem, e2, e3, slV]) rfl ⟨rfl, ?_⟩
        rw [HL.out]
        refine ⟨vC, (HR5.out.but (S := fun b => b = B + 1) (But.setCell (S := fun b => b = B + 1) (But.setCell (S := fun b => b = B + 1) (But.refl _ w5) (p := ⟨B + 1, 0, none⟩) rfl _) (p := ⟨B + 1, 1, none⟩) rfl _) fun b hb hs => ?_), (HE5.out.setNew (p := ⟨B + 1, 0, none⟩) (by show _ ≤ B + 1; omega) _).setNew (p := ⟨B + 1, 1, none⟩) (by show _ ≤ B + 1; omega) _, fun b hb => .inr (by have := HNC.out b hb; omega)⟩
        rcases hb with hb | hb
        · omega
        · have := HNC.out b hb
          omega
end
end Go.Proofs.Ytilahfomiofgcaa
