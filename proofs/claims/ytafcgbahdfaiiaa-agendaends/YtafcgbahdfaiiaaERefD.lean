/- The document's First and Pop. -/
import Derived.Test.YtafcgbahdfaiiaaERefC
namespace Go.Proofs.Ytafcgbahdfaiiaa
open Go.RowKit Go.Sort
set_option maxRecDepth 100000

set_option maxHeartbeats 2000000 in
theorem FirstR {w : World} {r : Nat} {D : List En} {last : Nat} {Y : Nat → Prop} (a : Rn w r D last Y) (hD : D ≠ []) :
    Calls Try.prog 13 #[ptr r] w fun v w' => ∃ e, IsB D e ∧ v = .returned (tlV e) ∧ Below w.heap.size w w' := by
  obtain ⟨s, rv, x, _⟩ := a
  have hb1 : Below w.heap.size w (bxT w) := (Below.refl _ w).alloc (Nat.le_refl _) _
  have x1 := x.below hb1
  have cF := rfirst (bxT w) r rv D last x1
  obtain ⟨g, cap, hv, hc1, hc2⟩ := x1.form1 (List.length_pos_iff.2 hD)
  have hR := bxT_blk w
  have HX : Hid (Rd (bxT w) r rv D last) := x1
  have HR : Hid (Blk (bxT w) w.heap.size 27 [.int .i8 0, .int .i64 0]) := hR
  have HB : Hid (Below w.heap.size w (bxT w)) := hb1
  have HD : Hid (Srt D ∧ D ≠ []) := ⟨s, hD⟩
  have hbd := x.bd.1
  have hrN : Hid (r < w.heap.size) := x.bl.lt
  have hgN : Hid (g < w.heap.size) := (x.ow.lt g (by rw [hv]; rfl)).2
  clear x x1 hR s hD hb1
  obtain ⟨w1, hw1⟩ : ∃ w1, bxT w = w1 := ⟨_, rfl⟩
  rw [hw1] at cF HX HR HB
  unfold bxT at hw1
  generalize hN : w.heap.size = N at *
  go_enter Try.func13, Try.ntmps13
  go_wp2_with fail
  refine cF.mono ?_
  rintro v w2 ⟨k, rfl, hF, hb2⟩
  obtain ⟨q, e, hk, he, hB⟩ := hF.isB HD.out.1 HD.out.2
  have hql := (List.getElem?_eq_some_iff.1 he).1
  have x2 := HX.out.below hb2
  have hR2 := HR.out.below hb2
  obtain ⟨a0, a1, a2⟩ := x2.cells hv he
  have c0 := x2.bl.cell (i := 0) rfl
  rw [hv] at c0
  have r0 := hR2.cell (i := 0) rfl
  have r1 := hR2.cell (i := 1) rfl
  have rf := hR2.fz
  have HR3 := ((hR2.set 0 (.int .i8 e.k)).set 1 (.int .i64 e.m)).drew
  have s0 := HR3.cell (i := 0) (v := .int .i8 e.k) rfl
  have s1 := HR3.cell (i := 1) (v := .int .i64 e.m) rfl
  have hgne : g ≠ N := by have := hgN.out; omega
  have hrne : r ≠ N := by have := hrN.out; omega
  have HB2 : Hid (Below N w w2) := HB.out.trans (hb2.mono (by have := HR.out.lt; omega))
  have HBB : Hid (IsB D e) := hB
  subst hk
  clear cF hw1 hb2 x2 hR2 HR3 hF hB he hv HX HR
  generalize D.length = M at *
  go_wp2_with fail
  go_region
  go_wp2_with fail
  exact bodyPost_ret (v := tlV e) (by simp [results, Try.results13, go_sem, s0, s1]) rfl ⟨e, HBB.out, rfl, ((HB2.out.setCell (Nat.le_refl _) _).setCell (Nat.le_refl _) _).drew⟩
set_option maxHeartbeats 2000000 in
theorem First0 {w : World} {r : Nat} {last : Nat} {Y : Nat → Prop} (a : Rn w r [] last Y) :
    Calls Try.prog 13 #[ptr r] w fun v w' => v = .returned tl0 ∧ Below w.heap.size w w' := by
  obtain ⟨s, rv, x, _⟩ := a
  have hb1 : Below w.heap.size w (bxT w) := (Below.refl _ w).alloc (Nat.le_refl _) _
  have x1 := x.below hb1
  have cF := rfirst (bxT w) r rv [] last x1
  have HR : Hid (Blk (bxT w) w.heap.size 27 [.int .i8 0, .int .i64 0]) := bxT_blk w
  have HB : Hid (Below w.heap.size w (bxT w)) := hb1
  clear x x1 s hb1
  obtain ⟨w1, hw1⟩ : ∃ w1, bxT w = w1 := ⟨_, rfl⟩
  rw [hw1] at cF HR HB
  unfold bxT at hw1
  generalize hN : w.heap.size = N at *
  go_enter Try.func13, Try.ntmps13
  go_wp2_with fail
  refine cF.mono ?_
  rintro v w2 ⟨k, rfl, hF, hb2⟩
  have hk : k = -1 := by
    rcases hF with ⟨_, h⟩ | ⟨q, e, _, hq, _⟩
    · exact h
    · exact absurd hq (Nat.not_lt_zero _)
  subst hk
  have hR2 := HR.out.below hb2
  have r0 := hR2.cell (i := 0) rfl
  have r1 := hR2.cell (i := 1) rfl
  have rf := hR2.fz
  have HR3 := (hR2.set 0 (.int .i8 0)).set 1 (.int .i64 0)
  have s0 := HR3.cell (i := 0) (v := .int .i8 0) rfl
  have s1 := HR3.cell (i := 1) (v := .int .i64 0) rfl
  have HB2 : Hid (Below N w w2) := HB.out.trans (hb2.mono (by have := HR.out.lt; omega))
  clear cF hw1 hb2 hR2 HR3 hF HR
  go_wp2_with fail
  exact bodyPost_ret (v := tl0) (by simp [results, Try.results13, go_sem, s0, s1]) rfl ⟨rfl, (HB2.out.setCell (Nat.le_refl _) _).setCell (Nat.le_refl _) _⟩

set_option maxHeartbeats 2000000 in
theorem PopR {w : World} {r : Nat} {D : List En} {last : Nat} {Y : Nat → Prop} (a : Rn w r D last Y) (hD : D ≠ []) :
    Calls Try.prog 28 #[ptr r] w fun v w' => ∃ e, IsB D e ∧ v = .returned (tlV e) ∧ Rn w' r (dropD D e.n) last Y ∧ But (Els Y) w w' := by
  have a1 : Rn (bxT w) r D last (fun b => Y b ∨ b = w.heap.size) := a.box _
  have cF := FirstR a1 hD
  have HA : Hid (Rn (bxT w) r D last (fun b => Y b ∨ b = w.heap.size)) := a1
  have HR : Hid (Blk (bxT w) w.heap.size 27 [.int .i8 0, .int .i64 0]) := bxT_blk w
  have HE : Hid (But (Els Y) w (bxT w)) := bxT_but _ w
  clear a a1
  obtain ⟨w1, hw1⟩ : ∃ w1, bxT w = w1 := ⟨_, rfl⟩
  rw [hw1] at cF HR HA HE
  unfold bxT at hw1
  have HSZ : Hid (w.heap.size < w1.heap.size) := by rw [← hw1]; show _ < _; simp
  generalize hN : w.heap.size = N at *
  go_enter Try.func28, Try.ntmps28
  go_wp2_with fail
  refine cF.mono ?_
  rintro v w2 ⟨e, hB, rfl, hb2⟩
  clear cF hw1
  have a3 : Rn (bxV w2 e.k e.m) r D last (fun b => (Y b ∨ b = N) ∨ b = w2.heap.size) := (HA.out.below hb2).box _
  have hb3 : Below w2.heap.size w2 (bxV w2 e.k e.m) := (Below.refl _ w2).alloc (Nat.le_refl _) _
  have m0 := (blk_new w2 [.int .i8 e.k, .int .i64 e.m] 27)
  have hR3 := (HR.out.below hb2).below hb3
  have HE3 : Hid (But (Els Y) w (bxV w2 e.k e.m)) := (HE.out.trans (But.of hb2)).trans (But.of hb3)
  have cD := dropR a3 hB.1
  have hMN : N < w2.heap.size := Nat.lt_of_lt_of_le HSZ.out hb2.size
  obtain ⟨w3, hw3⟩ : ∃ w3, bxV w2 e.k e.m = w3 := ⟨_, rfl⟩
  have HM : Hid (Blk w3 w2.heap.size 27 [.int .i8 e.k, .int .i64 e.m]) := by rw [← hw3]; exact m0
  rw [hw3] at cD hR3 HE3
  unfold bxV at hw3
  have HR3 : Hid (Blk w3 N 27 [.int .i8 0, .int .i64 0]) := hR3
  have HBB : Hid (IsB D e) := hB
  clear a3 hb3 m0 hR3 hb2 hB HA HR HE
  generalize hM : w2.heap.size = M at *
  go_wp2_with fail
  refine cD.mono ?_
  rintro v w4 ⟨rfl, a4, b4⟩
  have hm4 := HM.out.but b4 (fun h => h (.inr rfl))
  have hr4 := HR3.out.but b4 (fun h => h (.inl (.inr rfl)))
  have m0 := hm4.cell (i := 0) rfl
  have m1 := hm4.cell (i := 1) rfl
  have r0 := hr4.cell (i := 0) rfl
  have r1 := hr4.cell (i := 1) rfl
  have rf := hr4.fz
  have hr5 := (hr4.set 0 (.int .i8 e.k)).set 1 (.int .i64 e.m)
  have s0 := hr5.cell (i := 0) (v := .int .i8 e.k) rfl
  have s1 := hr5.cell (i := 1) (v := .int .i64 e.m) rfl
  have hne : M ≠ N := by omega
  have A5 : Hid (Rn ((w4.setCell ⟨N, 0, none⟩ (.int .i8 e.k)).setCell ⟨N, 1, none⟩ (.int .i64 e.m)) r (dropD D e.n) last Y) := (a4.but (fill_but (S := fun b => b = N) (But.refl _ _) rfl _ _) (fun _ h => .inl (.inr h))).less fun _ h => .inl (.inl h)
  have E5 : Hid (But (Els Y) w ((w4.setCell ⟨N, 0, none⟩ (.int .i8 e.k)).setCell ⟨N, 1, none⟩ (.int .i64 e.m))) :=
    (HE3.out.trans (b4.mono fun b hb hy => hb (.inl (.inl hy)))).onto (fill_but (S := fun b => b = N) (But.refl _ _) rfl _ _) fun b hb => .inr (by omega)
  clear cD hw3 a4 b4 hm4 hr4 hr5 HM HR3 HE3
  go_wp2_with fail
  exact bodyPost_ret (v := tlV e) (by simp [results, Try.results28, go_sem, s0, s1]) rfl ⟨e, HBB.out, rfl, A5.out, E5.out⟩
end Go.Proofs.Ytafcgbahdfaiiaa
