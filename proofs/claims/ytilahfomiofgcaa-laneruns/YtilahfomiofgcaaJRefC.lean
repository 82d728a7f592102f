/- The document's Claim. -/
import Derived.Test.YtilahfomiofgcaaJReg
import Derived.Deep.RegionHeld3
namespace Go.Proofs.Ytilahfomiofgcaa
open Go.RowKit Go.Sort
set_option maxRecDepth 100000

section
variable {w : World} {r : Nat} {rv : Value} {A : La} {l : List Ms}
set_option maxHeartbeats 2000000 in
theorem rclaim_no (x : Rq w r rv A l) (hr : A.cr ≤ l.length) :
    Calls Try.prog 16 #[pV r] w fun v w' => v = .returned (.tuple #[tkV 0 0, .int .i64 81]) ∧ RGo w r rv w' A l := by
  obtain ⟨a0, cap0, hv0⟩ := x.form
  subst hv0
  have hb := jalloc (Below.refl _ w) (.cells #[.int .u64 0, .int .u64 0] 34)
  have b2 := fun W hW => jbox2 (w := w) (w' := W) (x := .int .u64 0) (y := .int .u64 0) (T := 34) hW
  have x1 := x.below hb
  have r4 := x1.cell 4
  have r0 := x1.cell 0
  simp only [List.getElem?_toArray, List.getElem?_cons_succ, List.getElem?_cons_zero] at r4 r0
  obtain ⟨w1, hw1⟩ : ∃ w1, w.alloc (.cells #[.int .u64 0, .int .u64 0] 34) = w1 := ⟨_, rfl⟩
  rw [hw1] at r4 r0 hb b2
  have r4 := cell_regrown r4
  have r0 := cell_regrown r0
  have HX : Hid (Rq w r (.slice a0 l.length cap0) A l) := x
  have HB : Hid (Below w.heap.size w w1) := hb
  clear x x1 hb
  generalize hN : l.length = N at *
  generalize A.cr = cr at *
  have h1 : decide ((cr : Int) ≤ (N : Int)) = true := by simp; omega
  have h2 : (cr : Int) ≤ (N : Int) := by omega
  obtain ⟨B, hBs⟩ : ∃ B, w.heap.size = B := ⟨_, rfl⟩
  go_enter Try.func16, Try.ntmps16
  go_wp2_with fail
  clear hw1
  refine wp_region_quiet_below (by kernel_rfl) (by kernel_rfl) ?_
  repeat (go_big_quiet_step (fail))
  refine wpQuiet_nil ?_
  intro _ hw'
  obtain ⟨⟨dq, osq⟩, hw''⟩ := hw'
  subst hw''
  have hb2 := below_regrown w1 dq osq
  obtain ⟨k0, k1, kf⟩ := b2 _ hb2
  rw [hBs] at k0 k1 kf
  have HB2 : Hid (Below w.heap.size w (grow (redrawn w1 dq) osq)) := Below.onto HB.out hb2
  clear b2 hb2 HB r4 r0
  generalize grow (redrawn w1 dq) osq = w2 at *
  go_wp2_with fail
  refine bodyPost_ret (v := .tuple #[tkV 0 0, .int .i64 81]) (by simp [results, Try.results16, go_sem, k0, k1, tkV]) rfl ⟨rfl, RGo.stay HX.out ?_⟩
  iterate 2 (refine Below.setCell ?_ (by exact Nat.le_of_eq hBs) _)
  exact HB2.out
set_option maxHeartbeats 8000000 in
theorem rclaim_ok (x : Rq w r rv A l) (hl : l.length ≤ 900) (hr : l.length < A.cr) (A' : La) (hA : A'.cr = A.cr ∧ A'.two = A.two ∧ A'.st = A.st ∧ A'.ep = A.ep ∧ A'.c = A.c + 1) (q : Int) (hq : sqI A.st A.c = q) (e : Int) (he : A.ep = e) :
    Calls Try.prog 16 #[pV r] w fun v w' => v = .returned (.tuple #[tkV q e, .int .i64 0]) ∧ RGo w r rv w' A' (l ++ [⟨A.c, 1, false, 0, 0, 0, 0⟩]) := by
  obtain ⟨a0, cap0, hv0⟩ := x.form
  subst hv0
  have hb := jalloc (Below.refl _ w) (.cells #[.int .u64 0, .int .u64 0] 34)
  have b2 := fun W hW => jbox2 (w := w) (w' := W) (x := .int .u64 0) (y := .int .u64 0) (T := 34) hW
  have x1 := x.below hb
  obtain ⟨w1, hw1⟩ : ∃ w1, w.alloc (.cells #[.int .u64 0, .int .u64 0] 34) = w1 := ⟨_, rfl⟩
  rw [hw1] at hb b2 x1
  have hs1 : w1.heap.size = w.heap.size + 1 := by rw [← hw1]; simp
  have hrl := x.lt
  have cells : ∀ {W : World}, Below w1.heap.size w1 W → W.cell? ⟨r, 0, none⟩ = some (.int .i64 (A.cr : Int)) ∧ W.cell? ⟨r, 2, none⟩ = some (.int .u64 q) ∧ W.cell? ⟨r, 3, none⟩ = some (.int .u64 e) ∧ W.cell? ⟨r, 4, none⟩ = some (.slice a0 l.length cap0) := fun hW => by
    have y := x1.below hW
    refine ⟨y.cell 0, ?_, ?_, y.cell 4⟩
    · rw [← hq]; exact y.cell 2
    · rw [← he]; exact y.cell 3
  have HX1 : Hid (Rq w1 r (.slice a0 l.length cap0) A l) := x1
  have HB : Hid (Below w.heap.size w w1) := hb
  have HA : Hid (A'.cr = A.cr ∧ A'.two = A.two ∧ A'.st = A.st ∧ A'.ep = A.ep ∧ A'.c = A.c + 1) := hA
  have HQ : Hid (sqI A.st A.c = q ∧ A.ep = e) := ⟨hq, he⟩
  obtain ⟨c0, _, _, c4⟩ := cells (Below.refl _ _)
  have r0 := cell_regrown c0
  have r4 := cell_regrown c4
  have HXw : Hid (Rq w r (.slice a0 l.length cap0) A l) := x
  clear x x1 hb hA hq he c0 c4
  obtain ⟨N, hN⟩ : ∃ N, l.length = N := ⟨_, rfl⟩
  rw [hN] at hl hr cells r4
  generalize hcrr : A.cr = cr at *
  have h1 : decide ((cr : Int) ≤ (N : Int)) = false := by simp; omega
  have h2 : ¬ (cr : Int) ≤ (N : Int) := by omega
  have h3 : ¬ cr ≤ N := by omega
  obtain ⟨B, hBs⟩ : ∃ B, w.heap.size = B := ⟨_, rfl⟩
  go_enter Try.func16, Try.ntmps16
  go_wp2_with fail
  clear hw1
  refine wp_region_quiet_below (by kernel_rfl) (by kernel_rfl) ?_
  repeat (go_big_quiet_step (fail))
  refine wpQuiet_nil ?_
  intro _ hw'
  obtain ⟨⟨dq, osq⟩, hw''⟩ := hw'
  subst hw''
  have hb2 := below_regrown w1 dq osq
  have HB2 : Hid (Below w1.heap.size w1 (grow (redrawn w1 dq) osq)) := hb2
  clear hb2 r0 r4
  generalize grow (redrawn w1 dq) osq = w2 at *
  go_wp2_with fail
  have toS : ∀ W, Below w2.heap.size w2 W → W.cell? ⟨r, 2, none⟩ = some (.int .u64 q) ∧ W.cell? ⟨r, 3, none⟩ = some (.int .u64 e) := fun W hW => by
    obtain ⟨_, c2, c3, _⟩ := cells (Below.onto HB2.out hW)
    exact ⟨c2, c3⟩
  have to2 := toS _ (Below.refl _ _)
  go_region_held3 (fun W => W.cell? ⟨r, 2, none⟩ = some (.int .u64 q) ∧ W.cell? ⟨r, 3, none⟩ = some (.int .u64 e)) (first | assumption | exact to2 | exact toS _ (Below.refl _ _).drew | exact toS _ (((Below.refl _ w2).alloc (Nat.le_refl _) _).drew) | exact toS _ ((Below.refl _ w2).alloc (Nat.le_refl _) _)) (fail)
  have hb3 := (jalloc (Below.refl _ w2) (.cells #[.int .u64 q, .int .u64 e] 34)).drew
  obtain ⟨d0, d1, _⟩ := jbox2 (w := w2) (w' := (w2.alloc (.cells #[.int .u64 q, .int .u64 e] 34)).drew) (x := .int .u64 q) (y := .int .u64 e) (T := 34) (Below.refl _ _).drew
  have HB3 : Hid (Below w1.heap.size w1 ((w2.alloc (.cells #[.int .u64 q, .int .u64 e] 34)).drew)) := Below.onto HB2.out hb3
  have hD2 : w1.heap.size ≤ w2.heap.size := HB2.out.size
  obtain ⟨D, hD⟩ : ∃ D, w2.heap.size = D := ⟨_, rfl⟩
  rw [hD] at d0 d1 hD2
  clear toS to2 hb3
  go_wp2_with fail
  generalize (w2.alloc (.cells #[.int .u64 q, .int .u64 e] 34)).drew = w3 at *
  have x3 := HX1.out.below HB3.out
  obtain ⟨_, c2, _, c4⟩ := cells HB3.out
  refine clm_region (r := r) (N := N) (cv := cap0) (av := a0) (q := q) (xs1 := encR A.st l) rfl rfl (by kernel_rfl) (by kernel_rfl) (by kernel_rfl) rfl rfl rfl rfl rfl rfl rfl rfl rfl rfl rfl rfl rfl rfl rfl rfl rfl rfl rfl rfl rfl rfl rfl rfl rfl rfl rfl rfl rfl rfl rfl rfl rfl rfl rfl rfl rfl rfl rfl rfl c4 c2 (fun W hW => (x3.below hW).fz 4) (by rw [← hN]; exact x3.src) (by rw [encR_len, hN]) (encR_one _ _) (by omega) (by kernel_rfl) (by kernel_rfl) (by kernel_rfl) (by kernel_rfl) (by kernel_rfl) (by kernel_rfl) (by kernel_rfl) (by kernel_rfl) (fun _ _ d _ _ h => by cases d <;> exact h) ?_
  intro vA vB vC vD W9 hown9 hb9
  simp only [Act.put, List.setIfInBounds_toArray, List.set_cons_zero, List.set_cons_succ]
  obtain ⟨ad, cp, hvD⟩ := own_form hown9
  subst hvD
  have x9 := x3.below hb9
  have hr3 : r < w3.heap.size := x3.lt
  have hneD : ∀ b, (Value.slice ad (N + 1) cp).ownBlock = some b → w3.heap.size ≤ b := fun b e => (hown9.lt b e).1
  have hne : ¬ (Value.slice ad (N + 1) cp).ownBlock = some r := fun e => by have := hneD r e; omega
  have hb19 := Below.onto HB3.out hb9
  have bl9 : W9.heap[r]? = some (.cells #[.int .i64 (A'.cr : Int), .bool A'.two, .int .u64 q, .int .u64 e, .slice a0 l.length cap0] 63 (0, 0)) := by
    have := x9.bl
    rw [HQ.out.1, HQ.out.2] at this
    rw [HA.out.1, HA.out.2.1, ← hcrr]
    exact this
  have hD9 := jcells hb9 d0
  have hD9' := jcells hb9 d1
  obtain ⟨k0, k1, kf⟩ := b2 _ hb19
  rw [hBs] at k0 k1 kf
  have hrB : r ≠ B := by omega
  have hDr : D ≠ r := by have := hs1; omega
  have e2 : (W9.setCell ⟨r, 4, none⟩ (.slice ad (N + 1) cp)).cell? ⟨r, 2, none⟩ = some (.int .u64 q) := by
    rw [World.cell?_setCell_other _ _ _ _ (by intro h; injection h with _ h2 _; omega)]
    exact cell_of_row _ _ 2 _ _ (0, 0) bl9
  have ot : ∀ {b j : Nat} {u : Value}, b ≠ r → W9.cell? ⟨b, j, none⟩ = some u → (W9.setCell ⟨r, 4, none⟩ (.slice ad (N + 1) cp)).cell? ⟨b, j, none⟩ = some u := fun hb h => by
    rw [World.cell?_setCell_other _ _ _ _ (by intro h; injection h with h1 _ _; exact hb h1.symm)]
    exact h
  have g0 := ot hDr hD9
  have g1 := ot hDr hD9'
  have m0 := ot hrB.symm k0
  have m1 := ot hrB.symm k1
  have mf : ∀ i, (W9.setCell ⟨r, 4, none⟩ (.slice ad (N + 1) cp)).frozen? ⟨B, i, none⟩ = false := fun i => by rw [World.frozen?_setCell]; exact kf i
  have rf : (W9.setCell ⟨r, 4, none⟩ (.slice ad (N + 1) cp)).frozen? ⟨r, 2, none⟩ = false := by rw [World.frozen?_setCell]; simp [World.frozen?, bl9]
  have bl5 := heap_setCell_same W9 r 4 _ _ (.slice ad (N + 1) cp) bl9
  have own5 := ownsRow_setCell_other hown9 (a := ⟨r, 4, none⟩) (fun h => hne h) (.slice ad (N + 1) cp)
  have hwr : IntKind.u64.wrap (q + 1) = sqI A.st (A.c + 1) := by rw [IntKind.wrap_u64, ← HQ.out.1]; exact sqI_succ _ _
  have HE5 : Hid (But (fun b => b = r) w (W9.setCell ⟨r, 4, none⟩ (.slice ad (N + 1) cp))) := But.setCell (S := fun b => b = r) (But.of (Below.onto HB.out hb19)) (p := ⟨r, 4, none⟩) rfl _
  have HBL : Hid ((W9.setCell ⟨r, 4, none⟩ (.slice ad (N + 1) cp)).heap[r]? = some (.cells #[.int .i64 (A'.cr : Int), .bool A'.two, .int .u64 q, .int .u64 e, .slice ad (N + 1) cp] 63 (0, 0))) := bl5
  have HOW : Hid ((W9.setCell ⟨r, 4, none⟩ (.slice ad (N + 1) cp)).ownsRow w3.heap.size 72 7 (.slice ad (N + 1) cp) (N + 1) (encR A.st l ++ [.int .u64 q, .int .i64 1, .bool false, .int .i64 0, .int .u64 0, .int .i64 0, .int .i64 0])) := own5
  have HSZ : Hid (w.heap.size + 1 ≤ w3.heap.size) := by have := HB3.out.size; show _ ≤ _; omega
  have HDV : Hid (∀ b, (Value.slice ad (N + 1) cp).ownBlock = some b → w3.heap.size ≤ b) := hneD
  clear x3 c2 c4 x9 hown9 hb9 hne hb19 bl9 hD9 hD9' k0 k1 kf ot d0 d1 bl5 own5 cells b2 hneD HB3 HB2 hr3
  generalize W9.setCell ⟨r, 4, none⟩ (.slice ad (N + 1) cp) = w5 at *
  rw [← hD] at g0 g1
  rw [hD] at g0 g1
  go_wp2_with fail
  have hF : RGo w r (.slice a0 l.length cap0) (((w5.setCell ⟨r, 2, none⟩ (.int .u64 (sqI A.st (A.c + 1)))).setCell ⟨B, 0, none⟩ (.int .u64 q)).setCell ⟨B, 1, none⟩ (.int .u64 e)) A' (l ++ [⟨A.c, 1, false, 0, 0, 0, 0⟩]) := by
    obtain ⟨a1, a2, a3, a4, a5⟩ := HA.out
    have hvB : ¬ (Value.slice ad (N + 1) cp).ownBlock = some B := fun h => by have := HDV.out B h; have := HSZ.out; omega
    have hvr : ¬ (Value.slice ad (N + 1) cp).ownBlock = some r := fun h => by have := HDV.out r h; have := HSZ.out; omega
    refine ⟨.slice ad (N + 1) cp, ⟨?_, ?_, hvr⟩, ?_, fun b hb => .inr (by have := HDV.out b hb; have := HSZ.out; omega)⟩
    · rw [Below.heap_setCell _ _ _ _ hrB, Below.heap_setCell _ _ _ _ hrB, a3, a4, a5, HQ.out.2]
      exact heap_setCell_same w5 r 2 _ _ _ HBL.out
    · have o1 := ownsRow_setCell_other HOW.out (a := ⟨r, 2, none⟩) (fun h => hvr h) (.int .u64 (sqI A.st (A.c + 1)))
      have o2 := ownsRow_setCell_other (ownsRow_setCell_other o1 (a := ⟨B, 0, none⟩) (fun h => hvB h) (.int .u64 q)) (a := ⟨B, 1, none⟩) (fun h => hvB h) (.int .u64 e)
      rw [a3, encR_app, List.length_append, hN]
      have e9 : encR A.st [⟨A.c, 1, false, 0, 0, 0, 0⟩] = [.int .u64 q, .int .i64 1, .bool false, .int .i64 0, .int .u64 0, .int .i64 0, .int .i64 0] := by rw [← HQ.out.1]; rfl
      rw [e9]
      exact World.ownsRow.mono o2 (Nat.zero_le _)
    · have hB5 : But (fun b => b = r) w (w5.setCell ⟨r, 2, none⟩ (.int .u64 (sqI A.st (A.c + 1)))) := But.setCell (S := fun b => b = r) HE5.out (p := ⟨r, 2, none⟩) rfl _
      exact (hB5.setNew (p := ⟨B, 0, none⟩) (Nat.le_of_eq hBs) _).setNew (p := ⟨B, 1, none⟩) (Nat.le_of_eq hBs) _
  exact bodyPost_ret (v := .tuple #[tkV q e, .int .i64 0]) (by simp [results, Try.results16, go_sem, m0, m1, tkV]) rfl ⟨rfl, hF⟩
end
end Go.Proofs.Ytilahfomiofgcaa
