/- The law's 'moved': a call of two lanes whose numbers are moved. (Written by wip/tools/jmoved.py.) -/
import Derived.Test.YtkgjikfndinpoaaJLike2
import Derived.Test.YtkgjikfndinpoaaJSame
import Derived.Test.YtkgjikfndinpoaaJOneWay
namespace Go.Proofs.Ytkgjikfndinpoaa
open Go.RowKit Go.Sort
set_option maxRecDepth 100000

theorem pubA_st (A : La) (q e t s : Int) : (pubA A q e t s).st = A.st := by
  unfold pubA
  split
  · split <;> rfl
  · rfl
theorem takeA_st (A : La) : (takeA A).st = A.st := by unfold takeA; split <;> rfl
theorem retA_st (A : La) (q e : Int) : (retA A q e).st = A.st := by
  unfold retA
  split
  · split <;> rfl
  · rfl
theorem resA_st (A : La) : (resA A).st = A.st := by unfold resA; split <;> rfl
/-- what Reset tells -/
def ResetTells : Prop := ∀ (w : World) (p : Nat) (A : La) (X : Nat → Prop), Ln w p A X → Calls Try.prog 17 #[pV p] w fun e w' => (∃ v, e = .returned (.tuple #[v, .int .i64 (resE A)]) ∧ SlN w.heap.size w' v (resL A)) ∧ Ln w' p (resA A) X ∧ But (Els X) w w'

set_option maxHeartbeats 4000000 in
theorem jmoved (s : Int) (A : La) (h0 : A.st = 0) (hc : A.c < 1000000) (o : Jo) (hq : o.okq) (p r : Nat) (Y : Nat → Prop) (w : World) (t : Two w p r A (atS A s) Y) (cR : Hid ResetTells) (q' : Int) (hm : q' = mvI s o.q) :
    Calls Try.prog 19 #[pV p, pV r, joV o, .agg #[.int .i64 o.k, .int .u64 q', .int .u64 o.e, .int .i64 o.n, .int .u64 o.g, .int .i64 o.t, .int .i64 o.s], .int .u64 s] w fun e w' => e = .returned (.bool true) ∧ (∃ A' : La, A'.st = 0 ∧ A'.c ≤ A.c + 1 ∧ Two w' p r A' (atS A' s) Y) ∧ But (Els Y) w w' := by
  have HM : Hid (q' = mvI s o.q) := hm
  have q0 : 0 ≤ q' := by rw [hm]; exact mv_0 _ _
  have q1 : q' < 18446744073709551616 := by rw [hm]; exact mv_1 _ _
  have HQ : Hid o.okq := hq
  have hsz : (w.alloc (.cells #[.int .i64 o.k, .int .u64 o.q, .int .u64 o.e, .int .i64 o.n, .int .u64 o.g, .int .i64 o.t, .int .i64 o.s] 40)).heap.size = w.heap.size + 1 := by simp
  have t4 := (t.box (.cells #[.int .i64 o.k, .int .u64 o.q, .int .u64 o.e, .int .i64 o.n, .int .u64 o.g, .int .i64 o.t, .int .i64 o.s] 40)).box (.cells #[.int .i64 o.k, .int .u64 q', .int .u64 o.e, .int .i64 o.n, .int .u64 o.g, .int .i64 o.t, .int .i64 o.s] 40)
  rw [hsz] at t4
  have T4 : Hid (Two ((w.alloc (.cells #[.int .i64 o.k, .int .u64 o.q, .int .u64 o.e, .int .i64 o.n, .int .u64 o.g, .int .i64 o.t, .int .i64 o.s] 40)).alloc (.cells #[.int .i64 o.k, .int .u64 q', .int .u64 o.e, .int .i64 o.n, .int .u64 o.g, .int .i64 o.t, .int .i64 o.s] 40)) p r A (atS A s) (fun b => (Y b ∨ b = w.heap.size) ∨ b = w.heap.size + 1)) := t4
  have E4 : Hid (But (Els Y) w ((w.alloc (.cells #[.int .i64 o.k, .int .u64 o.q, .int .u64 o.e, .int .i64 o.n, .int .u64 o.g, .int .i64 o.t, .int .i64 o.s] 40)).alloc (.cells #[.int .i64 o.k, .int .u64 q', .int .u64 o.e, .int .i64 o.n, .int .u64 o.g, .int .i64 o.t, .int .i64 o.s] 40))) := ((But.refl _ w).alloc _).alloc _
  obtain ⟨d0, d1, d2, d3, d4, d5, d6⟩ := (b7_new w o 40).bel (jalloc (Below.refl _ _) (.cells #[.int .i64 o.k, .int .u64 q', .int .u64 o.e, .int .i64 o.n, .int .u64 o.g, .int .i64 o.t, .int .i64 o.s] 40))
  obtain ⟨_, f1, f2, _, _, _, _⟩ := b7_new (w.alloc (.cells #[.int .i64 o.k, .int .u64 o.q, .int .u64 o.e, .int .i64 o.n, .int .u64 o.g, .int .i64 o.t, .int .i64 o.s] 40)) ⟨o.k, q', o.e, o.n, o.g, o.t, o.s⟩ 40
  rw [hsz] at f1 f2
  clear t4 hm hq t hsz
  obtain ⟨w3, hw3⟩ : ∃ w3, w.alloc (.cells #[.int .i64 o.k, .int .u64 o.q, .int .u64 o.e, .int .i64 o.n, .int .u64 o.g, .int .i64 o.t, .int .i64 o.s] 40) = w3 := ⟨_, rfl⟩
  rw [hw3] at T4 E4 d0 d1 d2 d3 d4 d5 d6 f1 f2
  obtain ⟨w4, hw4⟩ : ∃ w4, w3.alloc (.cells #[.int .i64 o.k, .int .u64 q', .int .u64 o.e, .int .i64 o.n, .int .u64 o.g, .int .i64 o.t, .int .i64 o.s] 40) = w4 := ⟨_, rfl⟩
  rw [hw4] at T4 E4 d0 d1 d2 d3 d4 d5 d6 f1 f2
  have hD3 : w3.heap.size = w.heap.size + 1 := by rw [← hw3]; simp
  generalize hD : w.heap.size = D at *
  unfold joV
  go_enter Try.func19, Try.ntmps19
  by_cases k1 : o.k = 1
  · rw [k1] at hw4 hw3
    obtain ⟨vq, vq', ve, er, hV, hV', hcase⟩ := at_claimV (A := A) h0 (s := s)
    have cC := T4.out.step fun X hX l => claimN l hc
    rw [hV] at cC
    clear hV
    go_wp2_with fail
    clear hw4 hD hw3 hD3 d0 d1 d2 d3 d4 d5 d6 f1 f2
    refine cC.mono ?_
    rintro e w5 ⟨rfl, t5, e5⟩
    have t6 := t5.box (.cells #[.int .u64 vq, .int .u64 ve] 34)
    have b6 := b2_new w5 (.int .u64 vq) (.int .u64 ve) 34
    have e6 : But (Els Y) w (w5.alloc (.cells #[.int .u64 vq, .int .u64 ve] 34)) := (E4.out.trans (e5.mono fun _ h h' => h (.inl (.inl h')))).alloc _
    clear cC t5 e5
    go_wp2_with fail
    generalize w5.alloc (.cells #[.int .u64 vq, .int .u64 ve] 34) = w6 at *
    generalize w5.heap.size = D1 at *
    have cC := t6.stepB fun X hX l => claimN l hc
    rw [hV', at_claim] at cC
    clear hV'
    refine cC.mono ?_
    rintro e w7 ⟨rfl, t7, e7⟩
    have hb8 := jalloc (Below.refl _ w7) (.cells #[.int .u64 vq', .int .u64 ve] 34)
    have T8 : Hid (Two (w7.alloc (.cells #[.int .u64 vq', .int .u64 ve] 34)) p r (claimA A) (atS (claimA A) s) Y) := (t7.below hb8).less fun _ h => .inl (.inl (.inl h))
    have E8 : Hid (But (Els Y) w (w7.alloc (.cells #[.int .u64 vq', .int .u64 ve] 34))) := (e6.trans (e7.mono fun _ h h' => h (.inl (.inl (.inl h'))))).alloc _
    obtain ⟨x0, x1⟩ := (b6.els (X := fun b => ((Y b ∨ b = D) ∨ b = D + 1) ∨ b = D1) (.inr rfl) e7).below hb8
    obtain ⟨y0, y1⟩ := b2_new w7 (.int .u64 vq') (.int .u64 ve) 34
    have hst : (claimA A).st = 0 := by rw [(claimA_st A).1]; exact h0
    have hcc := (claimA_st A).2.2.2.2.2.2
    clear cC t6 t7 e7 e6 hb8 b6
    rcases hcase with ⟨rfl, ha⟩ | rfl
    · have ha' : IntKind.u64.wrap (vq + s) = vq' := by rw [IntKind.wrap_u64]; exact ha
      clear ha
      go_wp2_with fail
      go_ret
      exact ⟨by simp, ⟨_, hst, hcc, T8.out⟩, E8.out⟩
    · go_wp2_with fail
      go_ret
      exact ⟨by simp, ⟨_, hst, hcc, T8.out⟩, E8.out⟩
  · by_cases k2 : o.k = 2
    · rw [k2] at hw4 hw3
      have c1 := ((T4.out.below (Below.refl _ w4).drew).stepM fun X l => layN (q := o.q) (e := o.e) (n := o.n) (g := o.g) l HQ.out.1 HQ.out.2).mono fun _ w'' h => (⟨h.1, h.2.1, (But.refl _ _).drew.trans h.2.2⟩ : _ ∧ Mid w4.heap.size w'' p r (layA A o.q o.e o.n o.g) (atS A s) (fun b => (Y b ∨ b = D) ∨ b = D + 1) ∧ But (Els (fun b => (Y b ∨ b = D) ∨ b = D + 1)) w4 w'')
      have c2 := fun W (hW : Mid w4.heap.size W p r (layA A o.q o.e o.n o.g) (atS A s) (fun b => (Y b ∨ b = D) ∨ b = D + 1)) (hB : But (Els (fun b => (Y b ∨ b = D) ∨ b = D + 1)) w4 W) => (hW.stepB fun X l => layN (q := q') (e := o.e) (n := o.n) (g := o.g) l q0 q1).mono fun _ w'' h => (⟨h.1, h.2.1, hB.trans (h.2.2.mono fun _ h h' => h (.inl h'))⟩ : _ ∧ Two w'' p r (layA A o.q o.e o.n o.g) _ (fun b => (Y b ∨ b = D) ∨ b = D + 1) ∧ But (Els (fun b => (Y b ∨ b = D) ∨ b = D + 1)) w4 w'')
      rw [HM.out, at_layE h0, at_lay h0, ← HM.out] at c2
      have toS : ∀ W, But (Els (fun b => (Y b ∨ b = D) ∨ b = D + 1)) w4 W → W.cell? ⟨D, 1, none⟩ = some (.int .u64 o.q) ∧ W.cell? ⟨D, 2, none⟩ = some (.int .u64 o.e) ∧ W.cell? ⟨D, 3, none⟩ = some (.int .i64 o.n) ∧ W.cell? ⟨D, 4, none⟩ = some (.int .u64 o.g) ∧ W.cell? ⟨D + 1, 1, none⟩ = some (.int .u64 q') ∧ W.cell? ⟨D + 1, 2, none⟩ = some (.int .u64 o.e) := fun W h => ⟨els_cell h (.inl (.inr rfl)) d1, els_cell h (.inl (.inr rfl)) d2, els_cell h (.inl (.inr rfl)) d3, els_cell h (.inl (.inr rfl)) d4, els_cell h (.inr rfl) f1, els_cell h (.inr rfl) f2⟩
      have to4 := toS _ (But.refl _ _)
      generalize layE A o.q o.e = er at *
      unfold tkV slV at c1 c2
      go_wp2_with fail
      clear hw4 hD hw3 hD3 d0 d1 d2 d3 d4 d5 d6 f1 f2
      go_region_held3 (fun W => W.cell? ⟨D, 1, none⟩ = some (.int .u64 o.q) ∧ W.cell? ⟨D, 2, none⟩ = some (.int .u64 o.e) ∧ W.cell? ⟨D, 3, none⟩ = some (.int .i64 o.n) ∧ W.cell? ⟨D, 4, none⟩ = some (.int .u64 o.g) ∧ W.cell? ⟨D + 1, 1, none⟩ = some (.int .u64 q') ∧ W.cell? ⟨D + 1, 2, none⟩ = some (.int .u64 o.e)) (first | assumption | exact toS _ (by assumption) | exact toS _ (But.refl _ _).drew | exact toS _ (But.refl _ _)) (first | (go_at_call 13; (with_reducible refine c1.mono ?_); rintro v w5 ⟨rfl, t5, e5⟩; have hcall := c2 _ t5 e5) | (go_at_call 13; (with_reducible refine hcall.mono ?_); rintro v w6 ⟨rfl, t6, e6⟩))
      go_wp2_with fail
      go_ret
      exact ⟨rfl, ⟨_, by unfold layA; split <;> exact h0, by rw [layA_c]; omega, t6.less fun _ h => .inl (.inl h)⟩, E4.out.trans (e6.mono fun _ h h' => h (.inl (.inl h')))⟩
    · by_cases k3 : o.k = 3
      · rw [k3] at hw4 hw3
        have c1 := ((T4.out.below (Below.refl _ w4).drew).stepM fun X l => readyN (q := o.q) (e := o.e)  l HQ.out.1 HQ.out.2).mono fun _ w'' h => (⟨h.1, h.2.1, (But.refl _ _).drew.trans h.2.2⟩ : _ ∧ Mid w4.heap.size w'' p r A (atS A s) (fun b => (Y b ∨ b = D) ∨ b = D + 1) ∧ But (Els (fun b => (Y b ∨ b = D) ∨ b = D + 1)) w4 w'')
        have c2 := fun W (hW : Mid w4.heap.size W p r A (atS A s) (fun b => (Y b ∨ b = D) ∨ b = D + 1)) (hB : But (Els (fun b => (Y b ∨ b = D) ∨ b = D + 1)) w4 W) => (hW.stepB fun X l => readyN (q := q') (e := o.e)  l q0 q1).mono fun _ w'' h => (⟨h.1, h.2.1, hB.trans (h.2.2.mono fun _ h h' => h (.inl h'))⟩ : _ ∧ Two w'' p r A _ (fun b => (Y b ∨ b = D) ∨ b = D + 1) ∧ But (Els (fun b => (Y b ∨ b = D) ∨ b = D + 1)) w4 w'')
        rw [HM.out, at_lackE h0 HQ.out.1 HQ.out.2, ← HM.out] at c2
        have toS : ∀ W, But (Els (fun b => (Y b ∨ b = D) ∨ b = D + 1)) w4 W → W.cell? ⟨D, 1, none⟩ = some (.int .u64 o.q) ∧ W.cell? ⟨D, 2, none⟩ = some (.int .u64 o.e) ∧ W.cell? ⟨D + 1, 1, none⟩ = some (.int .u64 q') ∧ W.cell? ⟨D + 1, 2, none⟩ = some (.int .u64 o.e) := fun W h => ⟨els_cell h (.inl (.inr rfl)) d1, els_cell h (.inl (.inr rfl)) d2, els_cell h (.inr rfl) f1, els_cell h (.inr rfl) f2⟩
        have to4 := toS _ (But.refl _ _)
        generalize decide (lackE A o.q o.e = 0) = er at *
        unfold tkV at c1 c2
        go_wp2_with fail
        clear hw4 hD hw3 hD3 d0 d1 d2 d3 d4 d5 d6 f1 f2
        go_region_held3 (fun W => W.cell? ⟨D, 1, none⟩ = some (.int .u64 o.q) ∧ W.cell? ⟨D, 2, none⟩ = some (.int .u64 o.e) ∧ W.cell? ⟨D + 1, 1, none⟩ = some (.int .u64 q') ∧ W.cell? ⟨D + 1, 2, none⟩ = some (.int .u64 o.e)) (first | assumption | exact toS _ (by assumption) | exact toS _ (But.refl _ _).drew | exact toS _ (But.refl _ _)) (first | (go_at_call 18; (with_reducible refine c1.mono ?_); rintro v w5 ⟨rfl, t5, e5⟩; have hcall := c2 _ t5 e5) | (go_at_call 18; (with_reducible refine hcall.mono ?_); rintro v w6 ⟨rfl, t6, e6⟩))
        go_wp2_with fail
        go_ret
        exact ⟨rfl, ⟨_, h0, by omega, t6.less fun _ h => .inl (.inl h)⟩, E4.out.trans (e6.mono fun _ h h' => h (.inl (.inl h')))⟩
      · by_cases k4 : o.k = 4
        · rw [k4] at hw4 hw3
          have c1 := ((T4.out.below (Below.refl _ w4).drew).stepM fun X l => pubN (q := o.q) (e := o.e) (t := o.t) (s := o.s) l HQ.out.1 HQ.out.2).mono fun _ w'' h => (⟨h.1, h.2.1, (But.refl _ _).drew.trans h.2.2⟩ : _ ∧ Mid w4.heap.size w'' p r (pubA A o.q o.e o.t o.s) (atS A s) (fun b => (Y b ∨ b = D) ∨ b = D + 1) ∧ But (Els (fun b => (Y b ∨ b = D) ∨ b = D + 1)) w4 w'')
          have c2 := fun W (hW : Mid w4.heap.size W p r (pubA A o.q o.e o.t o.s) (atS A s) (fun b => (Y b ∨ b = D) ∨ b = D + 1)) (hB : But (Els (fun b => (Y b ∨ b = D) ∨ b = D + 1)) w4 W) => (hW.stepB fun X l => pubN (q := q') (e := o.e) (t := o.t) (s := o.s) l q0 q1).mono fun _ w'' h => (⟨h.1, h.2.1, hB.trans (h.2.2.mono fun _ h h' => h (.inl h'))⟩ : _ ∧ Two w'' p r (pubA A o.q o.e o.t o.s) _ (fun b => (Y b ∨ b = D) ∨ b = D + 1) ∧ But (Els (fun b => (Y b ∨ b = D) ∨ b = D + 1)) w4 w'')
          rw [HM.out, at_lackE h0 HQ.out.1 HQ.out.2, at_pub h0 HQ.out.1 HQ.out.2, ← HM.out] at c2
          have toS : ∀ W, But (Els (fun b => (Y b ∨ b = D) ∨ b = D + 1)) w4 W → W.cell? ⟨D, 1, none⟩ = some (.int .u64 o.q) ∧ W.cell? ⟨D, 2, none⟩ = some (.int .u64 o.e) ∧ W.cell? ⟨D, 5, none⟩ = some (.int .i64 o.t) ∧ W.cell? ⟨D, 6, none⟩ = some (.int .i64 o.s) ∧ W.cell? ⟨D + 1, 1, none⟩ = some (.int .u64 q') ∧ W.cell? ⟨D + 1, 2, none⟩ = some (.int .u64 o.e) := fun W h => ⟨els_cell h (.inl (.inr rfl)) d1, els_cell h (.inl (.inr rfl)) d2, els_cell h (.inl (.inr rfl)) d5, els_cell h (.inl (.inr rfl)) d6, els_cell h (.inr rfl) f1, els_cell h (.inr rfl) f2⟩
          have to4 := toS _ (But.refl _ _)
          generalize lackE A o.q o.e = er at *
          unfold tkV smV at c1 c2
          go_wp2_with fail
          clear hw4 hD hw3 hD3 d0 d1 d2 d3 d4 d5 d6 f1 f2
          go_region_held3 (fun W => W.cell? ⟨D, 1, none⟩ = some (.int .u64 o.q) ∧ W.cell? ⟨D, 2, none⟩ = some (.int .u64 o.e) ∧ W.cell? ⟨D, 5, none⟩ = some (.int .i64 o.t) ∧ W.cell? ⟨D, 6, none⟩ = some (.int .i64 o.s) ∧ W.cell? ⟨D + 1, 1, none⟩ = some (.int .u64 q') ∧ W.cell? ⟨D + 1, 2, none⟩ = some (.int .u64 o.e)) (first | assumption | exact toS _ (by assumption) | exact toS _ (But.refl _ _).drew | exact toS _ (But.refl _ _)) (first | (go_at_call 14; (with_reducible refine c1.mono ?_); rintro v w5 ⟨rfl, t5, e5⟩; have hcall := c2 _ t5 e5) | (go_at_call 14; (with_reducible refine hcall.mono ?_); rintro v w6 ⟨rfl, t6, e6⟩))
          go_wp2_with fail
          go_ret
          exact ⟨rfl, ⟨_, by rw [pubA_st]; exact h0, by rw [pubA_c]; omega, t6.less fun _ h => .inl (.inl h)⟩, E4.out.trans (e6.mono fun _ h h' => h (.inl (.inl h')))⟩
        · by_cases k6 : o.k = 6
          · rw [k6] at hw4 hw3
            obtain ⟨vn, vg, vq, vq', ve, er, hV, hV', hcase⟩ := at_takeV (A := A) h0 (s := s)
            have cC := T4.out.step fun X hX l => takeN l
            rw [hV] at cC
            clear hV
            go_wp2_with fail
            clear hw4 hD hw3 hD3 d0 d1 d2 d3 d4 d5 d6 f1 f2
            refine cC.mono ?_
            rintro e w5 ⟨rfl, t5, e5⟩
            have t6 := (t5.box (.cells #[.int .i64 vn, .int .u64 vg] 36)).box (.cells #[.int .u64 vq, .int .u64 ve] 34)
            have hsz : (w5.alloc (.cells #[.int .i64 vn, .int .u64 vg] 36)).heap.size = w5.heap.size + 1 := by simp
            rw [hsz] at t6
            have bb := jtwo (w := w5) (x := .int .i64 vn) (y := .int .u64 vg) (u := .int .u64 vq) (v := .int .u64 ve) (T := 36) (U := 34) (Below.refl _ _)
            have e6 : But (Els Y) w ((w5.alloc (.cells #[.int .i64 vn, .int .u64 vg] 36)).alloc (.cells #[.int .u64 vq, .int .u64 ve] 34)) := ((E4.out.trans (e5.mono fun _ h h' => h (.inl (.inl h')))).alloc _).alloc _
            have b6 : B2 ((w5.alloc (.cells #[.int .i64 vn, .int .u64 vg] 36)).alloc (.cells #[.int .u64 vq, .int .u64 ve] 34)) w5.heap.size (.int .i64 vn) (.int .u64 vg) := ⟨bb.1.1, bb.1.2.1⟩
            have b7 : B2 ((w5.alloc (.cells #[.int .i64 vn, .int .u64 vg] 36)).alloc (.cells #[.int .u64 vq, .int .u64 ve] 34)) (w5.heap.size + 1) (.int .u64 vq) (.int .u64 ve) := ⟨bb.2.1, bb.2.2.1⟩
            clear cC t5 e5 hsz bb
            go_wp2_with fail
            generalize (w5.alloc (.cells #[.int .i64 vn, .int .u64 vg] 36)).alloc (.cells #[.int .u64 vq, .int .u64 ve] 34) = w6 at *
            generalize w5.heap.size = D1 at *
            have cC := t6.stepB fun X hX l => takeN l
            rw [hV', at_take] at cC
            clear hV'
            refine cC.mono ?_
            rintro e w7 ⟨rfl, t7, e7⟩
            have hb8 := jalloc (jalloc (Below.refl _ w7) (.cells #[.int .i64 vn, .int .u64 vg] 36)) (.cells #[.int .u64 vq', .int .u64 ve] 34)
            have T8 : Hid (Two ((w7.alloc (.cells #[.int .i64 vn, .int .u64 vg] 36)).alloc (.cells #[.int .u64 vq', .int .u64 ve] 34)) p r (takeA A) (atS (takeA A) s) Y) := (t7.below hb8).less fun _ h => .inl (.inl (.inl (.inl h)))
            have E8 : Hid (But (Els Y) w ((w7.alloc (.cells #[.int .i64 vn, .int .u64 vg] 36)).alloc (.cells #[.int .u64 vq', .int .u64 ve] 34))) := ((e6.trans (e7.mono fun _ h h' => h (.inl (.inl (.inl (.inl h')))))).alloc _).alloc _
            obtain ⟨x0, x1⟩ := (b6.els (X := fun b => (((Y b ∨ b = D) ∨ b = D + 1) ∨ b = D1) ∨ b = D1 + 1) (.inl (.inr rfl)) e7).below hb8
            obtain ⟨x2, x3⟩ := (b7.els (X := fun b => (((Y b ∨ b = D) ∨ b = D + 1) ∨ b = D1) ∨ b = D1 + 1) (.inr rfl) e7).below hb8
            obtain ⟨⟨y0, y1, _⟩, y2, y3, _⟩ := jtwo (w := w7) (x := .int .i64 vn) (y := .int .u64 vg) (u := .int .u64 vq') (v := .int .u64 ve) (T := 36) (U := 34) (Below.refl _ _)
            clear cC t6 t7 e7 e6 hb8 b6 b7
            have hst : (takeA A).st = 0 := by rw [takeA_st]; exact h0
            have hcc : (takeA A).c ≤ A.c + 1 := by rw [takeA_c]; omega
            rcases hcase with ⟨rfl, ha⟩ | rfl
            · have ha' : IntKind.u64.wrap (vq + s) = vq' := by rw [IntKind.wrap_u64]; exact ha
              clear ha
              go_wp2_with fail
              go_ret
              exact ⟨by simp, ⟨_, hst, hcc, T8.out⟩, E8.out⟩
            · go_wp2_with fail
              go_ret
              exact ⟨by simp, ⟨_, hst, hcc, T8.out⟩, E8.out⟩
          · by_cases k7 : o.k = 7
            · rw [k7] at hw4 hw3
              have cC := T4.out.step fun X hX l => retN (q := o.q) (e := o.e) l HQ.out.1 HQ.out.2
              have c2 := fun D2 W (hW : Two W p r (retA A o.q o.e) (atS A s) (fun b => ((Y b ∨ b = D) ∨ b = D + 1) ∨ b = D2)) => hW.stepB fun X hX l => retN (q := q') (e := o.e) l q0 q1
              rw [HM.out, at_retS h0, at_retB h0, at_retE h0, at_ret h0, ← HM.out] at c2
              unfold tkV slV at cC c2
              obtain ⟨vn, hvn⟩ : ∃ vn, (retS A o.q o.e).1 = vn := ⟨_, rfl⟩
              obtain ⟨vg, hvg⟩ : ∃ vg, (retS A o.q o.e).2 = vg := ⟨_, rfl⟩
              rw [hvn, hvg] at cC c2
              clear hvn hvg
              generalize retB A o.q o.e = vb at *
              generalize retE A o.q o.e = er at *
              go_wp2_with fail
              clear d0 d1 d2 d3 d4 d5 d6 hw4 hD hw3 hD3
              refine cC.mono ?_
              rintro e w5 ⟨rfl, t5, e5⟩
              have t6 := t5.box (.cells #[.int .i64 vn, .int .u64 vg] 36)
              have b6 := b2_new w5 (.int .i64 vn) (.int .u64 vg) 36
              have f1' := jcells (jalloc (Below.refl _ w5) (.cells #[.int .i64 vn, .int .u64 vg] 36)) (els_cell e5 (.inr rfl) f1)
              have f2' := jcells (jalloc (Below.refl _ w5) (.cells #[.int .i64 vn, .int .u64 vg] 36)) (els_cell e5 (.inr rfl) f2)
              have e6 : But (Els Y) w (w5.alloc (.cells #[.int .i64 vn, .int .u64 vg] 36)) := (E4.out.trans (e5.mono fun _ h h' => h (.inl (.inl h')))).alloc _
              clear cC t5 e5 f1 f2
              go_wp2_with fail
              generalize w5.alloc (.cells #[.int .i64 vn, .int .u64 vg] 36) = w6 at *
              generalize w5.heap.size = D1 at *
              have cC := c2 _ _ t6
              clear c2 f1' f2'
              refine cC.mono ?_
              rintro e w7 ⟨rfl, t7, e7⟩
              have hb8 := jalloc (Below.refl _ w7) (.cells #[.int .i64 vn, .int .u64 vg] 36)
              have T8 : Hid (Two (w7.alloc (.cells #[.int .i64 vn, .int .u64 vg] 36)) p r (retA A o.q o.e) (atS (retA A o.q o.e) s) Y) := (t7.below hb8).less fun _ h => .inl (.inl (.inl h))
              have E8 : Hid (But (Els Y) w (w7.alloc (.cells #[.int .i64 vn, .int .u64 vg] 36))) := (e6.trans (e7.mono fun _ h h' => h (.inl (.inl (.inl h'))))).alloc _
              obtain ⟨x0, x1⟩ := (b6.els (X := fun b => ((Y b ∨ b = D) ∨ b = D + 1) ∨ b = D1) (.inr rfl) e7).below hb8
              obtain ⟨y0, y1⟩ := b2_new w7 (.int .i64 vn) (.int .u64 vg) 36
              clear cC t6 t7 e7 e6 hb8 b6
              go_wp2_with fail
              go_ret
              exact ⟨by simp, ⟨_, by rw [retA_st]; exact h0, by rw [retA_c]; omega, T8.out⟩, E8.out⟩
            · by_cases k8 : o.k = 8
              · rw [k8] at hw4 hw3
                have cC := T4.out.stepM fun X l => cR.out _ _ _ _ l
                have hst : (resA A).st = 0 := by rw [resA_st]; exact h0
                have hcc : (resA A).c ≤ A.c + 1 := by rw [resA_c]; omega
                go_wp2_with fail
                clear hw4 hD hw3 hD3 d0 d1 d2 d3 d4 d5 d6 f1 f2
                refine cC.mono ?_
                rintro e w5 ⟨⟨v1, rfl, s1⟩, m5, e5⟩
                clear cC
                have cC := m5.stepB fun X l => cR.out _ _ _ _ l
                rw [at_resE, at_res] at cC
                rw [at_resL] at cC
                have hsz := e5.size
                generalize resE A = er at *
                go_wp2_with fail
                refine cC.mono ?_
                rintro e w6 ⟨⟨v2, rfl, s2⟩, t6, e6⟩
                have s1' := s1.els (fun b h1 h2 => .inr ⟨h1, h2⟩) e6
                have cS := jsame _ w6 s1' s2
                have E6 : Hid (But (Els Y) w w6) := E4.out.trans ((e5.mono fun _ h h' => h (.inl (.inl h'))).trans (e6.mono fun _ h h' => h (.inl (.inl (.inl h')))))
                clear cC s1 s1' s2 e5 e6 m5 hsz
                go_wp2_with fail
                refine cS.mono ?_
                rintro e w7 ⟨rfl, hb7⟩
                go_wp2_with fail
                go_ret
                exact ⟨by simp, ⟨_, hst, hcc, (t6.below hb7).less fun _ h => .inl (.inl h)⟩, E6.out.trans (els_below hb7)⟩
              · obtain ⟨vn, vg, vq, vq', ve, vb, hV, hV'⟩ := at_firstV (A := A) (s := s)
                have cC := T4.out.step fun X hX l => firstN l
                rw [hV] at cC
                clear hV
                go_wp2_with fail
                clear hw4 hD hw3 hD3 d0 d1 d2 d3 d4 d5 d6 f1 f2
                refine cC.mono ?_
                rintro e w5 ⟨rfl, t5, e5⟩
                have t6 := (t5.box (.cells #[.int .i64 vn, .int .i64 vg] 38)).box (.cells #[.int .u64 vq, .int .u64 ve] 34)
                have hsz : (w5.alloc (.cells #[.int .i64 vn, .int .i64 vg] 38)).heap.size = w5.heap.size + 1 := by simp
                rw [hsz] at t6
                have bb := jtwo (w := w5) (x := .int .i64 vn) (y := .int .i64 vg) (u := .int .u64 vq) (v := .int .u64 ve) (T := 38) (U := 34) (Below.refl _ _)
                have e6 : But (Els Y) w ((w5.alloc (.cells #[.int .i64 vn, .int .i64 vg] 38)).alloc (.cells #[.int .u64 vq, .int .u64 ve] 34)) := ((E4.out.trans (e5.mono fun _ h h' => h (.inl (.inl h')))).alloc _).alloc _
                have b6 : B2 ((w5.alloc (.cells #[.int .i64 vn, .int .i64 vg] 38)).alloc (.cells #[.int .u64 vq, .int .u64 ve] 34)) w5.heap.size (.int .i64 vn) (.int .i64 vg) := ⟨bb.1.1, bb.1.2.1⟩
                have b7 : B2 ((w5.alloc (.cells #[.int .i64 vn, .int .i64 vg] 38)).alloc (.cells #[.int .u64 vq, .int .u64 ve] 34)) (w5.heap.size + 1) (.int .u64 vq) (.int .u64 ve) := ⟨bb.2.1, bb.2.2.1⟩
                clear cC t5 e5 hsz bb
                go_wp2_with fail
                generalize (w5.alloc (.cells #[.int .i64 vn, .int .i64 vg] 38)).alloc (.cells #[.int .u64 vq, .int .u64 ve] 34) = w6 at *
                generalize w5.heap.size = D1 at *
                have cC := t6.stepB fun X hX l => firstN l
                rw [hV'] at cC
                clear hV'
                refine cC.mono ?_
                rintro e w7 ⟨rfl, t7, e7⟩
                have hb8 := jalloc (jalloc (Below.refl _ w7) (.cells #[.int .i64 vn, .int .i64 vg] 38)) (.cells #[.int .u64 vq', .int .u64 ve] 34)
                have T8 : Hid (Two ((w7.alloc (.cells #[.int .i64 vn, .int .i64 vg] 38)).alloc (.cells #[.int .u64 vq', .int .u64 ve] 34)) p r A (atS A s) Y) := (t7.below hb8).less fun _ h => .inl (.inl (.inl (.inl h)))
                have E8 : Hid (But (Els Y) w ((w7.alloc (.cells #[.int .i64 vn, .int .i64 vg] 38)).alloc (.cells #[.int .u64 vq', .int .u64 ve] 34))) := ((e6.trans (e7.mono fun _ h h' => h (.inl (.inl (.inl (.inl h')))))).alloc _).alloc _
                obtain ⟨x0, x1⟩ := (b6.els (X := fun b => (((Y b ∨ b = D) ∨ b = D + 1) ∨ b = D1) ∨ b = D1 + 1) (.inl (.inr rfl)) e7).below hb8
                obtain ⟨x2, x3⟩ := (b7.els (X := fun b => (((Y b ∨ b = D) ∨ b = D + 1) ∨ b = D1) ∨ b = D1 + 1) (.inr rfl) e7).below hb8
                obtain ⟨⟨y0, y1, _⟩, y2, y3, _⟩ := jtwo (w := w7) (x := .int .i64 vn) (y := .int .i64 vg) (u := .int .u64 vq') (v := .int .u64 ve) (T := 38) (U := 34) (Below.refl _ _)
                clear cC t6 t7 e7 e6 hb8 b6 b7
                go_wp2_with fail
                go_ret
                exact ⟨by simp, ⟨_, h0, by omega, T8.out⟩, E8.out⟩
end Go.Proofs.Ytkgjikfndinpoaa
