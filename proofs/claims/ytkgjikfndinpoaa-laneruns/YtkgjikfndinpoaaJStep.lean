/- The law's 'step': an act of the program's lane and of the document's. (Written by wip/tools/jstep.py.) -/
import Derived.Test.YtkgjikfndinpoaaJPair
import Derived.Test.YtkgjikfndinpoaaJMoved
namespace Go.Proofs.Ytkgjikfndinpoaa
open Go.RowKit Go.Sort
set_option maxRecDepth 100000

theorem takeV_form (A : La) : ∃ n g q e er : Int, takeV A = .tuple #[.agg #[.int .i64 n, .int .u64 g], .agg #[.int .u64 q, .int .u64 e], .int .i64 er] := by
  unfold takeV
  cases A.P with
  | nil => exact ⟨_, _, _, _, _, rfl⟩
  | cons m P => exact ⟨_, _, _, _, _, rfl⟩
theorem firstV_form (A : La) : ∃ (t u q e : Int) (b : Bool), firstV A = .tuple #[.agg #[.int .i64 t, .int .i64 u], .agg #[.int .u64 q, .int .u64 e], .bool b] := by
  unfold firstV
  cases A.P with
  | nil => exact ⟨_, _, _, _, _, rfl⟩
  | cons m P => exact ⟨_, _, _, _, _, rfl⟩

set_option maxHeartbeats 4000000 in
theorem jstep (A : La) (hc : A.c < 1000000) (o : Jo) (hq : o.okq) (p r : Nat) (Y : Nat → Prop) (w : World) (t : Pr w.heap.size w p r A A Y) (cR : Hid ResetTells) :
    Calls Try.prog 9 #[pV p, pV r, joV o] w fun e w' => e = .returned (.bool true) ∧ (∃ A' : La, A'.c ≤ A.c + 1 ∧ Pr w'.heap.size w' p r A' A' Y) ∧ But (Els Y) w w' := by
  have HQ : Hid o.okq := hq
  obtain ⟨n, hn⟩ : ∃ n, w.heap.size = n := ⟨_, rfl⟩
  rw [hn] at t
  have T4 : Hid (Pr n (w.alloc (.cells #[.int .i64 o.k, .int .u64 o.q, .int .u64 o.e, .int .i64 o.n, .int .u64 o.g, .int .i64 o.t, .int .i64 o.s] 40)) p r A A (fun b => Y b ∨ b = w.heap.size)) := t.box _
  have E4 : Hid (But (Els Y) w (w.alloc (.cells #[.int .i64 o.k, .int .u64 o.q, .int .u64 o.e, .int .i64 o.n, .int .u64 o.g, .int .i64 o.t, .int .i64 o.s] 40))) := (But.refl _ w).alloc _
  obtain ⟨d0, d1, d2, d3, d4, d5, d6⟩ := b7_new w o 40
  clear hq t
  obtain ⟨w4, hw4⟩ : ∃ w4, w.alloc (.cells #[.int .i64 o.k, .int .u64 o.q, .int .u64 o.e, .int .i64 o.n, .int .u64 o.g, .int .i64 o.t, .int .i64 o.s] 40) = w4 := ⟨_, rfl⟩
  rw [hw4] at T4 E4 d0 d1 d2 d3 d4 d5 d6
  clear hn
  generalize hD : w.heap.size = D at *
  unfold joV
  go_enter Try.func9, Try.ntmps9
  by_cases k1 : o.k = 1
  · rw [k1] at hw4
    obtain ⟨vq, ve, er, hV⟩ := claimV_form A
    have cC := T4.out.stepL fun X l => claimN l hc
    rw [hV] at cC
    go_wp2_with fail
    clear hw4 hD d0 d1 d2 d3 d4 d5 d6
    refine cC.mono ?_
    rintro e w5 ⟨rfl, t5, e5⟩
    have t6 := t5.box (.cells #[.int .u64 vq, .int .u64 ve] 34)
    have b6 := b2_new w5 (.int .u64 vq) (.int .u64 ve) 34
    have e6 : But (Els Y) w (w5.alloc (.cells #[.int .u64 vq, .int .u64 ve] 34)) := (E4.out.trans (e5.mono fun _ h h' => h (.inl h'))).alloc _
    clear cC t5 e5
    go_wp2_with fail
    generalize w5.alloc (.cells #[.int .u64 vq, .int .u64 ve] 34) = w6 at *
    generalize w5.heap.size = D1 at *
    have cC := t6.stepR' fun X l => claimR l hc
    rw [hV] at cC
    clear hV
    refine cC.mono ?_
    rintro e w7 ⟨rfl, t7, e7⟩
    have hb8 := jalloc (Below.refl _ w7) (.cells #[.int .u64 vq, .int .u64 ve] 34)
    have T8 : Hid (Pr w7.heap.size (w7.alloc (.cells #[.int .u64 vq, .int .u64 ve] 34)) p r (claimA A) (claimA A) Y) := (t7.below hb8).less fun _ h => .inl (.inl h)
    have E8 : Hid (But (Els Y) w (w7.alloc (.cells #[.int .u64 vq, .int .u64 ve] 34))) := (e6.trans (e7.mono fun _ h h' => h (.inl (.inl h')))).alloc _
    obtain ⟨x0, x1⟩ := (b6.els (X := fun b => (Y b ∨ b = D) ∨ b = D1) (.inr rfl) e7).below hb8
    obtain ⟨y0, y1⟩ := b2_new w7 (.int .u64 vq) (.int .u64 ve) 34
    have hcc := (claimA_st A).2.2.2.2.2.2
    clear cC t6 t7 e7 e6 hb8 b6
    go_wp2_with fail
    go_ret
    exact ⟨by simp, ⟨_, hcc, T8.out.up⟩, E8.out⟩
  · by_cases k2 : o.k = 2
    · rw [k2] at hw4
      have c1 := ((T4.out.below (Below.refl _ w4).drew).stepL fun X l => layN (q := o.q) (e := o.e) (n := o.n) (g := o.g) l HQ.out.1 HQ.out.2).mono fun _ w'' h => (⟨h.1, h.2.1, (But.refl _ _).drew.trans h.2.2⟩ : _ ∧ Pr n w'' p r (layA A o.q o.e o.n o.g) A (fun b => Y b ∨ b = D) ∧ But (Els (fun b => Y b ∨ b = D)) w4 w'')
      have c2 := fun W (hW : Pr n W p r (layA A o.q o.e o.n o.g) A (fun b => Y b ∨ b = D)) (hB : But (Els (fun b => Y b ∨ b = D)) w4 W) => (hW.stepR' fun X l => layR (q := o.q) (e := o.e) (n := o.n) (g := o.g) l HQ.out.1 HQ.out.2).mono fun _ w'' h => (⟨h.1, h.2.1, hB.trans h.2.2⟩ : _ ∧ Pr w''.heap.size w'' p r (layA A o.q o.e o.n o.g) (layA A o.q o.e o.n o.g) (fun b => Y b ∨ b = D) ∧ But (Els (fun b => Y b ∨ b = D)) w4 w'')
      have toS : ∀ W, But (Els (fun b => Y b ∨ b = D)) w4 W → W.cell? ⟨D, 1, none⟩ = some (.int .u64 o.q) ∧ W.cell? ⟨D, 2, none⟩ = some (.int .u64 o.e) ∧ W.cell? ⟨D, 3, none⟩ = some (.int .i64 o.n) ∧ W.cell? ⟨D, 4, none⟩ = some (.int .u64 o.g) := fun W h => ⟨els_cell h (.inr rfl) d1, els_cell h (.inr rfl) d2, els_cell h (.inr rfl) d3, els_cell h (.inr rfl) d4⟩
      have to4 := toS _ (But.refl _ _)
      generalize layE A o.q o.e = er at *
      unfold tkV slV at c1 c2
      go_wp2_with fail
      clear hw4 hD d0 d1 d2 d3 d4 d5 d6
      go_region_held3 (fun W => W.cell? ⟨D, 1, none⟩ = some (.int .u64 o.q) ∧ W.cell? ⟨D, 2, none⟩ = some (.int .u64 o.e) ∧ W.cell? ⟨D, 3, none⟩ = some (.int .i64 o.n) ∧ W.cell? ⟨D, 4, none⟩ = some (.int .u64 o.g)) (first | assumption | exact toS _ (by assumption) | exact toS _ (But.refl _ _).drew | exact toS _ (But.refl _ _)) (first | (go_at_call 13; (with_reducible refine c1.mono ?_); rintro v w5 ⟨rfl, t5, e5⟩; have hcall := c2 _ t5 e5) | (go_at_call 21; (with_reducible refine hcall.mono ?_); rintro v w6 ⟨rfl, t6, e6⟩))
      go_wp2_with fail
      go_ret
      exact ⟨rfl, ⟨_, by rw [layA_c]; omega, t6.less fun _ h => .inl h⟩, E4.out.trans (e6.mono fun _ h h' => h (.inl h'))⟩
    · by_cases k3 : o.k = 3
      · rw [k3] at hw4
        have c1 := ((T4.out.below (Below.refl _ w4).drew).stepL fun X l => readyN (q := o.q) (e := o.e)  l HQ.out.1 HQ.out.2).mono fun _ w'' h => (⟨h.1, h.2.1, (But.refl _ _).drew.trans h.2.2⟩ : _ ∧ Pr n w'' p r A A (fun b => Y b ∨ b = D) ∧ But (Els (fun b => Y b ∨ b = D)) w4 w'')
        have c2 := fun W (hW : Pr n W p r A A (fun b => Y b ∨ b = D)) (hB : But (Els (fun b => Y b ∨ b = D)) w4 W) => (hW.stepR' fun X l => readyR (q := o.q) (e := o.e)  l HQ.out.1 HQ.out.2).mono fun _ w'' h => (⟨h.1, h.2.1, hB.trans h.2.2⟩ : _ ∧ Pr w''.heap.size w'' p r A A (fun b => Y b ∨ b = D) ∧ But (Els (fun b => Y b ∨ b = D)) w4 w'')
        have toS : ∀ W, But (Els (fun b => Y b ∨ b = D)) w4 W → W.cell? ⟨D, 1, none⟩ = some (.int .u64 o.q) ∧ W.cell? ⟨D, 2, none⟩ = some (.int .u64 o.e) := fun W h => ⟨els_cell h (.inr rfl) d1, els_cell h (.inr rfl) d2⟩
        have to4 := toS _ (But.refl _ _)
        generalize decide (lackE A o.q o.e = 0) = er at *
        unfold tkV at c1 c2
        go_wp2_with fail
        clear hw4 hD d0 d1 d2 d3 d4 d5 d6
        go_region_held3 (fun W => W.cell? ⟨D, 1, none⟩ = some (.int .u64 o.q) ∧ W.cell? ⟨D, 2, none⟩ = some (.int .u64 o.e)) (first | assumption | exact toS _ (by assumption) | exact toS _ (But.refl _ _).drew | exact toS _ (But.refl _ _)) (first | (go_at_call 18; (with_reducible refine c1.mono ?_); rintro v w5 ⟨rfl, t5, e5⟩; have hcall := c2 _ t5 e5) | (go_at_call 22; (with_reducible refine hcall.mono ?_); rintro v w6 ⟨rfl, t6, e6⟩))
        go_wp2_with fail
        go_ret
        exact ⟨rfl, ⟨_, by omega, t6.less fun _ h => .inl h⟩, E4.out.trans (e6.mono fun _ h h' => h (.inl h'))⟩
      · by_cases k4 : o.k = 4
        · rw [k4] at hw4
          have c1 := ((T4.out.below (Below.refl _ w4).drew).stepL fun X l => pubN (q := o.q) (e := o.e) (t := o.t) (s := o.s) l HQ.out.1 HQ.out.2).mono fun _ w'' h => (⟨h.1, h.2.1, (But.refl _ _).drew.trans h.2.2⟩ : _ ∧ Pr n w'' p r (pubA A o.q o.e o.t o.s) A (fun b => Y b ∨ b = D) ∧ But (Els (fun b => Y b ∨ b = D)) w4 w'')
          have c2 := fun W (hW : Pr n W p r (pubA A o.q o.e o.t o.s) A (fun b => Y b ∨ b = D)) (hB : But (Els (fun b => Y b ∨ b = D)) w4 W) => (hW.stepR' fun X l => pubR (q := o.q) (e := o.e) (t := o.t) (s := o.s) l HQ.out.1 HQ.out.2).mono fun _ w'' h => (⟨h.1, h.2.1, hB.trans h.2.2⟩ : _ ∧ Pr w''.heap.size w'' p r (pubA A o.q o.e o.t o.s) (pubA A o.q o.e o.t o.s) (fun b => Y b ∨ b = D) ∧ But (Els (fun b => Y b ∨ b = D)) w4 w'')
          have toS : ∀ W, But (Els (fun b => Y b ∨ b = D)) w4 W → W.cell? ⟨D, 1, none⟩ = some (.int .u64 o.q) ∧ W.cell? ⟨D, 2, none⟩ = some (.int .u64 o.e) ∧ W.cell? ⟨D, 5, none⟩ = some (.int .i64 o.t) ∧ W.cell? ⟨D, 6, none⟩ = some (.int .i64 o.s) := fun W h => ⟨els_cell h (.inr rfl) d1, els_cell h (.inr rfl) d2, els_cell h (.inr rfl) d5, els_cell h (.inr rfl) d6⟩
          have to4 := toS _ (But.refl _ _)
          generalize lackE A o.q o.e = er at *
          unfold tkV smV at c1 c2
          go_wp2_with fail
          clear hw4 hD d0 d1 d2 d3 d4 d5 d6
          go_region_held3 (fun W => W.cell? ⟨D, 1, none⟩ = some (.int .u64 o.q) ∧ W.cell? ⟨D, 2, none⟩ = some (.int .u64 o.e) ∧ W.cell? ⟨D, 5, none⟩ = some (.int .i64 o.t) ∧ W.cell? ⟨D, 6, none⟩ = some (.int .i64 o.s)) (first | assumption | exact toS _ (by assumption) | exact toS _ (But.refl _ _).drew | exact toS _ (But.refl _ _)) (first | (go_at_call 14; (with_reducible refine c1.mono ?_); rintro v w5 ⟨rfl, t5, e5⟩; have hcall := c2 _ t5 e5) | (go_at_call 23; (with_reducible refine hcall.mono ?_); rintro v w6 ⟨rfl, t6, e6⟩))
          go_wp2_with fail
          go_ret
          exact ⟨rfl, ⟨_, by rw [pubA_c]; omega, t6.less fun _ h => .inl h⟩, E4.out.trans (e6.mono fun _ h h' => h (.inl h'))⟩
        · by_cases k5 : o.k = 5
          · rw [k5] at hw4
            obtain ⟨vn, vg, vq, ve, vb, hV⟩ := firstV_form A
            have cC := T4.out.stepL fun X l => firstN l
            rw [hV] at cC
            go_wp2_with fail
            clear hw4 hD d0 d1 d2 d3 d4 d5 d6
            refine cC.mono ?_
            rintro e w5 ⟨rfl, t5, e5⟩
            have t6 := (t5.box (.cells #[.int .i64 vn, .int .i64 vg] 38)).box (.cells #[.int .u64 vq, .int .u64 ve] 34)
            have hsz : (w5.alloc (.cells #[.int .i64 vn, .int .i64 vg] 38)).heap.size = w5.heap.size + 1 := by simp
            rw [hsz] at t6
            have bb := jtwo (w := w5) (x := .int .i64 vn) (y := .int .i64 vg) (u := .int .u64 vq) (v := .int .u64 ve) (T := 38) (U := 34) (Below.refl _ _)
            have e6 : But (Els Y) w ((w5.alloc (.cells #[.int .i64 vn, .int .i64 vg] 38)).alloc (.cells #[.int .u64 vq, .int .u64 ve] 34)) := ((E4.out.trans (e5.mono fun _ h h' => h (.inl h'))).alloc _).alloc _
            have b6 : B2 ((w5.alloc (.cells #[.int .i64 vn, .int .i64 vg] 38)).alloc (.cells #[.int .u64 vq, .int .u64 ve] 34)) w5.heap.size (.int .i64 vn) (.int .i64 vg) := ⟨bb.1.1, bb.1.2.1⟩
            have b7 : B2 ((w5.alloc (.cells #[.int .i64 vn, .int .i64 vg] 38)).alloc (.cells #[.int .u64 vq, .int .u64 ve] 34)) (w5.heap.size + 1) (.int .u64 vq) (.int .u64 ve) := ⟨bb.2.1, bb.2.2.1⟩
            clear cC t5 e5 hsz bb
            go_wp2_with fail
            generalize (w5.alloc (.cells #[.int .i64 vn, .int .i64 vg] 38)).alloc (.cells #[.int .u64 vq, .int .u64 ve] 34) = w6 at *
            generalize w5.heap.size = D1 at *
            have cC := t6.stepR' fun X l => firstR l
            rw [hV] at cC
            clear hV
            refine cC.mono ?_
            rintro e w7 ⟨rfl, t7, e7⟩
            have hb8 := jalloc (jalloc (Below.refl _ w7) (.cells #[.int .i64 vn, .int .i64 vg] 38)) (.cells #[.int .u64 vq, .int .u64 ve] 34)
            have T8 : Hid (Pr w7.heap.size ((w7.alloc (.cells #[.int .i64 vn, .int .i64 vg] 38)).alloc (.cells #[.int .u64 vq, .int .u64 ve] 34)) p r A A Y) := (t7.below hb8).less fun _ h => .inl (.inl (.inl h))
            have E8 : Hid (But (Els Y) w ((w7.alloc (.cells #[.int .i64 vn, .int .i64 vg] 38)).alloc (.cells #[.int .u64 vq, .int .u64 ve] 34))) := ((e6.trans (e7.mono fun _ h h' => h (.inl (.inl (.inl h'))))).alloc _).alloc _
            obtain ⟨x0, x1⟩ := (b6.els (X := fun b => ((Y b ∨ b = D) ∨ b = D1) ∨ b = D1 + 1) (.inl (.inr rfl)) e7).below hb8
            obtain ⟨x2, x3⟩ := (b7.els (X := fun b => ((Y b ∨ b = D) ∨ b = D1) ∨ b = D1 + 1) (.inr rfl) e7).below hb8
            obtain ⟨⟨y0, y1, _⟩, y2, y3, _⟩ := jtwo (w := w7) (x := .int .i64 vn) (y := .int .i64 vg) (u := .int .u64 vq) (v := .int .u64 ve) (T := 38) (U := 34) (Below.refl _ _)
            clear cC t6 t7 e7 e6 hb8 b6 b7
            go_wp2_with fail
            go_ret
            exact ⟨by simp, ⟨_, by omega, T8.out.up⟩, E8.out⟩
          · by_cases k6 : o.k = 6
            · rw [k6] at hw4
              obtain ⟨vn, vg, vq, ve, er, hV⟩ := takeV_form A
              have cC := T4.out.stepL fun X l => takeN l
              rw [hV] at cC
              go_wp2_with fail
              clear hw4 hD d0 d1 d2 d3 d4 d5 d6
              refine cC.mono ?_
              rintro e w5 ⟨rfl, t5, e5⟩
              have t6 := (t5.box (.cells #[.int .i64 vn, .int .u64 vg] 36)).box (.cells #[.int .u64 vq, .int .u64 ve] 34)
              have hsz : (w5.alloc (.cells #[.int .i64 vn, .int .u64 vg] 36)).heap.size = w5.heap.size + 1 := by simp
              rw [hsz] at t6
              have bb := jtwo (w := w5) (x := .int .i64 vn) (y := .int .u64 vg) (u := .int .u64 vq) (v := .int .u64 ve) (T := 36) (U := 34) (Below.refl _ _)
              have e6 : But (Els Y) w ((w5.alloc (.cells #[.int .i64 vn, .int .u64 vg] 36)).alloc (.cells #[.int .u64 vq, .int .u64 ve] 34)) := ((E4.out.trans (e5.mono fun _ h h' => h (.inl h'))).alloc _).alloc _
              have b6 : B2 ((w5.alloc (.cells #[.int .i64 vn, .int .u64 vg] 36)).alloc (.cells #[.int .u64 vq, .int .u64 ve] 34)) w5.heap.size (.int .i64 vn) (.int .u64 vg) := ⟨bb.1.1, bb.1.2.1⟩
              have b7 : B2 ((w5.alloc (.cells #[.int .i64 vn, .int .u64 vg] 36)).alloc (.cells #[.int .u64 vq, .int .u64 ve] 34)) (w5.heap.size + 1) (.int .u64 vq) (.int .u64 ve) := ⟨bb.2.1, bb.2.2.1⟩
              clear cC t5 e5 hsz bb
              go_wp2_with fail
              generalize (w5.alloc (.cells #[.int .i64 vn, .int .u64 vg] 36)).alloc (.cells #[.int .u64 vq, .int .u64 ve] 34) = w6 at *
              generalize w5.heap.size = D1 at *
              have cC := t6.stepR' fun X l => takeR l
              rw [hV] at cC
              clear hV
              refine cC.mono ?_
              rintro e w7 ⟨rfl, t7, e7⟩
              have hb8 := jalloc (jalloc (Below.refl _ w7) (.cells #[.int .i64 vn, .int .u64 vg] 36)) (.cells #[.int .u64 vq, .int .u64 ve] 34)
              have T8 : Hid (Pr w7.heap.size ((w7.alloc (.cells #[.int .i64 vn, .int .u64 vg] 36)).alloc (.cells #[.int .u64 vq, .int .u64 ve] 34)) p r (takeA A) (takeA A) Y) := (t7.below hb8).less fun _ h => .inl (.inl (.inl h))
              have E8 : Hid (But (Els Y) w ((w7.alloc (.cells #[.int .i64 vn, .int .u64 vg] 36)).alloc (.cells #[.int .u64 vq, .int .u64 ve] 34))) := ((e6.trans (e7.mono fun _ h h' => h (.inl (.inl (.inl h'))))).alloc _).alloc _
              obtain ⟨x0, x1⟩ := (b6.els (X := fun b => ((Y b ∨ b = D) ∨ b = D1) ∨ b = D1 + 1) (.inl (.inr rfl)) e7).below hb8
              obtain ⟨x2, x3⟩ := (b7.els (X := fun b => ((Y b ∨ b = D) ∨ b = D1) ∨ b = D1 + 1) (.inr rfl) e7).below hb8
              obtain ⟨⟨y0, y1, _⟩, y2, y3, _⟩ := jtwo (w := w7) (x := .int .i64 vn) (y := .int .u64 vg) (u := .int .u64 vq) (v := .int .u64 ve) (T := 36) (U := 34) (Below.refl _ _)
              clear cC t6 t7 e7 e6 hb8 b6 b7
              go_wp2_with fail
              go_ret
              exact ⟨by simp, ⟨_, by rw [takeA_c]; omega, T8.out.up⟩, E8.out⟩
            · by_cases k7 : o.k = 7
              · rw [k7] at hw4
                have cC := T4.out.stepL fun X l => retN (q := o.q) (e := o.e) l HQ.out.1 HQ.out.2
                have c2 := fun D2 W (hW : Pr n W p r (retA A o.q o.e) A (fun b => (Y b ∨ b = D) ∨ b = D2)) => hW.stepR' fun X l => retR (q := o.q) (e := o.e) l HQ.out.1 HQ.out.2
                unfold tkV slV at cC c2
                obtain ⟨vn, hvn⟩ : ∃ vn, (retS A o.q o.e).1 = vn := ⟨_, rfl⟩
                obtain ⟨vg, hvg⟩ : ∃ vg, (retS A o.q o.e).2 = vg := ⟨_, rfl⟩
                rw [hvn, hvg] at cC c2
                clear hvn hvg
                generalize retB A o.q o.e = vb at *
                generalize retE A o.q o.e = er at *
                go_wp2_with fail
                clear hw4 hD d0 d3 d4 d5 d6
                refine cC.mono ?_
                rintro e w5 ⟨rfl, t5, e5⟩
                have t6 := t5.box (.cells #[.int .i64 vn, .int .u64 vg] 36)
                have b6 := b2_new w5 (.int .i64 vn) (.int .u64 vg) 36
                have f1' := jcells (jalloc (Below.refl _ w5) (.cells #[.int .i64 vn, .int .u64 vg] 36)) (els_cell e5 (.inr rfl) d1)
                have f2' := jcells (jalloc (Below.refl _ w5) (.cells #[.int .i64 vn, .int .u64 vg] 36)) (els_cell e5 (.inr rfl) d2)
                have e6 : But (Els Y) w (w5.alloc (.cells #[.int .i64 vn, .int .u64 vg] 36)) := (E4.out.trans (e5.mono fun _ h h' => h (.inl h'))).alloc _
                clear cC t5 e5 d1 d2
                go_wp2_with fail
                generalize w5.alloc (.cells #[.int .i64 vn, .int .u64 vg] 36) = w6 at *
                generalize w5.heap.size = D1 at *
                have cC := c2 _ _ t6
                clear c2 f1' f2'
                refine cC.mono ?_
                rintro e w7 ⟨rfl, t7, e7⟩
                have hb8 := jalloc (Below.refl _ w7) (.cells #[.int .i64 vn, .int .u64 vg] 36)
                have T8 : Hid (Pr w7.heap.size (w7.alloc (.cells #[.int .i64 vn, .int .u64 vg] 36)) p r (retA A o.q o.e) (retA A o.q o.e) Y) := (t7.below hb8).less fun _ h => .inl (.inl h)
                have E8 : Hid (But (Els Y) w (w7.alloc (.cells #[.int .i64 vn, .int .u64 vg] 36))) := (e6.trans (e7.mono fun _ h h' => h (.inl (.inl h')))).alloc _
                obtain ⟨x0, x1⟩ := (b6.els (X := fun b => (Y b ∨ b = D) ∨ b = D1) (.inr rfl) e7).below hb8
                obtain ⟨y0, y1⟩ := b2_new w7 (.int .i64 vn) (.int .u64 vg) 36
                clear cC t6 t7 e7 e6 hb8 b6
                go_wp2_with fail
                go_ret
                exact ⟨by simp, ⟨_, by rw [retA_c]; omega, T8.out.up⟩, E8.out⟩
              · by_cases k8 : o.k = 8
                · rw [k8] at hw4
                  have cC := T4.out.up.stepL fun X l => cR.out _ _ _ _ l
                  have hcc : (resA A).c ≤ A.c + 1 := by rw [resA_c]; omega
                  go_wp2_with fail
                  clear hw4 hD d0 d1 d2 d3 d4 d5 d6
                  refine cC.mono ?_
                  rintro e w5 ⟨⟨v1, rfl, s1⟩, m5, e5⟩
                  clear cC
                  have cC := m5.stepR fun X l => resetR l
                  have hsz := e5.size
                  generalize resE A = er at *
                  go_wp2_with fail
                  refine cC.mono ?_
                  rintro e w6 ⟨⟨v2, rfl, s2⟩, t6, e6⟩
                  have s1' := s1.els (fun b h1 h2 => .inr ⟨h1, h2⟩) e6
                  have cS := jsame _ w6 s1' s2
                  have E6 : Hid (But (Els Y) w w6) := E4.out.trans ((e5.mono fun _ h h' => h (.inl h')).trans (e6.mono fun _ h h' => h (.inl (.inl h'))))
                  clear cC s1 s1' s2 e5 e6 m5 hsz
                  go_wp2_with fail
                  refine cS.mono ?_
                  rintro e w7 ⟨rfl, hb7⟩
                  go_wp2_with fail
                  go_ret
                  exact ⟨by simp, ⟨_, hcc, ((t6.below hb7).less fun _ h => .inl h).up⟩, E6.out.trans (els_below hb7)⟩
                · go_wp2_with fail
                  clear hw4 hD d0 d1 d2 d3 d4 d5 d6
                  go_ret
                  exact ⟨rfl, ⟨A, by omega, (T4.out.less fun _ h => .inl h).up⟩, E4.out⟩
end Go.Proofs.Ytkgjikfndinpoaa
