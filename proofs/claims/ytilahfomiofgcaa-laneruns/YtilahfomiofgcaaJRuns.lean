/- LaneRuns' walk. -/
import Derived.Test.YtilahfomiofgcaaJRefA
import Derived.Test.YtilahfomiofgcaaJEls
import Derived.Test.YtilahfomiofgcaaJMoved
namespace Go.Proofs.Ytilahfomiofgcaa
open Go.RowKit Go.Sort
set_option maxRecDepth 100000

/-- behind p the program's lane A, behind r the document's B, none of the blocks Y is theirs; the document's stand below n -/
def Pr (n : Nat) (w : World) (p r : Nat) (A B : La) (Y : Nat → Prop) : Prop :=
  ∃ (o : Lo) (rv : Value), o.p = p ∧ Lx w o A ∧ B.Ok ∧ Rq w r rv B B.L ∧ (∀ b, Y b → b < w.heap.size ∧ ¬ o.has b ∧ ¬ rhas r rv b) ∧ (∀ b, o.has b → ¬ rhas r rv b) ∧ ∀ b, rhas r rv b → b < n
section
variable {n : Nat} {w w' : World} {p r : Nat} {A B A' B' : La} {Y Z : Nat → Prop} {f : FuncId} {args : Array Value}
theorem Pr.up (t : Pr n w p r A B Y) : Pr w.heap.size w p r A B Y := by
  obtain ⟨o, rv, ho, x, ok, y, hY, hd, _⟩ := t
  exact ⟨o, rv, ho, x, ok, y, hY, hd, fun b hb => y.hlt hb⟩
theorem Pr.okA (t : Pr n w p r A B Y) : A.Ok := by
  obtain ⟨o, rv, ho, x, _⟩ := t
  exact x.ok
theorem Pr.below (t : Pr n w p r A B Y) (h : Below w.heap.size w w') : Pr n w' p r A B Y := by
  obtain ⟨o, rv, ho, x, ok, y, hY, hd, hn⟩ := t
  exact ⟨o, rv, ho, x.below h, ok, y.below h, fun b hb => ⟨Nat.lt_of_lt_of_le (hY b hb).1 h.size, (hY b hb).2⟩, hd, hn⟩
theorem Pr.less (t : Pr n w p r A B Y) (h : ∀ b, Z b → Y b) : Pr n w p r A B Z := by
  obtain ⟨o, rv, ho, x, ok, y, hY, hd, hn⟩ := t
  exact ⟨o, rv, ho, x, ok, y, fun b hb => hY b (h b hb), hd, hn⟩
theorem Pr.box (t : Pr n w p r A B Y) (z : Obj) : Pr n (w.alloc z) p r A B (fun b => Y b ∨ b = w.heap.size) := by
  obtain ⟨o, rv, ho, x, ok, y, hY, hd, hn⟩ := t
  refine ⟨o, rv, ho, x.alloc z, ok, y.below (jalloc (Below.refl _ _) z), fun b hb => ?_, hd, hn⟩
  rcases hb with hb | hb
  · exact ⟨by have := (hY b hb).1; simp; omega, (hY b hb).2⟩
  · subst hb
    exact ⟨by simp, fun h => by have := x.lt h; omega, fun h => by have := y.hlt h; omega⟩
/-- a call of the program's -/
theorem Pr.stepL (t : Pr n w p r A B Y) {R : Ending → World → Prop} (h : ∀ X, Ln w p A X → Calls Try.prog f args w fun e w' => R e w' ∧ Ln w' p A' X ∧ But (Els X) w w') :
    Calls Try.prog f args w fun e w' => R e w' ∧ Pr n w' p r A' B Y ∧ But (Els Y) w w' := by
  obtain ⟨o, rv, ho, x, ok, y, hY, hd, hn⟩ := t
  refine (h (fun b => Y b ∨ rhas r rv b) ⟨fun b hb => ?_, o, ho, x, fun b hb hh => ?_⟩).mono ?_
  · rcases hb with hb | hb
    · exact (hY b hb).1
    · exact y.hlt hb
  · rcases hb with hb | hb
    · exact (hY b hb).2.1 hh
    · exact hd b hh hb
  · rintro e w' ⟨he, ⟨hlt, o', ho', x', hX⟩, hb⟩
    refine ⟨he, ⟨o', rv, ho', x', ok, y.but hb (fun b hb' hs => hs (.inr hb')), fun b hb' => ⟨hlt b (.inl hb'), hX b (.inl hb'), (hY b hb').2.2⟩, fun b hb' hh => hX b (.inr hh) hb', hn⟩, hb.mono fun _ h h' => h (.inl h')⟩
/-- a call of the document's -/
theorem Pr.stepR (t : Pr n w p r A B Y) {R : Ending → World → Prop} (h : ∀ X, Rn w r B X → Calls Try.prog f args w fun e w' => R e w' ∧ Rn w' r B' X ∧ But (Els X) w w') :
    Calls Try.prog f args w fun e w' => R e w' ∧ Pr w'.heap.size w' p r A B' Y ∧ But (Els fun b => Y b ∨ (n ≤ b ∧ b < w.heap.size)) w w' := by
  obtain ⟨o, rv, ho, x, ok, y, hY, hd, hn⟩ := t
  refine (h (fun b => (Y b ∨ (n ≤ b ∧ b < w.heap.size)) ∨ o.has b) ⟨fun b hb => ?_, ok, rv, y, fun b hb hh => ?_⟩).mono ?_
  · rcases hb with (hb | hb) | hb
    · exact (hY b hb).1
    · exact hb.2
    · exact x.lt hb
  · rcases hb with (hb | hb) | hb
    · exact (hY b hb).2.2 hh
    · have := hn b hh; omega
    · exact hd b hb hh
  · rintro e w' ⟨he, ⟨hlt, ok', rv', y', hX⟩, hb⟩
    refine ⟨he, ⟨o, rv', ho, x.but hb (fun b hb' hs => hs (.inr hb')), ok', y', fun b hb' => ⟨hlt b (.inl (.inl hb')), (hY b hb').2.1, hX b (.inl (.inl hb'))⟩, fun b hb' hh => hX b (.inr hb') hh, fun b hb' => y'.hlt hb'⟩, hb.mono fun _ h h' => h (.inl h')⟩
/-- .. and no more is asked -/
theorem Pr.stepR' (t : Pr n w p r A B Y) {R : Ending → World → Prop} (h : ∀ X, Rn w r B X → Calls Try.prog f args w fun e w' => R e w' ∧ Rn w' r B' X ∧ But (Els X) w w') :
    Calls Try.prog f args w fun e w' => R e w' ∧ Pr w'.heap.size w' p r A B' Y ∧ But (Els Y) w w' :=
  (t.stepR h).mono fun _ _ h => ⟨h.1, h.2.1, h.2.2.mono fun _ h h' => h (.inl h')⟩
end
theorem pr_new {w0 w1 w2 : World} {p r : Nat} {rv : Value} {A B : La} (l1 : Ln w1 p A (fun b => b < w0.heap.size)) (h1 : Below w0.heap.size w0 w1) (y : Rq w2 r rv B B.L) (ok : B.Ok) (hr : ∀ b, rhas r rv b → w1.heap.size ≤ b) (h2 : Below w1.heap.size w1 w2) : Pr w2.heap.size w2 p r A B (fun b => b < w0.heap.size) := by
  obtain ⟨k1, o, ho, x, hY⟩ := l1
  refine ⟨o, rv, ho, x.below h2, ok, y, fun b hb => ⟨Nat.lt_of_lt_of_le hb (Nat.le_trans h1.size h2.size), hY b hb, fun h => ?_⟩, fun b hb h => ?_, fun b hb => y.hlt hb⟩
  · have := hr b h
    have := h1.size
    omega
  · have := hr b h
    have := x.lt hb
    omega
end Go.Proofs.Ytilahfomiofgcaa
namespace Go.Proofs.Ytilahfomiofgcaa
open Go.RowKit Go.Sort
set_option maxRecDepth 100000

theorem takeV_form (A : La) : ∃ n g q e er : Int, takeV A = .tuple #[.agg #[.int .i64 n, .int .u64 g], .agg #[.int .u64 q, .int .u64 e], .int .i64 er] := by
  unfold takeV
  cases A.P with
  | nil => exact ⟨_, _, _, _, _, rfl⟩
  | cons m P => exact ⟨_, _, _, _, _, rfl⟩
theorem firstV_form (A : La) : ∃ (t u q e : Int) (b : Bool), firstV A = .tuple #[.agg #[.int .i64 t, .int .i64 u], .agg #[.int .u64 q, .int .u64 e], .bool b] := by
  unfold firstV
  cases A.P with
  | nil => exact ⟨_, _, _, _, _, rfl⟩
  | cons m P => exact ⟨_, _, _, _, _, rfl⟩

set_option maxHeartbeats 4000000 in
theorem jstep (A : La) (hc : A.c < 1000000) (o : Jo) (hq : o.okq) (p r : Nat) (Y : Nat → Prop) (w : World) (t : Pr w.heap.size w p r A A Y) (cR : Hid ResetTells) :
    Calls Try.prog 7 #[pV p, pV r, joV o] w fun e w' => e = .returned (.bool true) ∧ (∃ A' : La, A'.c ≤ A.c + 1 ∧ Pr w'.heap.size w' p r A' A' Y) ∧ But (Els Y) w w' := by
  have HQ : Hid o.okq := hq
  obtain ⟨n, hn⟩ : ∃ n, w.heap.size = n := ⟨_, rfl⟩
  rw [hn] at t
  have T4 : Hid (Pr n (w.alloc (.cells #[.int .i64 o.k, .int .u64 o.q, .int .u64 o.e, .int .i64 o.n, .int .u64 o.g, .int .i64 o.t, .int .i64 o.s] 40)) p r A A (fun b => Y b ∨ b = w.heap.size)) := t.box _
  have E4 : Hid (But (Els Y) w (w.alloc (.cells #[.int .i64 o.k, .int .u64 o.q, .int .u64 o.e, .int .i64 o.n, .int .u64 o.g, .int .i64 o.t, .int .i64 o.s] 40))) := (But.refl _ w).alloc _
  obtain ⟨d0, d1, d2, d3, d4, d5, d6⟩ := b7_new w o 40
  clear hq t
  obtain ⟨w4, hw4⟩ : ∃ w4, w.alloc (.cells #[.int .i64 o.k, .int .u64 o.q, .int .u64 o.e, .int .i64 o.n, .int .u64 o.g, .int .i64 o.t, .int .i64 o.s] 40) = w4 := ⟨_, rfl⟩
  rw [hw4] at T4 E4 d0 d1 d2 d3 d4 d5 d6
  clear hn
  generalize hD : w.heap.size = D at *
  unfold joV
  go_enter Try.func7, Try.ntmps7
  by_cases k1 : o.k = 1
  · rw [k1] at hw4
    obtain ⟨vq, ve, er, hV⟩ := claimV_form A
    have cC := T4.out.stepL fun X l => claimN l hc
    rw [hV] at cC
    go_wp2_with fail
    clear hw4 hD d0 d1 d2 d3 d4 d5 d6
    refine cC.mono ?_
    rintro e w5 ⟨rfl, t5, e5⟩
    have t6 := t5.box (.cells #[.int .u64 vq, .int .u64 ve] 34)
    have b6 := b2_new w5 (.int .u64 vq) (.int .u64 ve) 34
    have e6 : But (Els Y) w (w5.alloc (.cells #[.int .u64 vq, .int .u64 ve] 34)) := (E4.out.trans (e5.mono fun _ h h' => h (.inl h'))).alloc _
    clear cC t5 e5
    go_wp2_with fail
    generalize w5.alloc (.cells #[.int .u64 vq, .int .u64 ve] 34) = w6 at *
    generalize w5.heap.size = D1 at *
    have cC := t6.stepR' fun X l => claimR l hc
    rw [hV] at cC
    clear hV
    refine cC.mono ?_
    rintro e w7 ⟨rfl, t7, e7⟩
    have hb8 := jalloc (Below.refl _ w7) (.cells #[.int .u64 vq, .int .u64 ve] 34)
    have T8 : Hid (Pr w7.heap.size (w7.alloc (.cells #[.int .u64 vq, .int .u64 ve] 34)) p r (claimA A) (claimA A) Y) := (t7.below hb8).less fun _ h => .inl (.inl h)
    have E8 : Hid (But (Els Y) w (w7.alloc (.cells #[.int .u64 vq, .int .u64 ve] 34))) := (e6.trans (e7.mono fun _ h h' => h (.inl (.inl h')))).alloc _
    obtain ⟨x0, x1⟩ := (b6.els (X := fun b => (Y b ∨ b = D) ∨ b = D1) (.inr rfl) e7).below hb8
    obtain ⟨y0, y1⟩ := b2_new w7 (.int .u64 vq) (.int .u64 ve) 34
    have hcc := (claimA_st A).2.2.2.2.2.2
    clear cC t6 t7 e7 e6 hb8 b6
    go_wp2_with fail
    go_ret
    exact ⟨by simp, ⟨_, hcc, T8.out.up⟩, E8.out⟩
  · by_cases k2 : o.k = 2
    · rw [k2] at hw4
      have c1 := ((T4.out.below (Below.refl _ w4).drew).stepL fun X l => layN (q := o.q) (e := o.e) (n := o.n) (g := o.g) l HQ.out.1 HQ.out.2).mono fun _ w'' h => (⟨h.1, h.2.1, (But.refl _ _).drew.trans h.2.2⟩ : _ ∧ Pr n w'' p r (layA A o.q o.e o.n o.g) A (fun b => Y b ∨ b = D) ∧ But (Els (fun b => Y b ∨ b = D)) w4 w'')
      have c2 := fun W (hW : Pr n W p r (layA A o.q o.e o.n o.g) A (fun b => Y b ∨ b = D)) (hB : But (Els (fun b => Y b ∨ b = D)) w4 W) => (hW.stepR' fun X l => layR (q := o.q) (e := o.e) (n := o.n) (g := o.g) l HQ.out.1 HQ.out.2).mono fun _ w'' h => (⟨h.1, h.2.1, hB.trans h.2.2⟩ : _ ∧ Pr w''.heap.size w'' p r (layA A o.q o.e o.n o.g) (layA A o.q o.e o.n o.g) (fun b => Y b ∨ b = D) ∧ But (Els (fun b => Y b ∨ b = D)) w4 w'')
      have toS : ∀ W, But (Els (fun b => Y b ∨ b = D)) w4 W → W.cell? ⟨D, 1, none⟩ = some (.int .u64 o.q) ∧ W.cell? ⟨D, 2, none⟩ = some (.int .u64 o.e) ∧ W.cell? ⟨D, 3, none⟩ = some (.int .i64 o.n) ∧ W.cell? ⟨D, 4, none⟩ = some (.int .u64 o.g) := fun W h => ⟨els_cell h (.inr rfl) d1, els_cell h (.inr rfl) d2, els_cell h (.inr rfl) d3, els_cell h (.inr rfl) d4⟩
      have to4 := toS _ (But.refl _ _)
      generalize layE A o.q o.e = er at *
      unfold tkV slV at c1 c2
      go_wp2_with fail
      clear hw4 hD d0 d1 d2 d3 d4 d5 d6
      go_region_held3 (fun W => W.cell? ⟨D, 1, none⟩ = some (.int .u64 o.q) ∧ W.cell? ⟨D, 2, none⟩ = some (.int .u64 o.e) ∧ W.cell? ⟨D, 3, none⟩ = some (.int .i64 o.n) ∧ W.cell? ⟨D, 4, none⟩ = some (.int .u64 o.g)) (first | assumption | exact toS _ (by assumption) | exact toS _ (But.refl _ _).drew | exact toS _ (But.refl _ _)) (first | (go_at_call 11; (with_reducible refine c1.mono ?_); rintro v w5 ⟨rfl, t5, e5⟩; have hcall := c2 _ t5 e5) | (go_at_call 17; (with_reducible refine hcall.mono ?_); rintro v w6 ⟨rfl, t6, e6⟩))
      go_wp2_with fail
      go_ret
      exact ⟨rfl, ⟨_, by rw [layA_c]; omega, t6.less fun _ h => .inl h⟩, E4.out.trans (e6.mono fun _ h h' => h (.inl h'))⟩
    · by_cases k3 : o.k = 3
      · rw [k3] at hw4
        have c1 := ((T4.out.below (Below.refl _ w4).drew).stepL fun X l => readyN (q := o.q) (e := o.e)  l HQ.out.1 HQ.out.2).mono fun _ w'' h => (⟨h.1, h.2.1, (But.refl _ _).drew.trans h.2.2⟩ : _ ∧ Pr n w'' p r A A (fun b => Y b ∨ b = D) ∧ But (Els (fun b => Y b ∨ b = D)) w4 w'')
        have c2 := fun W (hW : Pr n W p r A A (fun b => Y b ∨ b = D)) (hB : But (Els (fun b => Y b ∨ b = D)) w4 W) => (hW.stepR' fun X l => readyR (q := o.q) (e := o.e)  l HQ.out.1 HQ.out.2).mono fun _ w'' h => (⟨h.1, h.2.1, hB.trans h.2.2⟩ : _ ∧ Pr w''.heap.size w'' p r A A (fun b => Y b ∨ b = D) ∧ But (Els (fun b => Y b ∨ b = D)) w4 w'')
        have toS : ∀ W, But (Els (fun b => Y b ∨ b = D)) w4 W → W.cell? ⟨D, 1, none⟩ = some (.int .u64 o.q) ∧ W.cell? ⟨D, 2, none⟩ = some (.int .u64 o.e) := fun W h => ⟨els_cell h (.inr rfl) d1, els_cell h (.inr rfl) d2⟩
        have to4 := toS _ (But.refl _ _)
        generalize decide (lackE A o.q o.e = 0) = er at *
        unfold tkV at c1 c2
        go_wp2_with fail
        clear hw4 hD d0 d1 d2 d3 d4 d5 d6
        go_region_held3 (fun W => W.cell? ⟨D, 1, none⟩ = some (.int .u64 o.q) ∧ W.cell? ⟨D, 2, none⟩ = some (.int .u64 o.e)) (first | assumption | exact toS _ (by assumption) | exact toS _ (But.refl _ _).drew | exact toS _ (But.refl _ _)) (first | (go_at_call 15; (with_reducible refine c1.mono ?_); rintro v w5 ⟨rfl, t5, e5⟩; have hcall := c2 _ t5 e5) | (go_at_call 18; (with_reducible refine hcall.mono ?_); rintro v w6 ⟨rfl, t6, e6⟩))
        go_wp2_with fail
        go_ret
        exact ⟨rfl, ⟨_, by omega, t6.less fun _ h => .inl h⟩, E4.out.trans (e6.mono fun _ h h' => h (.inl h'))⟩
      · by_cases k4 : o.k = 4
        · rw [k4] at hw4
          have c1 := ((T4.out.below (Below.refl _ w4).drew).stepL fun X l => pubN (q := o.q) (e := o.e) (t := o.t) (s := o.s) l HQ.out.1 HQ.out.2).mono fun _ w'' h => (⟨h.1, h.2.1, (But.refl _ _).drew.trans h.2.2⟩ : _ ∧ Pr n w'' p r (pubA A o.q o.e o.t o.s) A (fun b => Y b ∨ b = D) ∧ But (Els (fun b => Y b ∨ b = D)) w4 w'')
          have c2 := fun W (hW : Pr n W p r (pubA A o.q o.e o.t o.s) A (fun b => Y b ∨ b = D)) (hB : But (Els (fun b => Y b ∨ b = D)) w4 W) => (hW.stepR' fun X l => pubR (q := o.q) (e := o.e) (t := o.t) (s := o.s) l HQ.out.1 HQ.out.2).mono fun _ w'' h => (⟨h.1, h.2.1, hB.trans h.2.2⟩ : _ ∧ Pr w''.heap.size w'' p r (pubA A o.q o.e o.t o.s) (pubA A o.q o.e o.t o.s) (fun b => Y b ∨ b = D) ∧ But (Els (fun b => Y b ∨ b = D)) w4 w'')
          have toS : ∀ W, But (Els (fun b => Y b ∨ b = D)) w4 W → W.cell? ⟨D, 1, none⟩ = some (.int .u64 o.q) ∧ W.cell? ⟨D, 2, none⟩ = some (.int .u64 o.e) ∧ W.cell? ⟨D, 5, none⟩ = some (.int .i64 o.t) ∧ W.cell? ⟨D, 6, none⟩ = some (.int .i64 o.s) := fun W h => ⟨els_cell h (.inr rfl) d1, els_cell h (.inr rfl) d2, els_cell h (.inr rfl) d5, els_cell h (.inr rfl) d6⟩
          have to4 := toS _ (But.refl _ _)
          generalize lackE A o.q o.e = er at *
          unfold tkV smV at c1 c2
          go_wp2_with fail
          clear hw4 hD d0 d1 d2 d3 d4 d5 d6
          go_region_held3 (fun W => W.cell? ⟨D, 1, none⟩ = some (.int .u64 o.q) ∧ W.cell? ⟨D, 2, none⟩ = some (.int .u64 o.e) ∧ W.cell? ⟨D, 5, none⟩ = some (.int .i64 o.t) ∧ W.cell? ⟨D, 6, none⟩ = some (.int .i64 o.s)) (first | assumption | exact toS _ (by assumption) | exact toS _ (But.refl _ _).drew | exact toS _ (But.refl _ _)) (first | (go_at_call 12; (with_reducible refine c1.mono ?_); rintro v w5 ⟨rfl, t5, e5⟩; have hcall := c2 _ t5 e5) | (go_at_call 19; (with_reducible refine hcall.mono ?_); rintro v w6 ⟨rfl, t6, e6⟩))
          go_wp2_with fail
          go_ret
          exact ⟨rfl, ⟨_, by rw [pubA_c]; omega, t6.less fun _ h => .inl h⟩, E4.out.trans (e6.mono fun _ h h' => h (.inl h'))⟩
        · by_cases k5 : o.k = 5
          · rw [k5] at hw4
            obtain ⟨vn, vg, vq, ve, vb, hV⟩ := firstV_form A
            have cC := T4.out.stepL fun X l => firstN l
            rw [hV] at cC
            go_wp2_with fail
            clear hw4 hD d0 d1 d2 d3 d4 d5 d6
            refine cC.mono ?_
            rintro e w5 ⟨rfl, t5, e5⟩
            have t6 := (t5.box (.cells #[.int .i64 vn, .int .i64 vg] 38)).box (.cells #[.int .u64 vq, .int .u64 ve] 34)
            have hsz : (w5.alloc (.cells #[.int .i64 vn, .int .i64 vg] 38)).heap.size = w5.heap.size + 1 := by simp
            rw [hsz] at t6
            have bb := jtwo (w := w5) (x := .int .i64 vn) (y := .int .i64 vg) (u := .int .u64 vq) (v := .int .u64 ve) (T := 38) (U := 34) (Below.refl _ _)
            have e6 : But (Els Y) w ((w5.alloc (.cells #[.int .i64 vn, .int .i64 vg] 38)).alloc (.cells #[.int .u64 vq, .int .u64 ve] 34)) := ((E4.out.trans (e5.mono fun _ h h' => h (.inl h'))).alloc _).alloc _
            have b6 : B2 ((w5.alloc (.cells #[.int .i64 vn, .int .i64 vg] 38)).alloc (.cells #[.int .u64 vq, .int .u64 ve] 34)) w5.heap.size (.int .i64 vn) (.int .i64 vg) := ⟨bb.1.1, bb.1.2.1⟩
            have b7 : B2 ((w5.alloc (.cells #[.int .i64 vn, .int .i64 vg] 38)).alloc (.cells #[.int .u64 vq, .int .u64 ve] 34)) (w5.heap.size + 1) (.int .u64 vq) (.int .u64 ve) := ⟨bb.2.1, bb.2.2.1⟩
            clear cC t5 e5 hsz bb
            go_wp2_with fail
            generalize (w5.alloc (.cells #[.int .i64 vn, .int .i64 vg] 38)).alloc (.cells #[.int .u64 vq, .int .u64 ve] 34) = w6 at *
            generalize w5.heap.size = D1 at *
            have cC := t6.stepR' fun X l => firstR l
            rw [hV] at cC
            clear hV
            refine cC.mono ?_
            rintro e w7 ⟨rfl, t7, e7⟩
            have hb8 := jalloc (jalloc (Below.refl _ w7) (.cells #[.int .i64 vn, .int .i64 vg] 38)) (.cells #[.int .u64 vq, .int .u64 ve] 34)
            have T8 : Hid (Pr w7.heap.size ((w7.alloc (.cells #[.int .i64 vn, .int .i64 vg] 38)).alloc (.cells #[.int .u64 vq, .int .u64 ve] 34)) p r A A Y) := (t7.below hb8).less fun _ h => .inl (.inl (.inl h))
            have E8 : Hid (But (Els Y) w ((w7.alloc (.cells #[.int .i64 vn, .int .i64 vg] 38)).alloc (.cells #[.int .u64 vq, .int .u64 ve] 34))) := ((e6.trans (e7.mono fun _ h h' => h (.inl (.inl (.inl h'))))).alloc _).alloc _
            obtain ⟨x0, x1⟩ := (b6.els (X := fun b => ((Y b ∨ b = D) ∨ b = D1) ∨ b = D1 + 1) (.inl (.inr rfl)) e7).below hb8
            obtain ⟨x2, x3⟩ := (b7.els (X := fun b => ((Y b ∨ b = D) ∨ b = D1) ∨ b = D1 + 1) (.inr rfl) e7).below hb8
            obtain ⟨⟨y0, y1, _⟩, y2, y3, _⟩ := jtwo (w := w7) (x := .int .i64 vn) (y := .int .i64 vg) (u := .int .u64 vq) (v := .int .u64 ve) (T := 38) (U := 34) (Below.refl _ _)
            clear cC t6 t7 e7 e6 hb8 b6 b7
            go_wp2_with fail
            go_ret
            exact ⟨by simp, ⟨_, by omega, T8.out.up⟩, E8.out⟩
          · by_cases k6 : o.k = 6
            · rw [k6] at hw4
              obtain ⟨vn, vg, vq, ve, er, hV⟩ := takeV_form A
              have cC := T4.out.stepL fun X l => takeN l
              rw [hV] at cC
              go_wp2_with fail
              clear hw4 hD d0 d1 d2 d3 d4 d5 d6
              refine cC.mono ?_
              rintro e w5 ⟨rfl, t5, e5⟩
              have t6 := (t5.box (.cells #[.int .i64 vn, .int .u64 vg] 36)).box (.cells #[.int .u64 vq, .int .u64 ve] 34)
              have hsz : (w5.alloc (.cells #[.int .i64 vn, .int .u64 vg] 36)).heap.size = w5.heap.size + 1 := by simp
              rw [hsz] at t6
              have bb := jtwo (w := w5) (x := .int .i64 vn) (y := .int .u64 vg) (u := .int .u64 vq) (v := .int .u64 ve) (T := 36) (U := 34) (Below.refl _ _)
              have e6 : But (Els Y) w ((w5.alloc (.cells #[.int .i64 vn, .int .u64 vg] 36)).alloc (.cells #[.int .u64 vq, .int .u64 ve] 34)) := ((E4.out.trans (e5.mono fun _ h h' => h (.inl h'))).alloc _).alloc _
              have b6 : B2 ((w5.alloc (.cells #[.int .i64 vn, .int .u64 vg] 36)).alloc (.cells #[.int .u64 vq, .int .u64 ve] 34)) w5.heap.size (.int .i64 vn) (.int .u64 vg) := ⟨bb.1.1, bb.1.2.1⟩
              have b7 : B2 ((w5.alloc (.cells #[.int .i64 vn, .int .u64 vg] 36)).alloc (.cells #[.int .u64 vq, .int .u64 ve] 34)) (w5.heap.size + 1) (.int .u64 vq) (.int .u64 ve) := ⟨bb.2.1, bb.2.2.1⟩
              clear cC t5 e5 hsz bb
              go_wp2_with fail
              generalize (w5.alloc (.cells #[.int .i64 vn, .int .u64 vg] 36)).alloc (.cells #[.int .u64 vq, .int .u64 ve] 34) = w6 at *
              generalize w5.heap.size = D1 at *
              have cC := t6.stepR' fun X l => takeR l
              rw [hV] at cC
              clear hV
              refine cC.mono ?_
              rintro e w7 ⟨rfl, t7, e7⟩
              have hb8 := jalloc (jalloc (Below.refl _ w7) (.cells #[.int .i64 vn, .int .u64 vg] 36)) (.cells #[.int .u64 vq, .int .u64 ve] 34)
              have T8 : Hid (Pr w7.heap.size ((w7.alloc (.cells #[.int .i64 vn, .int .u64 vg] 36)).alloc (.cells #[.int .u64 vq, .int .u64 ve] 34)) p r (takeA A) (takeA A) Y) := (t7.below hb8).less fun _ h => .inl (.inl (.inl h))
              have E8 : Hid (But (Els Y) w ((w7.alloc (.cells #[.int .i64 vn, .int .u64 vg] 36)).alloc (.cells #[.int .u64 vq, .int .u64 ve] 34))) := ((e6.trans (e7.mono fun _ h h' => h (.inl (.inl (.inl h'))))).alloc _).alloc _
              obtain ⟨x0, x1⟩ := (b6.els (X := fun b => ((Y b ∨ b = D) ∨ b = D1) ∨ b = D1 + 1) (.inl (.inr rfl)) e7).below hb8
              obtain ⟨x2, x3⟩ := (b7.els (X := fun b => ((Y b ∨ b = D) ∨ b = D1) ∨ b = D1 + 1) (.inr rfl) e7).below hb8
              obtain ⟨⟨y0, y1, _⟩, y2, y3, _⟩ := jtwo (w := w7) (x := .int .i64 vn) (y := .int .u64 vg) (u := .int .u64 vq) (v := .int .u64 ve) (T := 36) (U := 34) (Below.refl _ _)
              clear cC t6 t7 e7 e6 hb8 b6 b7
              go_wp2_with fail
              go_ret
              exact ⟨by simp, ⟨_, by rw [takeA_c]; omega, T8.out.up⟩, E8.out⟩
            · by_cases k7 : o.k = 7
              · rw [k7] at hw4
                have cC := T4.out.stepL fun X l => retN (q := o.q) (e := o.e) l HQ.out.1 HQ.out.2
                have c2 := fun D2 W (hW : Pr n W p r (retA A o.q o.e) A (fun b => (Y b ∨ b = D) ∨ b = D2)) => hW.stepR' fun X l => retR (q := o.q) (e := o.e) l HQ.out.1 HQ.out.2
                unfold tkV slV at cC c2
                obtain ⟨vn, hvn⟩ : ∃ vn, (retS A o.q o.e).1 = vn := ⟨_, rfl⟩
                obtain ⟨vg, hvg⟩ : ∃ vg, (retS A o.q o.e).2 = vg := ⟨_, rfl⟩
                rw [hvn, hvg] at cC c2
                clear hvn hvg
                generalize retB A o.q o.e = vb at *
                generalize retE A o.q o.e = er at *
                go_wp2_with fail
                clear hw4 hD d0 d3 d4 d5 d6
                refine cC.mono ?_
                rintro e w5 ⟨rfl, t5, e5⟩
                have t6 := t5.box (.cells #[.int .i64 vn, .int .u64 vg] 36)
                have b6 := b2_new w5 (.int .i64 vn) (.int .u64 vg) 36
                have f1' := jcells (jalloc (Below.refl _ w5) (.cells #[.int .i64 vn, .int .u64 vg] 36)) (els_cell e5 (.inr rfl) d1)
                have f2' := jcells (jalloc (Below.refl _ w5) (.cells #[.int .i64 vn, .int .u64 vg] 36)) (els_cell e5 (.inr rfl) d2)
                have e6 : But (Els Y) w (w5.alloc (.cells #[.int .i64 vn, .int .u64 vg] 36)) := (E4.out.trans (e5.mono fun _ h h' => h (.inl h'))).alloc _
                clear cC t5 e5 d1 d2
                go_wp2_with fail
                generalize w5.alloc (.cells #[.int .i64 vn, .int .u64 vg] 36) = w6 at *
                generalize w5.heap.size = D1 at *
                have cC := c2 _ _ t6
                clear c2 f1' f2'
                refine cC.mono ?_
                rintro e w7 ⟨rfl, t7, e7⟩
                have hb8 := jalloc (Below.refl _ w7) (.cells #[.int .i64 vn, .int .u64 vg] 36)
                have T8 : Hid (Pr w7.heap.size (w7.alloc (.cells #[.int .i64 vn, .int .u64 vg] 36)) p r (retA A o.q o.e) (retA A o.q o.e) Y) := (t7.below hb8).less fun _ h => .inl (.inl h)
                have E8 : Hid (But (Els Y) w (w7.alloc (.cells #[.int .i64 vn, .int .u64 vg] 36))) := (e6.trans (e7.mono fun _ h h' => h (.inl (.inl h')))).alloc _
                obtain ⟨x0, x1⟩ := (b6.els (X := fun b => (Y b ∨ b = D) ∨ b = D1) (.inr rfl) e7).below hb8
                obtain ⟨y0, y1⟩ := b2_new w7 (.int .i64 vn) (.int .u64 vg) 36
                clear cC t6 t7 e7 e6 hb8 b6
                go_wp2_with fail
                go_ret
                exact ⟨by simp, ⟨_, by rw [retA_c]; omega, T8.out.up⟩, E8.out⟩
              · by_cases k8 : o.k = 8
                · rw [k8] at hw4
                  have cC := T4.out.up.stepL fun X l => cR.out _ _ _ _ l
                  have hcc : (resA A).c ≤ A.c + 1 := by rw [resA_c]; omega
                  go_wp2_with fail
                  clear hw4 hD d0 d1 d2 d3 d4 d5 d6
                  refine cC.mono ?_
                  rintro e w5 ⟨⟨v1, rfl, s1⟩, m5, e5⟩
                  clear cC
                  have cC := m5.stepR fun X l => resetR l
                  have hsz := e5.size
                  generalize resE A = er at *
                  go_wp2_with fail
                  refine cC.mono ?_
                  rintro e w6 ⟨⟨v2, rfl, s2⟩, t6, e6⟩
                  have s1' := s1.els (fun b h1 h2 => .inr ⟨h1, h2⟩) e6
                  have cS := jsame _ w6 s1' s2
                  have E6 : Hid (But (Els Y) w w6) := E4.out.trans ((e5.mono fun _ h h' => h (.inl h')).trans (e6.mono fun _ h h' => h (.inl (.inl h'))))
                  clear cC s1 s1' s2 e5 e6 m5 hsz
                  go_wp2_with fail
                  refine cS.mono ?_
                  rintro e w7 ⟨rfl, hb7⟩
                  go_wp2_with fail
                  go_ret
                  exact ⟨by simp, ⟨_, hcc, ((t6.below hb7).less fun _ h => .inl h).up⟩, E6.out.trans (els_below hb7)⟩
                · go_wp2_with fail
                  clear hw4 hD d0 d1 d2 d3 d4 d5 d6
                  go_ret
                  exact ⟨rfl, ⟨A, by omega, (T4.out.less fun _ h => .inl h).up⟩, E4.out⟩
end Go.Proofs.Ytilahfomiofgcaa
namespace Go.Proofs.Ytilahfomiofgcaa
open Go.RowKit Go.Sort
set_option maxRecDepth 100000

set_option maxHeartbeats 2000000 in
theorem jruns_bad (cr : Int) (two : Bool) (st : Int) (a : Option Addr) (len cap : Nat) (f : Nat → Jo) (w : World) (hcr : ¬ (1 ≤ cr ∧ cr ≤ 64)) (hops : JOps w a len cap f) :
    Calls Try.prog 3 #[.int .i64 cr, .bool two, .int .u64 st, .slice a len cap] w fun e w' => e = .returned (.bool true) ∧ Below w.heap.size w w' := by
  have hlc : len ≤ 9223372036854775807 := by have h1 := hops.2.1; have h2 := hops.2.2; unfold maxLen at h2; omega
  have cA := jawake w
  clear hops
  go_enter Try.func3, Try.ntmps3
  go_wp2_with fail
  refine cA.mono ?_
  rintro e w1 ⟨rfl, hb1⟩
  have cN := jnew_no cr two st w1 (by unfold okCr; simp; omega)
  clear cA
  go_wp2_with fail
  refine cN.mono ?_
  rintro e w2 ⟨rfl, hw2⟩
  subst hw2
  clear cN
  have cN := rnew_bad w2 (c := cr) (two := two) (st := st) hcr
  go_wp2_with fail
  refine cN.mono ?_
  rintro e w3 ⟨rfl, hb3⟩
  clear cN
  go_wp2_with fail
  go_loopw [13] (fun vi wr => vi = .int .i64 0 ∧ wr = w3) (fun _ _ => 0)
  case atStart => exact ⟨rfl, rfl⟩
  case round =>
    obtain ⟨rfl, rfl⟩ := hrel
    by_cases h0 : 0 < len
    · go_wp2_with fail
      go_ret
      exact ⟨rfl, Below.onto hb1 hb3⟩
    · obtain rfl : len = 0 := by omega
      go_wp2_with fail
      go_ret
      exact ⟨rfl, Below.onto hb1 hb3⟩
set_option maxHeartbeats 4000000 in
theorem jruns_ok (n : Nat) (two : Bool) (st : Int) (a : Option Addr) (len cap : Nat) (f : Nat → Jo) (w : World) (n1 : 1 ≤ n) (n2 : n ≤ 64) (s0 : 0 ≤ st) (s1 : st < 18446744073709551616) (hops : JOps w a len cap f) (cR : Hid ResetTells) :
    Calls Try.prog 3 #[.int .i64 (n : Int), .bool two, .int .u64 st, .slice a len cap] w fun e w' => e = .returned (.bool true) ∧ Below w.heap.size w w' := by
  have hlc : len ≤ 9223372036854775807 := by have h1 := hops.2.1; have h2 := hops.2.2; unfold maxLen at h2; omega
  have cA := jawake w
  have HOps : Hid (JOps w a len cap f) := hops
  clear hops
  go_enter Try.func3, Try.ntmps3
  go_wp2_with fail
  refine cA.mono ?_
  rintro e w1 ⟨rfl, hb1⟩
  have cN := newN w1 (two := two) (st := st) n1 n2 s0 s1
  clear cA
  go_wp2_with fail
  refine cN.mono ?_
  rintro e w2 ⟨p, rfl, hl2, hb2⟩
  clear cN
  have cN := rnew w2 (two := two) (st := st) n1 n2 s0 s1
  go_wp2_with fail
  refine cN.mono ?_
  rintro e w3 ⟨rfl, y3, hb3⟩
  have P0 : Pr w3.heap.size w3 p w2.heap.size (newA n two st) (newA n two st) (fun b => b < w.heap.size) :=
    (pr_new hl2 hb2 y3 (newA_ok n1 n2 s0 s1) (fun b hb => hb.elim (fun h => Nat.le_of_eq h.symm) (fun h => by simp [Value.ownBlock] at h)) hb3).less fun b hb => Nat.lt_of_lt_of_le hb hb1.size
  have HP0 : Hid (Pr w3.heap.size w3 p w2.heap.size (newA n two st) (newA n two st) (fun b => b < w.heap.size)) := P0
  have HB0 : Hid (Below w.heap.size w w3) := Below.onto hb1 (Below.onto hb2 hb3)
  clear cN hl2 hb2 hb1 y3 hb3 P0
  generalize w2.heap.size = r at *
  go_wp2_with fail
  go_loopw [13] (fun vi wr => ∃ (A : La) (i : Nat), i ≤ 60 ∧ vi = .int .i64 i ∧ A.c ≤ i ∧ Hid (Pr wr.heap.size wr p r A A (fun b => b < w.heap.size)) ∧ Hid (Below w.heap.size w wr)) (fun vi _ => 60 - (intOf vi).toNat)
  case atStart => exact ⟨_, 0, by omega, rfl, Nat.le_refl _, HP0, HB0⟩
  case round =>
    obtain ⟨A, i, hi, rfl, hAc, HP, HB⟩ := hrel
    by_cases h60 : i < 60
    · by_cases hlt : i < len
      · obtain ⟨b, off, rfl, hJ, hq⟩ := HOps.out.1 i hlt
        obtain ⟨j0, j1, j2, j3, j4, j5, j6⟩ := hJ.below HB.out
        have cS := jstep A (by omega) (f i) hq p r _ wr HP.out cR
        clear hq
        generalize f i = o at *
        unfold joV at cS
        go_wp2_with fail
        refine cS.mono ?_
        rintro e w5 ⟨rfl, ⟨A', hc', t5⟩, e5⟩
        have HB5 : Hid (Below w.heap.size w w5) := els_base HB.out e5 fun _ h => h
        clear cS e5 j0 j1 j2 j3 j4 j5 j6
        have cT := t5.stepL fun X l => stateN l
        have hV : ∃ x1 x2 x3 x4 x5 x6 : Int, staV A' = .agg #[.int .i64 x1, .int .i64 x2, .int .i64 x3, .int .i64 x4, .int .i64 x5, .int .u64 x6] := ⟨_, _, _, _, _, _, rfl⟩
        obtain ⟨x1, x2, x3, x4, x5, x6, hV⟩ := hV
        rw [hV] at cT
        go_wp2_with fail
        refine cT.mono ?_
        rintro e w6 ⟨rfl, t6, e6⟩
        clear cT
        have cT := t6.stepR' fun X l => stateR l
        rw [hV] at cT
        clear hV
        go_wp2_with fail
        refine cT.mono ?_
        rintro e w7 ⟨rfl, t7, e7⟩
        have HP7 : Hid (Pr w7.heap.size w7 p r A' A' (fun b => b < w.heap.size)) := t7
        have HB7 : Hid (Below w.heap.size w w7) := els_base HB5.out (e6.trans e7) fun _ h => h
        clear cT t5 t6 t7 e6 e7
        go_wp2_with fail
        go_roundw
        case rel => exact ⟨A', i + 1, by omega, by go_num, by omega, HP7, HB7⟩
        case measure => simp [intOf]; omega
      · go_wp2_with fail
        go_ret
        exact ⟨rfl, HB.out⟩
    · go_wp2_with fail
      all_goals (go_ret; exact ⟨rfl, HB.out⟩)
theorem jruns (cr : Int) (two : Bool) (st : Int) (a : Option Addr) (len cap : Nat) (f : Nat → Jo) (w : World) (s0 : 0 ≤ st) (s1 : st < 18446744073709551616) (hops : JOps w a len cap f) (cR : Hid ResetTells) :
    Calls Try.prog 3 #[.int .i64 cr, .bool two, .int .u64 st, .slice a len cap] w fun e w' => e = .returned (.bool true) ∧ Below w.heap.size w w' := by
  by_cases h : 1 ≤ cr ∧ cr ≤ 64
  · obtain ⟨n, hn⟩ : ∃ n : Nat, cr = (n : Int) := ⟨cr.toNat, by omega⟩
    subst hn
    exact jruns_ok n two st a len cap f w (by omega) (by omega) s0 s1 hops cR
  · exact jruns_bad cr two st a len cap f w h hops
end Go.Proofs.Ytilahfomiofgcaa
