/- Two claims whose numbers wrap, published and taken in their order. -/
import Derived.Test.YtilahfomiofgcaaJLane
namespace Go.Proofs.Ytilahfomiofgcaa
open Go.RowKit Go.Sort
set_option maxRecDepth 100000

def tpI : Int := 18446744073709551615
def aw0 : La := newA 2 true tpI
def aw2 : La := ⟨2, true, tpI, 0, 2, [], [], [⟨0, 1, false, 0, 0, 0, 0⟩, ⟨1, 1, false, 0, 0, 0, 0⟩]⟩
def aw3 : La := ⟨2, true, tpI, 0, 2, [], [], [⟨0, 1, true, 7, 0, 0, 0⟩, ⟨1, 1, false, 0, 0, 0, 0⟩]⟩
def aw4 : La := ⟨2, true, tpI, 0, 2, [], [], [⟨0, 1, true, 7, 0, 0, 0⟩, ⟨1, 1, true, 8, 0, 0, 0⟩]⟩
def aw5 : La := ⟨2, true, tpI, 0, 2, [], [⟨0, 2, true, 7, 0, 2, 0⟩], [⟨1, 1, true, 8, 0, 0, 0⟩]⟩
def aw6 : La := ⟨2, true, tpI, 0, 2, [⟨0, 3, true, 7, 0, 2, 0⟩], [], [⟨1, 1, true, 8, 0, 0, 0⟩]⟩
def aw7 : La := ⟨2, true, tpI, 0, 2, [], [], [⟨1, 1, true, 8, 0, 0, 0⟩]⟩
theorem aw_1 : claimA (claimA aw0) = aw2 := by rfl
theorem aw_2 : claimA aw2 = aw2 := by rfl
theorem aw_3 : layA aw2 tpI 0 7 0 = aw3 := by rfl
theorem aw_4 : layA aw3 0 0 8 0 = aw4 := by rfl
theorem aw_5 : pubA aw4 0 0 1 0 = aw4 := by rfl
theorem aw_6 : pubA aw4 tpI 0 2 0 = aw5 := by rfl
theorem aw_7 : takeA aw5 = aw6 := by rfl
theorem aw_8 : retA aw6 tpI 0 = aw7 := by rfl
theorem aw_v1 : claimV aw0 = .tuple #[.agg #[.int .u64 18446744073709551615, .int .u64 0], .int .i64 0] := by rfl
theorem aw_v2 : claimV (claimA aw0) = .tuple #[.agg #[.int .u64 0, .int .u64 0], .int .i64 0] := by rfl
theorem aw_v3 : claimV aw2 = .tuple #[.agg #[.int .u64 0, .int .u64 0], .int .i64 81] := by rfl
theorem aw_v4 : layE aw2 tpI 0 = 0 ∧ layE aw3 0 0 = 0 ∧ lackE aw4 0 0 = 83 ∧ lackE aw4 tpI 0 = 0 := ⟨rfl, rfl, rfl, rfl⟩
theorem aw_v5 : takeV aw5 = .tuple #[.agg #[.int .i64 7, .int .u64 0], .agg #[.int .u64 18446744073709551615, .int .u64 0], .int .i64 0] := by rfl
theorem aw_v6 : retS aw6 tpI 0 = (7, 0) ∧ retB aw6 tpI 0 = true ∧ retE aw6 tpI 0 = 0 := ⟨rfl, rfl, rfl⟩
theorem aw_v7 : staV aw7 = .agg #[.int .i64 1, .int .i64 1, .int .i64 0, .int .i64 0, .int .i64 0, .int .u64 0] := by rfl
theorem aw_v8 : decide (lackE aw7 0 0 = 0) = true := by rfl

/-- a box of two cells -/
def B2 (w : World) (D : Nat) (x y : Value) : Prop := w.cell? ⟨D, 0, none⟩ = some x ∧ w.cell? ⟨D, 1, none⟩ = some y
theorem B2.els {X : Nat → Prop} {w w' : World} {D : Nat} {x y : Value} (h : B2 w D x y) (hX : X D) (hb : But (Els X) w w') : B2 w' D x y := ⟨els_cell hb hX h.1, els_cell hb hX h.2⟩
theorem B2.below {w w' : World} {D : Nat} {x y : Value} (h : B2 w D x y) (hb : Below w.heap.size w w') : B2 w' D x y := ⟨jcells hb h.1, jcells hb h.2⟩
theorem b2_new (w : World) (x y : Value) (T : TypeId) : B2 (w.alloc (.cells #[x, y] T)) w.heap.size x y := ⟨jnew_at w #[x, y] T 0 (by simp), jnew_at w #[x, y] T 1 (by simp)⟩
set_option maxHeartbeats 8000000 in
theorem jawake (w : World) : Calls Try.prog 4 #[] w fun e w' => e = .returned (.bool true) ∧ Below w.heap.size w w' := by
  have cN := newN w (c := 2) (two := true) (st := 18446744073709551615) (by decide) (by decide) (by decide) (by decide)
  go_enter Try.func4, Try.ntmps4
  go_wp2_with fail
  refine cN.mono ?_
  rintro v w1 ⟨p, rfl, l1, hb1⟩
  clear cN
  have c1 := claimN (A := aw0) l1 (by decide)
  rw [aw_v1] at c1
  go_wp2_with fail
  refine c1.mono ?_
  rintro v w2 ⟨rfl, l2, e2⟩
  clear c1
  have l2b := l2.box (.cells #[.int .u64 18446744073709551615, .int .u64 0] 34)
  have x2 := b2_new w2 (.int .u64 18446744073709551615) (.int .u64 0) 34
  have E3 : But (Els (fun b => b < w.heap.size)) w (w2.alloc (.cells #[.int .u64 18446744073709551615, .int .u64 0] 34)) := ((els_below hb1).trans e2).alloc _
  clear l2 e2 l1 hb1
  go_wp2_with fail
  generalize w2.alloc (.cells #[.int .u64 18446744073709551615, .int .u64 0] 34) = w3 at *
  generalize w2.heap.size = Da at *
  have c1 := claimN l2b (by decide)
  rw [aw_v2] at c1
  refine c1.mono ?_
  rintro v w4 ⟨rfl, l4, e4⟩
  clear c1
  have x4 := x2.els (.inr rfl) e4
  have l4b := l4.box (.cells #[.int .u64 0, .int .u64 0] 34)
  have y4 := b2_new w4 (.int .u64 0) (.int .u64 0) 34
  have x5 := x4.below (jalloc (Below.refl _ w4) (.cells #[.int .u64 0, .int .u64 0] 34))
  have E5 : But (Els (fun b => b < w.heap.size)) w (w4.alloc (.cells #[.int .u64 0, .int .u64 0] 34)) := (E3.trans (e4.mono fun i h hx => h (.inl hx))).alloc _
  clear l4 e4 l2b x2 x4 E3
  go_wp2_with fail
  generalize w4.alloc (.cells #[.int .u64 0, .int .u64 0] 34) = w5 at *
  generalize w4.heap.size = Db at *
  rw [aw_1] at l4b
  have c1 := claimN l4b (by decide)
  rw [aw_v3, aw_2] at c1
  refine c1.mono ?_
  rintro v w6 ⟨rfl, l6, e6⟩
  clear c1
  have x6 := x5.els (.inl (.inr rfl)) e6
  have y6 := y4.els (.inr rfl) e6
  have hb7 := jalloc (Below.refl _ w6) (.cells #[.int .u64 0, .int .u64 0] 34)
  have l7 := l6.below hb7
  have x7 := x6.below hb7
  have y7 := y6.below hb7
  have E7 : But (Els (fun b => b < w.heap.size)) w (w6.alloc (.cells #[.int .u64 0, .int .u64 0] 34)) := (E5.trans (e6.mono fun i h hx => h (.inl (.inl hx)))).alloc _
  clear l6 e6 l4b x5 x6 y4 y6 E5 hb7
  go_wp2_with fail
  generalize w6.alloc (.cells #[.int .u64 0, .int .u64 0] 34) = w7 at *
  obtain ⟨X, hX⟩ : ∃ X : Nat → Prop, X = fun b => (b < w.heap.size ∨ b = Da) ∨ b = Db := ⟨_, rfl⟩
  have Xa : X Da := by rw [hX]; exact .inl (.inr rfl)
  have Xb : X Db := by rw [hX]; exact .inr rfl
  have Xw : ∀ i, i < w.heap.size → X i := fun i hi => by rw [hX]; exact .inl (.inl hi)
  have l7' : Ln w7 p aw2 X := l7.less (by rw [hX]; intro b h; exact h)
  have toS : ∀ W, But (Els X) w7 W → W.cell? ⟨Da, 0, none⟩ = some (.int .u64 18446744073709551615) ∧ W.cell? ⟨Da, 1, none⟩ = some (.int .u64 0) ∧ W.cell? ⟨Db, 0, none⟩ = some (.int .u64 0) ∧ W.cell? ⟨Db, 1, none⟩ = some (.int .u64 0) :=
    fun W h => ⟨(x7.els Xa h).1, (x7.els Xa h).2, (y7.els Xb h).1, (y7.els Xb h).2⟩
  have c1 := (layN (q := 18446744073709551615) (e := 0) (n := 7) (g := 0) (l7'.below (Below.refl _ w7).drew) (by decide) (by decide)).mono fun _ w'' h => (⟨h.1, h.2.1, (But.refl _ _).drew.trans h.2.2⟩ : _ ∧ Ln w'' p aw3 X ∧ But (Els X) w7 w'')
  have c2 := fun W (hW : Ln W p aw3 X) (hB : But (Els X) w7 W) => (layN (q := 0) (e := 0) (n := 8) (g := 0) hW (by decide) (by decide)).mono fun _ w'' h => (⟨h.1, h.2.1, hB.trans h.2.2⟩ : _ ∧ Ln w'' p aw4 X ∧ But (Els X) w7 w'')
  have v1 : layE aw2 18446744073709551615 0 = 0 := aw_v4.1
  rw [v1] at c1
  rw [aw_v4.2.1] at c2
  unfold tkV slV at c1 c2
  clear l7 v1 l7' hX
  go_region_held3 (fun W => W.cell? ⟨Da, 0, none⟩ = some (.int .u64 18446744073709551615) ∧ W.cell? ⟨Da, 1, none⟩ = some (.int .u64 0) ∧ W.cell? ⟨Db, 0, none⟩ = some (.int .u64 0) ∧ W.cell? ⟨Db, 1, none⟩ = some (.int .u64 0)) (first | assumption | exact toS _ (by assumption) | exact toS _ (But.refl _ _).drew | exact toS _ (But.refl _ _))
    (first | (go_at_call 11; (with_reducible refine c1.mono ?_); rintro v w8 ⟨rfl, l8, e8⟩; have hcall := c2 _ l8 e8) | (go_at_call 11; (with_reducible refine hcall.mono ?_); rintro v w9 ⟨rfl, l9, e9⟩))
  have c3 := (pubN (q := 0) (e := 0) (t := 1) (s := 0) (l9.below (Below.refl _ w9).drew) (by decide) (by decide)).mono fun _ w'' h => (⟨h.1, h.2.1, (e9.trans (But.refl _ _).drew).trans h.2.2⟩ : _ ∧ Ln w'' p (pubA aw4 0 0 1 0) X ∧ But (Els X) w7 w'')
  have c4 := fun W (hW : Ln W p aw4 X) (hB : But (Els X) w7 W) => (pubN (q := 18446744073709551615) (e := 0) (t := 2) (s := 0) hW (by decide) (by decide)).mono fun _ w'' h => (⟨h.1, h.2.1, hB.trans h.2.2⟩ : _ ∧ Ln w'' p aw5 X ∧ But (Els X) w7 w'')
  have v2 : lackE aw4 18446744073709551615 0 = 0 := aw_v4.2.2.2
  rw [aw_v4.2.2.1, aw_5] at c3
  rw [v2] at c4
  unfold tkV smV at c3 c4
  have s9 := toS _ e9
  clear c1 c2 l8 e8 hcall v2
  go_wp2_with fail
  go_region_held3 (fun W => W.cell? ⟨Da, 0, none⟩ = some (.int .u64 18446744073709551615) ∧ W.cell? ⟨Da, 1, none⟩ = some (.int .u64 0) ∧ W.cell? ⟨Db, 0, none⟩ = some (.int .u64 0) ∧ W.cell? ⟨Db, 1, none⟩ = some (.int .u64 0)) (first | assumption | exact toS _ (by assumption) | exact toS _ e9.drew | exact s9)
    (first | (go_at_call 12; (with_reducible refine c3.mono ?_); rintro v w10 ⟨rfl, l10, e10⟩; have hcall := c4 _ l10 e10) | (go_at_call 12; (with_reducible refine hcall.mono ?_); rintro v w11 ⟨rfl, l11, e11⟩))
  have c5 := takeN l11
  rw [aw_v5, aw_7] at c5
  clear c3 c4 l10 e10 hcall l9 e9 s9
  go_wp2_with fail
  refine c5.mono ?_
  rintro v w12 ⟨rfl, l12, e12⟩
  clear c5
  have e12' := e11.trans e12
  have l13 := (l12.box (.cells #[.int .i64 7, .int .u64 0] 36)).box (.cells #[.int .u64 18446744073709551615, .int .u64 0] 34)
  have hb13 := jalloc (jalloc (Below.refl _ w12) (.cells #[.int .i64 7, .int .u64 0] 36)) (.cells #[.int .u64 18446744073709551615, .int .u64 0] 34)
  have bx := jtwo (w := w12) (x := .int .i64 7) (y := .int .u64 0) (u := .int .u64 18446744073709551615) (v := .int .u64 0) (T := 36) (U := 34) (Below.refl _ _)
  have e13 := e12'.trans (els_below hb13)
  have hsz : (w12.alloc (.cells #[.int .i64 7, .int .u64 0] 36)).heap.size = w12.heap.size + 1 := by simp
  rw [hsz] at l13
  clear l11 e11 e12 l12 hb13 hsz e12'
  go_wp2_with fail
  generalize (w12.alloc (.cells #[.int .i64 7, .int .u64 0] 36)).alloc (.cells #[.int .u64 18446744073709551615, .int .u64 0] 34) = w13 at *
  generalize w12.heap.size = Ds at *
  have c6 := retN (q := 18446744073709551615) (e := 0) l13 (by decide) (by decide)
  have v3 : retS aw6 18446744073709551615 0 = (7, 0) := aw_v6.1
  have v4 : retB aw6 18446744073709551615 0 = true := aw_v6.2.1
  have v5 : retE aw6 18446744073709551615 0 = 0 := aw_v6.2.2
  have v6 : retA aw6 18446744073709551615 0 = aw7 := aw_8
  rw [v3, v4, v5, v6] at c6
  unfold tkV slV at c6
  clear v3 v4 v5 v6
  refine c6.mono ?_
  rintro v w14 ⟨rfl, l14, e14⟩
  clear c6
  have hb15 := jalloc (Below.refl _ w14) (.cells #[.int .i64 7, .int .u64 0] 36)
  have l15 := l14.below hb15
  have u15 := b2_new w14 (.int .i64 7) (.int .u64 0) 36
  have e15 := e14.trans (els_below hb15)
  have xa := ((x7.els Xa e13)).els (X := fun b => (X b ∨ b = Ds) ∨ b = Ds + 1) (.inl (.inl Xa)) e15
  have xb := ((y7.els Xb e13)).els (X := fun b => (X b ∨ b = Ds) ∨ b = Ds + 1) (.inl (.inl Xb)) e15
  have xs := B2.els (w := w13) (D := Ds) (X := fun b => (X b ∨ b = Ds) ∨ b = Ds + 1) ⟨bx.1.1, bx.1.2.1⟩ (.inl (.inr rfl)) e15
  have xt := B2.els (w := w13) (D := Ds + 1) (X := fun b => (X b ∨ b = Ds) ∨ b = Ds + 1) ⟨bx.2.1, bx.2.2.1⟩ (.inr rfl) e15
  have E15 : But (Els (fun b => b < w.heap.size)) w (w14.alloc (.cells #[.int .i64 7, .int .u64 0] 36)) := (E7.trans (e13.mono fun i h hx => h (Xw i hx))).trans (e15.mono fun i h hx => h (.inl (.inl (Xw i hx))))
  obtain ⟨xa0, xa1⟩ := xa
  obtain ⟨xb0, xb1⟩ := xb
  obtain ⟨xs0, xs1⟩ := xs
  obtain ⟨xt0, xt1⟩ := xt
  obtain ⟨xu0, xu1⟩ := u15
  clear bx x7 y7 toS e13 e14 e15 l14 hb15 l13 E7
  have cS := stateN l15
  rw [aw_v7] at cS
  go_wp2_with fail
  generalize w14.alloc (.cells #[.int .i64 7, .int .u64 0] 36) = w15 at *
  generalize w14.heap.size = Du at *
  refine cS.mono ?_
  rintro v w16 ⟨rfl, l16, e16⟩
  have yb0 := els_cell (X := fun b => (X b ∨ b = Ds) ∨ b = Ds + 1) e16 (.inl (.inl Xb)) xb0
  have yb1 := els_cell (X := fun b => (X b ∨ b = Ds) ∨ b = Ds + 1) e16 (.inl (.inl Xb)) xb1
  have cR := readyN (q := 0) (e := 0) l16 (by decide) (by decide)
  rw [aw_v8] at cR
  unfold tkV at cR
  have E16 := E15.trans (e16.mono fun i h hx => h (.inl (.inl (Xw i hx))))
  clear cS E15
  go_wp2_with fail
  refine cR.mono ?_
  rintro v w17 ⟨rfl, l17, e17⟩
  have E17 := E16.trans (e17.mono fun i h hx => h (.inl (.inl (Xw i hx))))
  go_wp2_with fail
  go_ret
  exact ⟨rfl, E17.below (Nat.le_refl _) fun k hk => by have := hk; simp only [Els, Nat.not_lt] at this; exact this⟩
end Go.Proofs.Ytilahfomiofgcaa
