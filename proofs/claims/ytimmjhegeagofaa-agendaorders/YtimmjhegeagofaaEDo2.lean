/- do: Pop, Set, Drop, and nothing. -/
import Derived.Test.YtimmjhegeagofaaEDo
namespace Go.Proofs.Ytimmjhegeagofaa
open Go.RowKit Go.Sort
set_option maxRecDepth 100000

set_option maxHeartbeats 2000000 in
theorem edo2 (D : List En) (last p r : Nat) (Y : Nat → Prop) (w : World) (t : Pr w p r D last D last Y) (o : Eo) (h1 : o.kd = 2) :
    Calls Try.prog 11 #[ptr p, ptr r, eoV o] w fun v w' => v = .returned (.bool true) ∧ DoEnd w w' p r last Y := by
  obtain ⟨d0, d1, d2, d3, d4⟩ := eo_cells w o
  have t1 : Pr (eoW w o) p r D last D last Y := t.below ((Below.refl _ w).alloc (Nat.le_refl _) _)
  have E1 : Hid (But (Els Y) w (eoW w o)) := (But.refl _ w).alloc _
  have HS : Hid (Srt D) := t.ag.srt
  clear t
  obtain ⟨w1, hw1⟩ : ∃ w1, eoW w o = w1 := ⟨_, rfl⟩
  rw [hw1] at d0 d1 d2 d3 d4 t1 E1
  unfold eoW at hw1
  generalize hN : w.heap.size = N at *
  rw [h1] at hw1 d0
  unfold eoV
  rw [h1]
  by_cases hD : D = []
  · subst hD
    have cP := t1.callL fun X a => pop0 a
    unfold tl0 thV at cP
    go_enter Try.func11, Try.ntmps11
    go_wp2_with fail
    refine cP.mono ?_
    rintro v w2 ⟨rfl, t2, b2⟩
    clear cP hw1
    have t3 : Pr (bxV w2 0 0) p r [] last [] last (fun b => Y b ∨ b = w2.heap.size) := t2.box _
    have m3 := blk_new w2 [.int .i8 0, .int .i64 0] 27
    have B3 : Hid (But (Els Y) w (bxV w2 0 0)) := (E1.out.trans b2).alloc _
    have cR := t3.callR fun X a => (Pop0 a).mono fun _ _ h => ⟨h.1, a.below h.2, But.of h.2⟩
    unfold tl0 thV at cR
    clear t2 b2 t1 t3
    go_wp2_with fail
    unfold bxV at *
    generalize w2.alloc (.cells #[.int .i8 0, .int .i64 0] 27) = w3 at *
    generalize w2.heap.size = M at *
    refine cR.mono ?_
    rintro v w4 ⟨rfl, t4, b4⟩
    have m4 := m3.but b4 fun h => h (.inr rfl)
    have hb5 : Below w4.heap.size w4 (bxV w4 0 0) := (Below.refl _ w4).alloc (Nat.le_refl _) _
    have m5 := m4.below hb5
    have x0 := m5.cell (i := 0) rfl
    have x1 := m5.cell (i := 1) rfl
    have m6 := blk_new w4 [.int .i8 0, .int .i64 0] 27
    have y0 := m6.cell (i := 0) rfl
    have y1 := m6.cell (i := 1) rfl
    have HT : Hid (DoEnd w (bxV w4 0 0) p r last Y) := ⟨⟨_, last, Nat.le_succ _, (t4.less fun _ h => .inl h).below hb5⟩, (B3.out.trans (b4.mono fun _ h h' => h (.inl h'))).trans (But.of hb5)⟩
    clear cR t4 b4 m3 m4 m5 m6 hb5
    go_wp2_with fail
    go_ret
    exact ⟨by simp, HT.out⟩
  · have cP := t1.popL hD
    unfold tlV thV at cP
    go_enter Try.func11, Try.ntmps11
    go_wp2_with fail
    refine cP.mono ?_
    rintro v w2 ⟨e, hB, rfl, t2, b2⟩
    clear cP hw1
    have t3 : Pr (bxV w2 e.k e.m) p r (dropD D e.n) last D last (fun b => Y b ∨ b = w2.heap.size) := t2.box _
    have m3 := blk_new w2 [.int .i8 e.k, .int .i64 e.m] 27
    have B3 : Hid (But (Els Y) w (bxV w2 e.k e.m)) := (E1.out.trans b2).alloc _
    have cR := t3.popR hD
    unfold tlV thV at cR
    clear t2 b2 t1 t3
    go_wp2_with fail
    unfold bxV at *
    generalize w2.alloc (.cells #[.int .i8 e.k, .int .i64 e.m] 27) = w3 at *
    generalize w2.heap.size = M at *
    refine cR.mono ?_
    rintro v w4 ⟨e2, hB2, rfl, t4, b4⟩
    obtain rfl := isB_uniq HS.out hB hB2
    have m4 := m3.but b4 fun h => h (.inr rfl)
    have hb5 : Below w4.heap.size w4 (bxV w4 e.k e.m) := (Below.refl _ w4).alloc (Nat.le_refl _) _
    have m5 := m4.below hb5
    have x0 := m5.cell (i := 0) rfl
    have x1 := m5.cell (i := 1) rfl
    have m6 := blk_new w4 [.int .i8 e.k, .int .i64 e.m] 27
    have y0 := m6.cell (i := 0) rfl
    have y1 := m6.cell (i := 1) rfl
    have HT : Hid (DoEnd w (bxV w4 e.k e.m) p r last Y) := ⟨⟨_, last, Nat.le_succ _, (t4.less fun _ h => .inl h).below hb5⟩, (B3.out.trans (b4.mono fun _ h h' => h (.inl h'))).trans (But.of hb5)⟩
    clear cR t4 b4 m3 m4 m5 m6 hb5 hB hB2
    go_wp2_with fail
    go_ret
    exact ⟨by simp, HT.out⟩
set_option maxHeartbeats 2000000 in
theorem edo3 (D : List En) (last p r : Nat) (Y : Nat → Prop) (w : World) (t : Pr w p r D last D last Y) (o : Eo) (ho : o.okk) (h1 : o.kd = 3) :
    Calls Try.prog 11 #[ptr p, ptr r, eoV o] w fun v w' => v = .returned (.bool true) ∧ DoEnd w w' p r last Y := by
  obtain ⟨d0, d1, d2, d3, d4⟩ := eo_cells w o
  have t1 : Pr (eoW w o) p r D last D last (fun b => Y b ∨ b = w.heap.size) := t.box _
  have E1 : Hid (But (Els Y) w (eoW w o)) := (But.refl _ w).alloc _
  have hnum : ∀ y, y ∈ D → 1 ≤ y.n := fun y hy => (t.ag.num hy).1
  clear t
  obtain ⟨w1, hw1⟩ : ∃ w1, eoW w o = w1 := ⟨_, rfl⟩
  rw [hw1] at d0 d1 d2 d3 d4 t1 E1
  have c1 := ((t1.below (Below.refl _ w1).drew).callL fun X a => setX a o.k o.m ho.1 o.id ho.2).mono fun _ w'' h => (⟨h.1, h.2.1, (But.refl _ _).drew.trans h.2.2⟩ : _ ∧ Pr w'' p r (setD D o.id.toNat o.k o.m) last D last (fun b => Y b ∨ b = w.heap.size) ∧ But (Els (fun b => Y b ∨ b = w.heap.size)) w1 w'')
  have c2 := fun W (hW : Pr W p r (setD D o.id.toNat o.k o.m) last D last (fun b => Y b ∨ b = w.heap.size)) (hB : But (Els (fun b => Y b ∨ b = w.heap.size)) w1 W) => (hW.callR fun X a => setY a hnum o.k o.m o.id).mono fun _ w'' h => (⟨h.1, h.2.1, hB.trans h.2.2⟩ : _ ∧ Pr w'' p r (setD D o.id.toNat o.k o.m) last (setD D o.id.toNat o.k o.m) last (fun b => Y b ∨ b = w.heap.size) ∧ But (Els (fun b => Y b ∨ b = w.heap.size)) w1 w'')
  have toS : ∀ W, But (Els (fun b => Y b ∨ b = w.heap.size)) w1 W → W.cell? ⟨w.heap.size, 1, none⟩ = some (.int .i8 o.k) ∧ W.cell? ⟨w.heap.size, 2, none⟩ = some (.int .i64 o.m) ∧ W.cell? ⟨w.heap.size, 3, none⟩ = some (.int .i64 o.id) := fun W h => ⟨h.cell d1 fun h => h (.inr rfl), h.cell d2 fun h => h (.inr rfl), h.cell d3 fun h => h (.inr rfl)⟩
  have to4 := toS _ (But.refl _ _)
  unfold eoW at hw1
  generalize hN : w.heap.size = N at *
  generalize erI D o.id = er at *
  rw [h1] at hw1 d0
  unfold eoV
  rw [h1]
  unfold thV at c1 c2
  clear t1 hnum
  go_enter Try.func11, Try.ntmps11
  go_wp2_with fail
  clear hw1 d1 d2 d3 d4
  go_region_held3 (fun W => W.cell? ⟨N, 1, none⟩ = some (.int .i8 o.k) ∧ W.cell? ⟨N, 2, none⟩ = some (.int .i64 o.m) ∧ W.cell? ⟨N, 3, none⟩ = some (.int .i64 o.id)) (first | assumption | exact toS _ (by assumption) | exact toS _ (But.refl _ _).drew | exact toS _ (But.refl _ _)) (first | (go_at_call 26; (with_reducible refine c1.mono ?_); rintro v w5 ⟨rfl, t5, e5⟩; have hcall := c2 _ t5 e5) | (go_at_call 38; (with_reducible refine hcall.mono ?_); rintro v w6 ⟨rfl, t6, e6⟩))
  go_wp2_with fail
  go_ret
  exact ⟨by simp, ⟨_, last, Nat.le_succ _, t6.less fun _ h => .inl h⟩, E1.out.trans (e6.mono fun _ h h' => h (.inl h'))⟩
set_option maxHeartbeats 2000000 in
theorem edo4 (D : List En) (last p r : Nat) (Y : Nat → Prop) (w : World) (t : Pr w p r D last D last Y) (o : Eo) (ho : o.okk) (h1 : o.kd = 4) :
    Calls Try.prog 11 #[ptr p, ptr r, eoV o] w fun v w' => v = .returned (.bool true) ∧ DoEnd w w' p r last Y := by
  obtain ⟨d0, d1, d2, d3, d4⟩ := eo_cells w o
  have t1 : Pr (eoW w o) p r D last D last (fun b => Y b ∨ b = w.heap.size) := t.box _
  have E1 : Hid (But (Els Y) w (eoW w o)) := (But.refl _ w).alloc _
  have hnum : ∀ y, y ∈ D → 1 ≤ y.n := fun y hy => (t.ag.num hy).1
  clear t
  obtain ⟨w1, hw1⟩ : ∃ w1, eoW w o = w1 := ⟨_, rfl⟩
  rw [hw1] at d0 d1 d2 d3 d4 t1 E1
  have c1 := ((t1.below (Below.refl _ w1).drew).callL fun X a => dropX a o.id ho.2).mono fun _ w'' h => (⟨h.1, h.2.1, (But.refl _ _).drew.trans h.2.2⟩ : _ ∧ Pr w'' p r (dropD D o.id.toNat) last D last (fun b => Y b ∨ b = w.heap.size) ∧ But (Els (fun b => Y b ∨ b = w.heap.size)) w1 w'')
  have c2 := fun W (hW : Pr W p r (dropD D o.id.toNat) last D last (fun b => Y b ∨ b = w.heap.size)) (hB : But (Els (fun b => Y b ∨ b = w.heap.size)) w1 W) => (hW.callR fun X a => dropY a hnum o.id).mono fun _ w'' h => (⟨h.1, h.2.1, hB.trans h.2.2⟩ : _ ∧ Pr w'' p r (dropD D o.id.toNat) last (dropD D o.id.toNat) last (fun b => Y b ∨ b = w.heap.size) ∧ But (Els (fun b => Y b ∨ b = w.heap.size)) w1 w'')
  have toS : ∀ W, But (Els (fun b => Y b ∨ b = w.heap.size)) w1 W → W.cell? ⟨w.heap.size, 3, none⟩ = some (.int .i64 o.id) := fun W h => h.cell d3 fun h => h (.inr rfl)
  have to4 := toS _ (But.refl _ _)
  unfold eoW at hw1
  generalize hN : w.heap.size = N at *
  generalize erI D o.id = er at *
  rw [h1] at hw1 d0
  unfold eoV
  rw [h1]
  clear t1 hnum
  go_enter Try.func11, Try.ntmps11
  go_wp2_with fail
  clear hw1 d1 d2 d3 d4
  go_region_held3 (fun W => W.cell? ⟨N, 3, none⟩ = some (.int .i64 o.id)) (first | assumption | exact toS _ (by assumption) | exact toS _ (But.refl _ _).drew | exact toS _ (But.refl _ _)) (first | (go_at_call 25; (with_reducible refine c1.mono ?_); rintro v w5 ⟨rfl, t5, e5⟩; have hcall := c2 _ t5 e5) | (go_at_call 39; (with_reducible refine hcall.mono ?_); rintro v w6 ⟨rfl, t6, e6⟩))
  go_wp2_with fail
  go_ret
  exact ⟨by simp, ⟨_, last, Nat.le_succ _, t6.less fun _ h => .inl h⟩, E1.out.trans (e6.mono fun _ h h' => h (.inl h'))⟩
set_option maxHeartbeats 2000000 in
theorem edo0 (D : List En) (last p r : Nat) (Y : Nat → Prop) (w : World) (t : Pr w p r D last D last Y) (o : Eo) (h1 : o.kd ≠ 1) (h2 : o.kd ≠ 2) (h3 : o.kd ≠ 3) (h4 : o.kd ≠ 4) (h5 : o.kd ≠ 5) :
    Calls Try.prog 11 #[ptr p, ptr r, eoV o] w fun v w' => v = .returned (.bool true) ∧ DoEnd w w' p r last Y := by
  have HT : Hid (DoEnd w (eoW w o) p r last Y) := ⟨⟨_, last, Nat.le_succ _, t.below ((Below.refl _ w).alloc (Nat.le_refl _) _)⟩, (But.refl _ w).alloc _⟩
  obtain ⟨d0, _⟩ := eo_cells w o
  clear t
  obtain ⟨w1, hw1⟩ : ∃ w1, eoW w o = w1 := ⟨_, rfl⟩
  rw [hw1] at d0 HT
  unfold eoW at hw1
  generalize hN : w.heap.size = N at *
  unfold eoV
  go_enter Try.func11, Try.ntmps11
  go_wp2_with fail
  go_ret
  exact ⟨rfl, HT.out⟩
end Go.Proofs.Ytimmjhegeagofaa
