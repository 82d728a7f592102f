/- The statements' do: an act on both. -/
import Derived.Test.YtafcgbahdfaiiaaEPair
namespace Go.Proofs.Ytafcgbahdfaiiaa
open Go.RowKit Go.Sort
set_option maxRecDepth 100000

/-- is there an entry of that number? -/
def erI (D : List En) (id : Int) : Int := if D.any (fun e => decide ((e.n : Int) = id)) then 0 else 90
theorem er_in {D : List En} {id : Int} {e : En} (he : e ∈ D) (hn : (e.n : Int) = id) : erI D id = 0 := by
  unfold erI
  rw [if_pos (List.any_eq_true.2 ⟨e, he, by simpa using hn⟩)]
theorem er_no {D : List En} {id : Int} (h : ∀ e, e ∈ D → (e.n : Int) ≠ id) : erI D id = 90 := by
  unfold erI
  rw [if_neg]
  intro h'
  obtain ⟨e, he, hn⟩ := List.any_eq_true.1 h'
  exact h e he (by simpa using hn)
theorem set_none {D : List En} {n : Nat} {k m : Int} (h : ∀ y, y ∈ D → y.n ≠ n) : setD D n k m = D := by
  unfold setD
  conv => rhs; rw [← List.map_id D]
  exact List.map_congr_left fun y hy => by rw [if_neg (h y hy)]; rfl
theorem to_ne {D : List En} {id : Int} (h1 : ∀ e, e ∈ D → 1 ≤ e.n) (hno : ∀ e, e ∈ D → (e.n : Int) ≠ id) : ∀ y, y ∈ D → y.n ≠ id.toNat := fun y hy e => by
  have := h1 y hy
  have := hno y hy
  omega
section
variable {w : World} {p r : Nat} {D : List En} {last : Nat} {X : Nat → Prop}
theorem setX (a : Ag lessL w p D last X) (k m : Int) (hk : -128 ≤ k ∧ k ≤ 127) (id : Int) (hw : (Lit.int .i64 id).wf = true) :
    Calls Try.prog 25 #[ptr p, .int .i64 id, thV k m] w fun v w' => v = .returned (.int .i64 (erI D id)) ∧ Ag lessL w' p (setD D id.toNat k m) last X ∧ But (Els X) w w' := by
  rcases find_n D id with ⟨U, V, e, rfl, hn⟩ | hno
  · have he : e ∈ U ++ e :: V := by simp
    rw [er_in he hn]
    subst hn
    exact setA a k m hk he
  · rw [er_no hno, set_none (to_ne (fun e he => (a.num he).1) hno)]
    exact (setA_no a k m hw hno).mono fun _ _ h => ⟨h.1, a.below h.2, But.of h.2⟩
theorem dropX (a : Ag lessL w p D last X) (id : Int) (hw : (Lit.int .i64 id).wf = true) :
    Calls Try.prog 24 #[ptr p, .int .i64 id] w fun v w' => v = .returned (.int .i64 (erI D id)) ∧ Ag lessL w' p (dropD D id.toNat) last X ∧ But (Els X) w w' := by
  rcases find_n D id with ⟨U, V, e, rfl, hn⟩ | hno
  · have he : e ∈ U ++ e :: V := by simp
    rw [er_in he hn]
    subst hn
    exact dropA a he
  · rw [er_no hno, drop_none (to_ne (fun e he => (a.num he).1) hno)]
    exact (dropA_no a hw hno).mono fun _ _ ⟨h1, h2⟩ => by subst h2; exact ⟨h1, a, But.refl _ _⟩
theorem setY (a : Rn w r D last X) (h1 : ∀ e, e ∈ D → 1 ≤ e.n) (k m : Int) (id : Int) :
    Calls Try.prog 29 #[ptr r, .int .i64 id, thV k m] w fun v w' => v = .returned (.int .i64 (erI D id)) ∧ Rn w' r (setD D id.toNat k m) last X ∧ But (Els X) w w' := by
  rcases find_n D id with ⟨U, V, e, rfl, hn⟩ | hno
  · have he : e ∈ U ++ e :: V := by simp
    rw [er_in he hn]
    subst hn
    exact setR a he k m
  · rw [er_no hno, set_none (to_ne h1 hno)]
    exact (setR_no a k m hno).mono fun _ _ h => ⟨h.1, a.below h.2, But.of h.2⟩
theorem dropY (a : Rn w r D last X) (h1 : ∀ e, e ∈ D → 1 ≤ e.n) (id : Int) :
    Calls Try.prog 30 #[ptr r, .int .i64 id] w fun v w' => v = .returned (.int .i64 (erI D id)) ∧ Rn w' r (dropD D id.toNat) last X ∧ But (Els X) w w' := by
  rcases find_n D id with ⟨U, V, e, rfl, hn⟩ | hno
  · have he : e ∈ U ++ e :: V := by simp
    rw [er_in he hn]
    subst hn
    exact dropR a he
  · rw [er_no hno, drop_none (to_ne h1 hno)]
    exact (dropR_no a hno).mono fun _ _ ⟨h1, h2⟩ => by subst h2; exact ⟨h1, a, But.refl _ _⟩
end
section
variable {w w' : World} {p r : Nat} {D E D' : List En} {last last2 last' : Nat} {Y : Nat → Prop} {f : FuncId} {args : Array Value} {v : Value}
theorem Pr.callL (t : Pr w p r D last E last2 Y) (h : ∀ X, Ag lessL w p D last X → Calls Try.prog f args w fun e w' => e = .returned v ∧ Ag lessL w' p D' last' X ∧ But (Els X) w w') :
    Calls Try.prog f args w fun e w' => e = .returned v ∧ Pr w' p r D' last' E last2 Y ∧ But (Els Y) w w' :=
  (t.stepL (R := fun e d l _ => e = .returned v ∧ d = D' ∧ l = last') fun X a => (h X a).mono fun _ _ ⟨h1, h2, h3⟩ => ⟨D', last', ⟨h1, rfl, rfl⟩, h2, h3⟩).mono fun _ _ ⟨d, l, ⟨h1, h2, h3⟩, h4, h5⟩ => by subst h2 h3; exact ⟨h1, h4, h5⟩
theorem Pr.callR (t : Pr w p r D last E last2 Y) (h : ∀ X, Rn w r E last2 X → Calls Try.prog f args w fun e w' => e = .returned v ∧ Rn w' r D' last' X ∧ But (Els X) w w') :
    Calls Try.prog f args w fun e w' => e = .returned v ∧ Pr w' p r D last D' last' Y ∧ But (Els Y) w w' :=
  (t.stepR (R := fun e d l _ => e = .returned v ∧ d = D' ∧ l = last') fun X a => (h X a).mono fun _ _ ⟨h1, h2, h3⟩ => ⟨D', last', ⟨h1, rfl, rfl⟩, h2, h3⟩).mono fun _ _ ⟨d, l, ⟨h1, h2, h3⟩, h4, h5⟩ => by subst h2 h3; exact ⟨h1, h4, h5⟩
/-- what both tell of the first: the same -/
theorem Pr.popL (t : Pr w p r D last E last2 Y) (hD : D ≠ []) : Calls Try.prog 23 #[ptr p] w fun v w' => ∃ e, IsB D e ∧ v = .returned (tlV e) ∧ Pr w' p r (dropD D e.n) last E last2 Y ∧ But (Els Y) w w' :=
  (t.stepL (R := fun v d l _ => ∃ e, IsB D e ∧ v = .returned (tlV e) ∧ d = dropD D e.n ∧ l = last) fun X a => (popA a hD).mono fun _ _ ⟨e, ⟨_, h1⟩, h2, h3, h4⟩ => ⟨_, _, ⟨e, h1 trivial, h2, rfl, rfl⟩, h3, h4⟩).mono fun _ _ ⟨d, l, ⟨e, h1, h2, h3, h4⟩, h5, h6⟩ => by subst h3 h4; exact ⟨e, h1, h2, h5, h6⟩
theorem Pr.popR (t : Pr w p r D last E last2 Y) (hE : E ≠ []) : Calls Try.prog 28 #[ptr r] w fun v w' => ∃ e, IsB E e ∧ v = .returned (tlV e) ∧ Pr w' p r D last (dropD E e.n) last2 Y ∧ But (Els Y) w w' :=
  (t.stepR (R := fun v d l _ => ∃ e, IsB E e ∧ v = .returned (tlV e) ∧ d = dropD E e.n ∧ l = last2) fun X a => (PopR a hE).mono fun _ _ ⟨e, h1, h2, h3, h4⟩ => ⟨_, _, ⟨e, h1, h2, rfl, rfl⟩, h3, h4⟩).mono fun _ _ ⟨d, l, ⟨e, h1, h2, h3, h4⟩, h5, h6⟩ => by subst h3 h4; exact ⟨e, h1, h2, h5, h6⟩
end
/-- an act -/
structure Eo where
  kd : Int
  k : Int
  m : Int
  id : Int
  n : Int
def Eo.okk (o : Eo) : Prop := (-128 ≤ o.k ∧ o.k ≤ 127) ∧ (Lit.int .i64 o.id).wf = true
abbrev eoV (o : Eo) : Value := .agg #[.int .i64 o.kd, .int .i8 o.k, .int .i64 o.m, .int .i64 o.id, .int .i64 o.n]
abbrev eoW (w : World) (o : Eo) : World := w.alloc (.cells #[.int .i64 o.kd, .int .i8 o.k, .int .i64 o.m, .int .i64 o.id, .int .i64 o.n] 35)
/-- do's end -/
abbrev DoEnd (w w' : World) (p r last : Nat) (Y : Nat → Prop) : Prop := (∃ D' last', last' ≤ last + 1 ∧ Pr w' p r D' last' D' last' Y) ∧ But (Els Y) w w'
theorem eo_cells (w : World) (o : Eo) : (eoW w o).cell? ⟨w.heap.size, 0, none⟩ = some (.int .i64 o.kd) ∧ (eoW w o).cell? ⟨w.heap.size, 1, none⟩ = some (.int .i8 o.k) ∧ (eoW w o).cell? ⟨w.heap.size, 2, none⟩ = some (.int .i64 o.m) ∧ (eoW w o).cell? ⟨w.heap.size, 3, none⟩ = some (.int .i64 o.id) ∧ (eoW w o).cell? ⟨w.heap.size, 4, none⟩ = some (.int .i64 o.n) := by
  have h := blk_new w [.int .i64 o.kd, .int .i8 o.k, .int .i64 o.m, .int .i64 o.id, .int .i64 o.n] 35
  exact ⟨h.cell (i := 0) rfl, h.cell (i := 1) rfl, h.cell (i := 2) rfl, h.cell (i := 3) rfl, h.cell (i := 4) rfl⟩

set_option maxHeartbeats 2000000 in
theorem edo1 (D : List En) (last p r : Nat) (Y : Nat → Prop) (w : World) (t : Pr w p r D last D last Y) (hl : last ≤ 1000) (o : Eo) (ho : o.okk) (h1 : o.kd = 1) :
    Calls Try.prog 10 #[ptr p, ptr r, eoV o] w fun v w' => v = .returned (.bool true) ∧ DoEnd w w' p r last Y := by
  obtain ⟨d0, d1, d2, d3, d4⟩ := eo_cells w o
  have t1 : Pr (eoW w o) p r D last D last (fun b => Y b ∨ b = w.heap.size) := t.box _
  have E1 : Hid (But (Els Y) w (eoW w o)) := (But.refl _ w).alloc _
  have hlen := t.ag.len
  have hnum : ∀ y, y ∈ D → y.n ≤ last := fun y hy => (t.ag.num hy).2.1
  have HK : Hid o.okk := ho
  have cP := t1.callL fun X a => pushA a (by omega) o.k o.m ho.1
  clear t ho
  obtain ⟨w1, hw1⟩ : ∃ w1, eoW w o = w1 := ⟨_, rfl⟩
  rw [hw1] at d0 d1 d2 d3 d4 t1 E1 cP
  unfold eoW at hw1
  generalize hN : w.heap.size = N at *
  unfold thV at cP
  rw [h1] at hw1 d0
  unfold eoV
  rw [h1]
  go_enter Try.func10, Try.ntmps10
  go_wp2_with fail
  refine cP.mono ?_
  rintro v w2 ⟨rfl, t2, b2⟩
  clear cP hw1
  have cR := t2.callR fun X a => pushR a (by omega) (by omega) hnum o.k o.m
  have e1 := b2.cell d1 fun h => h (.inr rfl)
  have e2 := b2.cell d2 fun h => h (.inr rfl)
  have B2 : Hid (But (Els (fun b => Y b ∨ b = N)) w1 w2) := b2
  clear t2 b2 t1 hnum
  unfold thV at cR
  go_wp2_with fail
  refine cR.mono ?_
  rintro v w3 ⟨rfl, t3, b3⟩
  have HT : Hid (DoEnd w w3 p r last Y) := ⟨⟨_, last + 1, Nat.le_refl _, t3.less fun _ h => .inl h⟩, (E1.out.trans (B2.out.mono fun _ h h' => h (.inl h'))).trans (b3.mono fun _ h h' => h (.inl h'))⟩
  clear cR t3 b3
  go_wp2_with fail
  go_ret
  exact ⟨by simp, HT.out⟩
end Go.Proofs.Ytafcgbahdfaiiaa
