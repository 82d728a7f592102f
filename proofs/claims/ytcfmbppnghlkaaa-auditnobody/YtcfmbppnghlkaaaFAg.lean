/- An agenda behind a pointer. -/
import Derived.Test.YtcfmbppnghlkaaaFEnter
import Derived.Test.YtcfmbppnghlkaaaFTake
import Derived.Test.YtcfmbppnghlkaaaFAgM
namespace Go.Proofs.Ytcfmbppnghlkaaa
open Go.RowKit Go.Sort
set_option maxRecDepth 100000

/-- what less is -/
structure Le where
  g : Nat
  cs : Array Value
  J : World → Prop
  X : Nat → Prop
  Ord : Prop
  P : Int → Value → Prop
abbrev Le.Ok (l : Le) : Prop := Ls l.g l.cs l.J l.X l.Ord l.P
/-- behind p lies an agenda that holds D; none of the blocks Y is its -/
structure Ax (l : Le) (w : World) (p : Nat) (o : Ro) (A : Ar) (D : List En) (Y : Nat → Prop) : Prop where
  pb : Blk w p 94 [ptr o.r]
  rx : Rx w o A
  lv : o.lv = .func (.func l.g) #[] l.cs
  pp : o.P = l.P
  j : l.J w
  nx : ∀ b, l.X b → ¬ o.has A b ∧ b ≠ p
  ny : ∀ b, Y b → b < w.heap.size ∧ ¬ o.has A b ∧ b ≠ p ∧ ¬ l.X b
  np : ¬ o.has A p
  dn : Dn D A
  hp : l.Ord → Hp A.f A.n
def Ag (l : Le) (w : World) (p : Nat) (D : List En) (last : Nat) (Y : Nat → Prop) : Prop := l.Ok ∧ ∃ o A, Ax l w p o A D Y ∧ A.last = last
abbrev Els (Y : Nat → Prop) : Nat → Prop := fun b => ¬ Y b
section
variable {l : Le} {w w' : World} {p : Nat} {o o' : Ro} {A A' : Ar} {D D' : List En} {last last' : Nat} {Y Z : Nat → Prop}
theorem Ax.below (x : Ax l w p o A D Y) (ok : l.Ok) (h : Below w.heap.size w w') : Ax l w' p o A D Y :=
  ⟨x.pb.below h, x.rx.below h, x.lv, x.pp, ok.st _ _ x.j (But.of h), x.nx, fun b hb => ⟨Nat.lt_of_lt_of_le (x.ny b hb).1 h.size, (x.ny b hb).2⟩, x.np, x.dn, x.hp⟩
theorem Ag.below (a : Ag l w p D last Y) (h : Below w.heap.size w w') : Ag l w' p D last Y := by
  obtain ⟨ok, o, A, x, e⟩ := a
  exact ⟨ok, o, A, x.below ok h, e⟩
theorem Ag.less (a : Ag l w p D last Y) (h : ∀ b, Z b → Y b) : Ag l w p D last Z := by
  obtain ⟨ok, o, A, x, e⟩ := a
  exact ⟨ok, o, A, ⟨x.pb, x.rx, x.lv, x.pp, x.j, x.nx, fun b hb => x.ny b (h b hb), x.np, x.dn, x.hp⟩, e⟩
/-- foreign stores -/
theorem Ag.but {S : Nat → Prop} (a : Ag l w p D last Y) (h : But S w w') (hS : ∀ b, S b → Y b) : Ag l w' p D last Y := by
  obtain ⟨ok, o, A, x, e⟩ := a
  exact ⟨ok, o, A, ⟨x.pb.but h fun hs => (x.ny p (hS p hs)).2.2.1 rfl, x.rx.but h fun b hb hs => (x.ny b (hS b hs)).2.1 hb, x.lv, x.pp, ok.st _ _ x.j (h.mono fun b hs hx => (x.ny b (hS b hs)).2.2.2 hx), x.nx, fun b hb => ⟨Nat.lt_of_lt_of_le (x.ny b hb).1 h.size, (x.ny b hb).2⟩, x.np, x.dn, x.hp⟩, e⟩
theorem Ag.box (a : Ag l w p D last Y) (z : Obj) : Ag l (w.alloc z) p D last (fun b => Y b ∨ b = w.heap.size) := by
  obtain ⟨ok, o, A, x, e⟩ := a
  have h : Below w.heap.size w (w.alloc z) := (Below.refl _ w).alloc (Nat.le_refl _) _
  have x' := x.below ok h
  refine ⟨ok, o, A, ⟨x'.pb, x'.rx, x'.lv, x'.pp, x'.j, x'.nx, fun b hb => ?_, x'.np, x'.dn, x'.hp⟩, e⟩
  rcases hb with hb | rfl
  · exact x'.ny b hb
  · exact ⟨by simp, fun hh => Nat.lt_irrefl _ (x.rx.lt hh), fun e => Nat.lt_irrefl _ (e ▸ x.pb.lt), fun hx => Nat.lt_irrefl _ (ok.lt _ _ x.j hx)⟩
theorem Ag.srt (a : Ag l w p D last Y) : Srt D := by
  obtain ⟨ok, o, A, x, e⟩ := a
  exact x.dn.srt
theorem Ag.num (a : Ag l w p D last Y) {y : En} (hy : y ∈ D) : 1 ≤ y.n ∧ y.n ≤ last ∧ l.P y.k y.m := by
  obtain ⟨ok, o, A, x, rfl⟩ := a
  exact x.pp ▸ x.dn.num x.rx.ok hy
theorem Ag.len (a : Ag l w p D last Y) : D.length ≤ last ∧ last ≤ 1000000 := by
  obtain ⟨ok, o, A, x, rfl⟩ := a
  exact ⟨by rw [x.dn.len]; exact x.rx.ok.nl, x.rx.ok.lb⟩
/-- a call's end -/
theorem Ax.goes (x : Ax l w p o A D Y) (_ : l.Ok) (hg : Gs l.J l.X w o A w' o' A') (dn : Dn D' A') (hp : l.Ord → Hp A'.f A'.n) : Ax l w' p o' A' D' Y ∧ But (Els Y) w w' := by
  have hsep : ∀ b, b < w.heap.size → ¬ o.has A b → ¬ o'.has A' b := fun b hb h h' => (hg.hs b h').elim h (fun h => by omega)
  refine ⟨⟨?_, hg.rx, hg.lv.trans x.lv, hg.pp.trans x.pp, hg.j, fun b hb => ?_, fun b hb => ?_, ?_, dn, hp⟩, hg.but.mono fun b hb hy => ?_⟩
  · rw [hg.r]; exact x.pb.but hg.but (fun h => h.elim x.np (fun h => (x.nx p h).2 rfl))
  · exact ⟨hsep b (‹l.Ok›.lt _ _ x.j hb) (x.nx b hb).1, (x.nx b hb).2⟩
  · exact ⟨Nat.lt_of_lt_of_le (x.ny b hb).1 hg.but.size, hsep b (x.ny b hb).1 (x.ny b hb).2.1, (x.ny b hb).2.2⟩
  · exact hsep p x.pb.lt x.np
  · exact hb.elim (x.ny b hy).2.1 (x.ny b hy).2.2.2
end

set_option maxHeartbeats 1000000 in
theorem ais (l : Le) (w : World) (p : Nat) (o : Ro) (A : Ar) (D : List En) (Y : Nat → Prop) (x : Ax l w p o A D Y) :
    Calls Try.prog 54 #[ptr p] w fun e w' => e = .returned (.bool true) ∧ w' = w := by
  have h0 := x.pb.cell (i := 0) rfl
  clear x
  go_enter Try.func54, Try.ntmps54
  go_wp2_with fail
  go_ret
  exact ⟨rfl, rfl⟩
set_option maxHeartbeats 1000000 in
theorem alen (l : Le) (w : World) (p : Nat) (o : Ro) (A : Ar) (D : List En) (Y : Nat → Prop) (x : Ax l w p o A D Y) :
    Calls Try.prog 64 #[ptr p] w fun e w' => e = .returned (.int .i64 (A.n : Int)) ∧ w' = w := by
  have h0 := x.pb.cell (i := 0) rfl
  have c1 := ais l w p o A D Y x
  have c2 := elen o A w x.rx
  clear x
  go_enter Try.func64, Try.ntmps64
  go_wp2_with fail
  refine c1.mono ?_
  rintro e w' ⟨rfl, hw'⟩
  subst hw'
  go_wp2_with fail
  refine c2.mono ?_
  rintro e w' ⟨rfl, hw'⟩
  subst hw'
  go_wp2_with fail
  go_ret
  exact ⟨rfl, rfl⟩
end Go.Proofs.Ytcfmbppnghlkaaa
