/- An agenda behind a pointer. -/
import Derived.Test.YtafcgbahdfaiiaaEEnter
import Derived.Test.YtafcgbahdfaiiaaEChange
import Derived.Test.YtafcgbahdfaiiaaEAgM
namespace Go.Proofs.Ytafcgbahdfaiiaa
open Go.RowKit Go.Sort
set_option maxRecDepth 100000

/-- what less is -/
structure Le where
  g : Nat
  cs : Array Value
  J : Nat → World → Prop
  c : Nat
  X : Nat → Prop
  Ord : Prop
abbrev Le.Ok (l : Le) : Prop := Ls l.g l.cs l.J l.X l.Ord
/-- how often less may still be called, where D is held and last numbers were given -/
def Le.b (l : Le) (D : List En) (last : Nat) : Nat := l.c + (5000000 * D.length + 10000000 * (1000000 - last))
/-- behind p lies an agenda that holds D; none of the blocks Y is its -/
structure Ax (l : Le) (w : World) (p : Nat) (o : Ro) (A : Ar) (D : List En) (Y : Nat → Prop) : Prop where
  pb : Blk w p 60 [ptr o.r]
  rx : Rx w o A
  lv : o.lv = .func (.func l.g) #[] l.cs
  j : l.J (l.b D A.last) w
  nx : ∀ b, l.X b → ¬ o.has A b ∧ b ≠ p
  ny : ∀ b, Y b → b < w.heap.size ∧ ¬ o.has A b ∧ b ≠ p ∧ ¬ l.X b
  np : ¬ o.has A p
  dn : Dn D A
  hp : l.Ord → Hp A.f A.n
def Ag (l : Le) (w : World) (p : Nat) (D : List En) (last : Nat) (Y : Nat → Prop) : Prop := l.Ok ∧ ∃ o A, Ax l w p o A D Y ∧ A.last = last
abbrev Els (Y : Nat → Prop) : Nat → Prop := fun b => ¬ Y b
section
variable {l : Le} {w w' : World} {p : Nat} {o o' : Ro} {A A' : Ar} {D D' : List En} {last last' : Nat} {Y Z : Nat → Prop}
theorem Ax.below (x : Ax l w p o A D Y) (ok : l.Ok) (h : Below w.heap.size w w') : Ax l w' p o A D Y :=
  ⟨x.pb.below h, x.rx.below h, x.lv, ok.st _ _ _ x.j (But.of h), x.nx, fun b hb => ⟨Nat.lt_of_lt_of_le (x.ny b hb).1 h.size, (x.ny b hb).2⟩, x.np, x.dn, x.hp⟩
theorem Ag.below (a : Ag l w p D last Y) (h : Below w.heap.size w w') : Ag l w' p D last Y := by
  obtain ⟨ok, o, A, x, e⟩ := a
  exact ⟨ok, o, A, x.below ok h, e⟩
theorem Ag.less (a : Ag l w p D last Y) (h : ∀ b, Z b → Y b) : Ag l w p D last Z := by
  obtain ⟨ok, o, A, x, e⟩ := a
  exact ⟨ok, o, A, ⟨x.pb, x.rx, x.lv, x.j, x.nx, fun b hb => x.ny b (h b hb), x.np, x.dn, x.hp⟩, e⟩
/-- foreign stores -/
theorem Ag.but {S : Nat → Prop} (a : Ag l w p D last Y) (h : But S w w') (hS : ∀ b, S b → Y b) : Ag l w' p D last Y := by
  obtain ⟨ok, o, A, x, e⟩ := a
  exact ⟨ok, o, A, ⟨x.pb.but h fun hs => (x.ny p (hS p hs)).2.2.1 rfl, x.rx.but h fun b hb hs => (x.ny b (hS b hs)).2.1 hb, x.lv, ok.st _ _ _ x.j (h.mono fun b hs hx => (x.ny b (hS b hs)).2.2.2 hx), x.nx, fun b hb => ⟨Nat.lt_of_lt_of_le (x.ny b hb).1 h.size, (x.ny b hb).2⟩, x.np, x.dn, x.hp⟩, e⟩
theorem Ag.box (a : Ag l w p D last Y) (z : Obj) : Ag l (w.alloc z) p D last (fun b => Y b ∨ b = w.heap.size) := by
  obtain ⟨ok, o, A, x, e⟩ := a
  have h : Below w.heap.size w (w.alloc z) := (Below.refl _ w).alloc (Nat.le_refl _) _
  have x' := x.below ok h
  refine ⟨ok, o, A, ⟨x'.pb, x'.rx, x'.lv, x'.j, x'.nx, fun b hb => ?_, x'.np, x'.dn, x'.hp⟩, e⟩
  rcases hb with hb | rfl
  · exact x'.ny b hb
  · exact ⟨by simp, fun hh => Nat.lt_irrefl _ (x.rx.lt hh), fun e => Nat.lt_irrefl _ (e ▸ x.pb.lt), fun hx => Nat.lt_irrefl _ (ok.lt _ _ _ x.j hx)⟩
theorem Ag.srt (a : Ag l w p D last Y) : Srt D := by
  obtain ⟨ok, o, A, x, e⟩ := a
  exact x.dn.srt
theorem Ag.num (a : Ag l w p D last Y) {y : En} (hy : y ∈ D) : 1 ≤ y.n ∧ y.n ≤ last ∧ -128 ≤ y.k ∧ y.k ≤ 127 := by
  obtain ⟨ok, o, A, x, rfl⟩ := a
  exact x.dn.num x.rx.ok hy
theorem Ag.len (a : Ag l w p D last Y) : D.length ≤ last ∧ last ≤ 1000000 := by
  obtain ⟨ok, o, A, x, rfl⟩ := a
  exact ⟨by rw [x.dn.len]; exact x.rx.ok.nl, x.rx.ok.lb⟩
/-- a call's end -/
theorem Ax.goesC (c' : Nat) {n : Nat} (x : Ax l w p o A D Y) (_ : l.Ok) (hg : Gs (l.J n) l.X w o A w' o' A') (hn : ({l with c := c'} : Le).b D' A'.last ≤ n) (dn : Dn D' A') (hp : l.Ord → Hp A'.f A'.n) : Ax {l with c := c'} w' p o' A' D' Y ∧ But (Els Y) w w' := by
  have hsep : ∀ b, b < w.heap.size → ¬ o.has A b → ¬ o'.has A' b := fun b hb h h' => (hg.hs b h').elim h (fun h => by omega)
  refine ⟨⟨?_, hg.rx, hg.lv.trans x.lv, ‹l.Ok›.mt _ _ _ hn hg.j, fun b hb => ?_, fun b hb => ?_, ?_, dn, hp⟩, hg.but.mono fun b hb hy => ?_⟩
  · rw [hg.r]; exact x.pb.but hg.but (fun h => h.elim x.np (fun h => (x.nx p h).2 rfl))
  · exact ⟨hsep b (‹l.Ok›.lt _ _ _ x.j hb) (x.nx b hb).1, (x.nx b hb).2⟩
  · exact ⟨Nat.lt_of_lt_of_le (x.ny b hb).1 hg.but.size, hsep b (x.ny b hb).1 (x.ny b hb).2.1, (x.ny b hb).2.2⟩
  · exact hsep p x.pb.lt x.np
  · exact hb.elim (x.ny b hy).2.1 (x.ny b hy).2.2.2
theorem Ax.goes {n : Nat} (x : Ax l w p o A D Y) (ok : l.Ok) (hg : Gs (l.J n) l.X w o A w' o' A') (hn : l.b D' A'.last ≤ n) (dn : Dn D' A') (hp : l.Ord → Hp A'.f A'.n) : Ax l w' p o' A' D' Y ∧ But (Els Y) w w' := x.goesC l.c ok hg hn dn hp
end

set_option maxHeartbeats 1000000 in
theorem ais (l : Le) (w : World) (p : Nat) (o : Ro) (A : Ar) (D : List En) (Y : Nat → Prop) (x : Ax l w p o A D Y) :
    Calls Try.prog 31 #[ptr p] w fun e w' => e = .returned (.bool true) ∧ w' = w := by
  have h0 := x.pb.cell (i := 0) rfl
  clear x
  go_enter Try.func31, Try.ntmps31
  go_wp2_with fail
  go_ret
  exact ⟨rfl, rfl⟩
set_option maxHeartbeats 1000000 in
theorem alen (l : Le) (w : World) (p : Nat) (o : Ro) (A : Ar) (D : List En) (Y : Nat → Prop) (x : Ax l w p o A D Y) :
    Calls Try.prog 11 #[ptr p] w fun e w' => e = .returned (.int .i64 (A.n : Int)) ∧ w' = w := by
  have h0 := x.pb.cell (i := 0) rfl
  have c1 := ais l w p o A D Y x
  have c2 := elen o A w x.rx
  clear x
  go_enter Try.func11, Try.ntmps11
  go_wp2_with fail
  refine c1.mono ?_
  rintro e w' ⟨rfl, hw'⟩
  subst hw'
  go_wp2_with fail
  refine c2.mono ?_
  rintro e w' ⟨rfl, hw'⟩
  subst hw'
  go_wp2_with fail
  go_ret
  exact ⟨rfl, rfl⟩
/-- an entry by its number -/
theorem Ax.at_ {l : Le} {w : World} {p : Nat} {o : Ro} {A : Ar} {D : List En} {Y : Nat → Prop} (x : Ax l w p o A D Y) {e : En} (he : e ∈ D) : ∃ i, i < A.n ∧ A.f i = e ∧ e.n ∈ o.ml := by
  obtain ⟨i, hi, h⟩ := (x.dn.mem e).1 he
  exact ⟨i, hi, h, (x.rx.ms _).2 ⟨i, hi, by rw [h]⟩⟩
set_option maxHeartbeats 1000000 in
theorem afind_ok (l : Le) (w : World) (p : Nat) (o : Ro) (A : Ar) (D : List En) (Y : Nat → Prop) (x : Ax l w p o A D Y) (e : En) (he : e ∈ D) :
    Calls Try.prog 36 #[ptr p, .int .i64 (e.n : Int)] w fun v w' => v = .returned (.tuple #[ptr (o.bl e.n), .int .i64 0]) ∧ w' = w := by
  obtain ⟨i, hi, hfe, hm⟩ := x.at_ he
  have h0 := x.pb.cell (i := 0) rfl
  have h2 := x.rx.rb.cell (i := 2) rfl
  have hl := x.rx.mp.look x.rx.mlb x.rx.mb hm
  have c1 := ais l w p o A D Y x
  clear x he
  go_enter Try.func36, Try.ntmps36
  go_wp2_with fail
  refine c1.mono ?_
  rintro e' w' ⟨rfl, hw'⟩
  subst hw'
  go_wp2_with fail
  go_ret2
  exact ⟨rfl, rfl⟩
set_option maxHeartbeats 1000000 in
theorem afind_no (l : Le) (w : World) (p : Nat) (o : Ro) (A : Ar) (D : List En) (Y : Nat → Prop) (x : Ax l w p o A D Y) (id : Int) (hw : (Lit.int .i64 id).wf = true) (hno : ∀ e, e ∈ D → (e.n : Int) ≠ id) :
    Calls Try.prog 36 #[ptr p, .int .i64 id] w fun v w' => v = .returned (.tuple #[.pointer none, .int .i64 90]) ∧ w' = w := by
  have h0 := x.pb.cell (i := 0) rfl
  have h2 := x.rx.rb.cell (i := 2) rfl
  have hl := x.rx.mp.look_no x.rx.mlb x.rx.mb hw (fun m hm => by
    obtain ⟨i, hi, e⟩ := (x.rx.ms m).1 hm
    rw [← e]
    exact hno _ ((x.dn.mem _).2 ⟨i, hi, rfl⟩))
  have c1 := ais l w p o A D Y x
  clear x hno
  go_enter Try.func36, Try.ntmps36
  go_wp2_with fail
  refine c1.mono ?_
  rintro e' w' ⟨rfl, hw'⟩
  subst hw'
  go_wp2_with fail
  go_ret2
  exact ⟨rfl, rfl⟩
end Go.Proofs.Ytafcgbahdfaiiaa
