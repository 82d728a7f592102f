/- An agenda behind a pointer. -/
import Derived.Test.YtcfmbppnghlkaaaFLeave
import Derived.Test.YtcfmbppnghlkaaaFMath
import Derived.Test.YtcfmbppnghlkaaaFEnter
namespace Go.Proofs.Ytcfmbppnghlkaaa
open Go.RowKit Go.Sort
set_option maxRecDepth 100000

set_option maxHeartbeats 1000000 in
theorem etake (g : Nat) (cs : Array Value) (J : World → Prop) (X : Nat → Prop) (Ord : Prop) (o : Ro) (L : Ls g cs J X Ord o.P) (A : Ar) (h0 : 0 < A.n) (w : World) (x : Rx w o A) (hJ : J w) (hlv : o.lv = .func (.func g) #[] cs) (hX : ∀ b, X b → ¬ o.has A b) :
    Calls Try.prog 62 #[ptr o.r] w fun e w' => e = .returned (ptr (o.bl (A.f 0).n)) ∧ ∃ o' A', Gs J X w o A w' o' A' ∧ Out Ord A A' (A.f 0) ∧ ∃ q, Blk w' (o.bl (A.f 0).n) 105 (enC (A.f 0) q) := by
  have cF := efirst o A w x h0
  have cL := eleave g cs J X Ord o L A 0 h0 w x hJ hlv hX
  clear L x hX hJ
  go_enter Try.func62, Try.ntmps62
  go_wp2_with fail
  refine cF.mono ?_
  rintro e w' ⟨rfl, hw'⟩
  subst hw'
  clear cF
  go_wp2_with fail
  refine cL.mono ?_
  rintro e w1 ⟨rfl, h⟩
  clear cL
  have HH := (⟨h⟩ : Nonempty _)
  clear h
  go_wp2_with fail
  go_ret
  obtain ⟨h⟩ := HH
  exact ⟨rfl, h⟩

end Go.Proofs.Ytcfmbppnghlkaaa
namespace Go.Proofs.Ytcfmbppnghlkaaa

abbrev Srt (D : List En) : Prop := D.Pairwise fun a b => a.n < b.n
theorem srt_uniq {D : List En} (h : Srt D) {a b : En} (ha : a ∈ D) (hb : b ∈ D) (e : a.n = b.n) : a = b := by
  induction D with
  | nil => simp at ha
  | cons x D ih =>
    rw [Srt, List.pairwise_cons] at h
    rcases List.mem_cons.1 ha with rfl | ha' <;> rcases List.mem_cons.1 hb with rfl | hb'
    · rfl
    · have := h.1 b hb'; omega
    · have := h.1 a ha'; omega
    · exact ih h.2 ha' hb'
/-- what comes first -/
def IsB (D : List En) (e : En) : Prop := e ∈ D ∧ ∀ y, y ∈ D → ¬ bef y e
theorem isB_uniq {D : List En} (h : Srt D) {a b : En} (ha : IsB D a) (hb : IsB D b) : a = b := by
  refine srt_uniq h ha.1 hb.1 ?_
  have h1 := ha.2 b hb.1
  have h2 := hb.2 a ha.1
  unfold bef at h1 h2
  omega
/-- without the entry n -/
def dropD (D : List En) (n : Nat) : List En := D.filter fun y => !decide (y.n = n)
/-- with another thing in the entry n -/
def setD (D : List En) (n : Nat) (k : Int) (m : Value) : List En := D.map fun y => if y.n = n then ⟨k, m, n⟩ else y
theorem mem_drop {D : List En} {n : Nat} {y : En} : y ∈ dropD D n ↔ y ∈ D ∧ y.n ≠ n := by simp [dropD]
theorem drop_none {D : List En} {n : Nat} (h : ∀ y, y ∈ D → y.n ≠ n) : dropD D n = D := by
  unfold dropD
  rw [List.filter_eq_self]
  intro y hy
  simp [h y hy]
theorem drop_app {U V : List En} {e : En} (h : Srt (U ++ e :: V)) : dropD (U ++ e :: V) e.n = U ++ V := by
  have h1 : ∀ y, y ∈ U → y.n ≠ e.n := fun y hy => by
    have := (List.pairwise_append.1 h).2.2 y hy e (by simp)
    omega
  have h2 : ∀ y, y ∈ V → y.n ≠ e.n := fun y hy => by
    have := (List.pairwise_cons.1 (List.pairwise_append.1 h).2.1).1 y hy
    omega
  have e1 : dropD (U ++ e :: V) e.n = dropD U e.n ++ dropD (e :: V) e.n := by unfold dropD; rw [List.filter_append]
  have e2 : dropD (e :: V) e.n = dropD V e.n := by unfold dropD; rw [List.filter_cons]; simp
  rw [e1, e2, drop_none h1, drop_none h2]
theorem split_at {D : List En} {e : En} (h : e ∈ D) : ∃ U V, D = U ++ e :: V := List.append_of_mem h
theorem drop_len {D : List En} (h : Srt D) {e : En} (he : e ∈ D) : (dropD D e.n).length + 1 = D.length := by
  obtain ⟨U, V, rfl⟩ := split_at he
  rw [drop_app h]
  simp; omega
theorem drop_srt {D : List En} (h : Srt D) (n : Nat) : Srt (dropD D n) := List.Pairwise.filter _ h
theorem set_n {n : Nat} {k : Int} {m : Value} (y : En) : (if y.n = n then (⟨k, m, n⟩ : En) else y).n = y.n := by
  by_cases e : y.n = n
  · rw [if_pos e]; exact e.symm
  · rw [if_neg e]
theorem set_srt {D : List En} (h : Srt D) (n : Nat) (k : Int) (m : Value) : Srt (setD D n k m) := by
  unfold setD Srt
  rw [List.pairwise_map]
  refine h.imp fun {a b} hab => ?_
  rw [set_n, set_n]; exact hab
theorem set_len (D : List En) (n : Nat) (k : Int) (m : Value) : (setD D n k m).length = D.length := by simp [setD]
theorem mem_set {D : List En} (h : Srt D) {e : En} (he : e ∈ D) {k : Int} {m : Value} {y : En} : y ∈ setD D e.n k m ↔ (y ∈ D ∧ y ≠ e) ∨ y = ⟨k, m, e.n⟩ := by
  unfold setD
  rw [List.mem_map]
  constructor
  · rintro ⟨x, hx, rfl⟩
    by_cases hxe : x.n = e.n
    · rw [if_pos hxe]; exact .inr rfl
    · rw [if_neg hxe]; exact .inl ⟨hx, by rintro rfl; exact hxe rfl⟩
  · rintro (⟨hy, hne⟩ | rfl)
    · exact ⟨y, hy, if_neg fun h' => hne (srt_uniq h hy he h')⟩
    · exact ⟨e, he, if_pos rfl⟩
theorem set_app {U V : List En} {e : En} (h : Srt (U ++ e :: V)) (k : Int) (m : Value) : setD (U ++ e :: V) e.n k m = U ++ ⟨k, m, e.n⟩ :: V := by
  have h1 : ∀ y, y ∈ U → y.n ≠ e.n := fun y hy => by
    have := (List.pairwise_append.1 h).2.2 y hy e (by simp)
    omega
  have h2 : ∀ y, y ∈ V → y.n ≠ e.n := fun y hy => by
    have := (List.pairwise_cons.1 (List.pairwise_append.1 h).2.1).1 y hy
    omega
  have idm : ∀ l : List En, (∀ y, y ∈ l → y.n ≠ e.n) → l.map (fun y => if y.n = e.n then (⟨k, m, e.n⟩ : En) else y) = l := fun l hl => by
    conv => rhs; rw [← List.map_id l]
    exact List.map_congr_left fun y hy => by rw [if_neg (hl y hy)]; rfl
  unfold setD
  rw [List.map_append, List.map_cons, idm U h1, idm V h2, if_pos rfl]
theorem add_srt {D : List En} (h : Srt D) {e : En} (he : ∀ y, y ∈ D → y.n < e.n) : Srt (D ++ [e]) := by
  unfold Srt
  rw [List.pairwise_append]
  exact ⟨h, by simp, fun a ha b hb => by simp at hb; subst hb; exact he a ha⟩
/-- the row A holds D -/
structure Dn (D : List En) (A : Ar) : Prop where
  len : D.length = A.n
  mem : ∀ y, y ∈ D ↔ A.has y
  srt : Srt D
theorem Dn.num {P : Int → Value → Prop} {D : List En} {A : Ar} (h : Dn D A) (ok : A.Ok P) {y : En} (hy : y ∈ D) : 1 ≤ y.n ∧ y.n ≤ A.last ∧ P y.k y.m := by
  obtain ⟨i, hi, rfl⟩ := (h.mem y).1 hy
  exact ⟨(ok.nb i hi).1, (ok.nb i hi).2, ok.kb i hi⟩
end Go.Proofs.Ytcfmbppnghlkaaa
namespace Go.Proofs.Ytcfmbppnghlkaaa
open Go.RowKit Go.Sort
set_option maxRecDepth 100000

/-- what less is -/
structure Le where
  g : Nat
  cs : Array Value
  J : World → Prop
  X : Nat → Prop
  Ord : Prop
  P : Int → Value → Prop
abbrev Le.Ok (l : Le) : Prop := Ls l.g l.cs l.J l.X l.Ord l.P
/-- behind p lies an agenda that holds D; none of the blocks Y is its -/
structure Ax (l : Le) (w : World) (p : Nat) (o : Ro) (A : Ar) (D : List En) (Y : Nat → Prop) : Prop where
  pb : Blk w p 94 [ptr o.r]
  rx : Rx w o A
  lv : o.lv = .func (.func l.g) #[] l.cs
  pp : o.P = l.P
  j : l.J w
  nx : ∀ b, l.X b → ¬ o.has A b ∧ b ≠ p
  ny : ∀ b, Y b → b < w.heap.size ∧ ¬ o.has A b ∧ b ≠ p ∧ ¬ l.X b
  np : ¬ o.has A p
  dn : Dn D A
  hp : l.Ord → Hp A.f A.n
def Ag (l : Le) (w : World) (p : Nat) (D : List En) (last : Nat) (Y : Nat → Prop) : Prop := l.Ok ∧ ∃ o A, Ax l w p o A D Y ∧ A.last = last
abbrev Els (Y : Nat → Prop) : Nat → Prop := fun b => ¬ Y b
section
variable {l : Le} {w w' : World} {p : Nat} {o o' : Ro} {A A' : Ar} {D D' : List En} {last last' : Nat} {Y Z : Nat → Prop}
theorem Ax.below (x : Ax l w p o A D Y) (ok : l.Ok) (h : Below w.heap.size w w') : Ax l w' p o A D Y :=
  ⟨x.pb.below h, x.rx.below h, x.lv, x.pp, ok.st _ _ x.j (But.of h), x.nx, fun b hb => ⟨Nat.lt_of_lt_of_le (x.ny b hb).1 h.size, (x.ny b hb).2⟩, x.np, x.dn, x.hp⟩
theorem Ag.below (a : Ag l w p D last Y) (h : Below w.heap.size w w') : Ag l w' p D last Y := by
  obtain ⟨ok, o, A, x, e⟩ := a
  exact ⟨ok, o, A, x.below ok h, e⟩
theorem Ag.less (a : Ag l w p D last Y) (h : ∀ b, Z b → Y b) : Ag l w p D last Z := by
  obtain ⟨ok, o, A, x, e⟩ := a
  exact ⟨ok, o, A, ⟨x.pb, x.rx, x.lv, x.pp, x.j, x.nx, fun b hb => x.ny b (h b hb), x.np, x.dn, x.hp⟩, e⟩
/-- foreign stores -/
theorem Ag.but {S : Nat → Prop} (a : Ag l w p D last Y) (h : But S w w') (hS : ∀ b, S b → Y b) : Ag l w' p D last Y := by
  obtain ⟨ok, o, A, x, e⟩ := a
  exact ⟨ok, o, A, ⟨x.pb.but h fun hs => (x.ny p (hS p hs)).2.2.1 rfl, x.rx.but h fun b hb hs => (x.ny b (hS b hs)).2.1 hb, x.lv, x.pp, ok.st _ _ x.j (h.mono fun b hs hx => (x.ny b (hS b hs)).2.2.2 hx), x.nx, fun b hb => ⟨Nat.lt_of_lt_of_le (x.ny b hb).1 h.size, (x.ny b hb).2⟩, x.np, x.dn, x.hp⟩, e⟩
theorem Ag.box (a : Ag l w p D last Y) (z : Obj) : Ag l (w.alloc z) p D last (fun b => Y b ∨ b = w.heap.size) := by
  obtain ⟨ok, o, A, x, e⟩ := a
  have h : Below w.heap.size w (w.alloc z) := (Below.refl _ w).alloc (Nat.le_refl _) _
  have x' := x.below ok h
  refine ⟨ok, o, A, ⟨x'.pb, x'.rx, x'.lv, x'.pp, x'.j, x'.nx, fun b hb => ?_, x'.np, x'.dn, x'.hp⟩, e⟩
  rcases hb with hb | rfl
  · exact x'.ny b hb
  · exact ⟨by simp, fun hh => Nat.lt_irrefl _ (x.rx.lt hh), fun e => Nat.lt_irrefl _ (e ▸ x.pb.lt), fun hx => Nat.lt_irrefl _ (ok.lt _ _ x.j hx)⟩
theorem Ag.srt (a : Ag l w p D last Y) : Srt D := by
  obtain ⟨ok, o, A, x, e⟩ := a
  exact x.dn.srt
theorem Ag.num (a : Ag l w p D last Y) {y : En} (hy : y ∈ D) : 1 ≤ y.n ∧ y.n ≤ last ∧ l.P y.k y.m := by
  obtain ⟨ok, o, A, x, rfl⟩ := a
  exact x.pp ▸ x.dn.num x.rx.ok hy
theorem Ag.len (a : Ag l w p D last Y) : D.length ≤ last ∧ last ≤ 1000000 := by
  obtain ⟨ok, o, A, x, rfl⟩ := a
  exact ⟨by rw [x.dn.len]; exact x.rx.ok.nl, x.rx.ok.lb⟩
/-- a call's end -/
theorem Ax.goes (x : Ax l w p o A D Y) (_ : l.Ok) (hg : Gs l.J l.X w o A w' o' A') (dn : Dn D' A') (hp : l.Ord → Hp A'.f A'.n) : Ax l w' p o' A' D' Y ∧ But (Els Y) w w' := by
  have hsep : ∀ b, b < w.heap.size → ¬ o.has A b → ¬ o'.has A' b := fun b hb h h' => (hg.hs b h').elim h (fun h => by omega)
  refine ⟨⟨?_, hg.rx, hg.lv.trans x.lv, hg.pp.trans x.pp, hg.j, fun b hb => ?_, fun b hb => ?_, ?_, dn, hp⟩, hg.but.mono fun b hb hy => ?_⟩
  · rw [hg.r]; exact x.pb.but hg.but (fun h => h.elim x.np (fun h => (x.nx p h).2 rfl))
  · exact ⟨hsep b (‹l.Ok›.lt _ _ x.j hb) (x.nx b hb).1, (x.nx b hb).2⟩
  · exact ⟨Nat.lt_of_lt_of_le (x.ny b hb).1 hg.but.size, hsep b (x.ny b hb).1 (x.ny b hb).2.1, (x.ny b hb).2.2⟩
  · exact hsep p x.pb.lt x.np
  · exact hb.elim (x.ny b hy).2.1 (x.ny b hy).2.2.2
end

set_option maxHeartbeats 1000000 in
theorem ais (l : Le) (w : World) (p : Nat) (o : Ro) (A : Ar) (D : List En) (Y : Nat → Prop) (x : Ax l w p o A D Y) :
    Calls Try.prog 54 #[ptr p] w fun e w' => e = .returned (.bool true) ∧ w' = w := by
  have h0 := x.pb.cell (i := 0) rfl
  clear x
  go_enter Try.func54, Try.ntmps54
  go_wp2_with fail
  go_ret
  exact ⟨rfl, rfl⟩
set_option maxHeartbeats 1000000 in
theorem alen (l : Le) (w : World) (p : Nat) (o : Ro) (A : Ar) (D : List En) (Y : Nat → Prop) (x : Ax l w p o A D Y) :
    Calls Try.prog 64 #[ptr p] w fun e w' => e = .returned (.int .i64 (A.n : Int)) ∧ w' = w := by
  have h0 := x.pb.cell (i := 0) rfl
  have c1 := ais l w p o A D Y x
  have c2 := elen o A w x.rx
  clear x
  go_enter Try.func64, Try.ntmps64
  go_wp2_with fail
  refine c1.mono ?_
  rintro e w' ⟨rfl, hw'⟩
  subst hw'
  go_wp2_with fail
  refine c2.mono ?_
  rintro e w' ⟨rfl, hw'⟩
  subst hw'
  go_wp2_with fail
  go_ret
  exact ⟨rfl, rfl⟩
end Go.Proofs.Ytcfmbppnghlkaaa
