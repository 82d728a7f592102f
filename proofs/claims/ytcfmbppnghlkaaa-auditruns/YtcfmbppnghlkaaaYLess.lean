/- Which row's first record stands first. -/
import Derived.Test.YtcfmbppnghlkaaaFAct
import Derived.Test.YtcfmbppnghlkaaaOStamp
import Derived.Deep.RegionHeld3
namespace Go.Proofs.Ytcfmbppnghlkaaa
open Go.RowKit
set_option maxRecDepth 100000

/-- a record -/
structure Rc where
  t : Int
  s : Int
  g : Int
  p : Int
abbrev Rc.key (r : Rc) : Int := r.t * 18446744073709551616 + r.s
structure Rc.Ok (r : Rc) : Prop where
  t : -9223372036854775808 ≤ r.t ∧ r.t < 9223372036854775808
  s : -9223372036854775808 ≤ r.s ∧ r.s < 9223372036854775808
theorem Rc.Ok.key {r q : Rc} (h : r.Ok) (k : q.Ok) : r.key < q.key ↔ r.t < q.t ∨ (r.t = q.t ∧ r.s < q.s) := by
  have := h.s
  have := k.s
  unfold Rc.key
  omega
theorem Rc.Ok.keyE {r q : Rc} (h : r.Ok) (k : q.Ok) : r.key = q.key ↔ r.t = q.t ∧ r.s = q.s := by
  have := h.s
  have := k.s
  unfold Rc.key
  omega
def rec0 : Rc := ⟨0, 0, 0, 0⟩
def encR (r : Rc) : List Value := [.int .i64 r.t, .int .i64 r.s, .int .i64 r.g, .int .u64 r.p]
abbrev recV (r : Rc) : Value := .agg #[.int .i64 r.t, .int .i64 r.s, .int .i64 r.g, .int .u64 r.p]
def encRs (l : List Rc) : List Value := l.flatMap encR
theorem encRs_len (l : List Rc) : (encRs l).length = l.length * 4 := by
  unfold encRs
  induction l with
  | nil => rfl
  | cons r l ih => simp [encR, ih]; omega
theorem encRs_app (l m : List Rc) : encRs (l ++ m) = encRs l ++ encRs m := by simp [encRs]
theorem encRs_one (r : Rc) : encRs [r] = encR r := by simp [encRs]
theorem encRs_at : ∀ (l : List Rc) (j : Nat) (r : Rc), l[j]? = some r → ∀ f v, (encR r)[f]? = some v → (encRs l)[4 * j + f]? = some v := by
  intro l
  induction l with
  | nil => intro j r h; simp at h
  | cons q l ih =>
    intro j r h f v hf
    have hf4 : f < 4 := by
      have := (List.getElem?_eq_some_iff.1 hf).1
      simpa [encR] using this
    show (encR q ++ encRs l)[4 * j + f]? = some v
    cases j with
    | zero =>
      simp at h
      subst h
      rw [List.getElem?_append_left (by simp [encR]; omega)]
      simpa using hf
    | succ j =>
      rw [List.getElem?_append_right (by simp [encR]; omega)]
      have e : 4 * (j + 1) + f - (encR q).length = 4 * j + f := by simp [encR]; omega
      rw [e]
      exact ih j r (by simpa using h) f v hf
theorem encRs_one1 (l : List Rc) : ∀ y ∈ encRs l, y.oneCell' = true := by
  intro y hy
  unfold encRs at hy
  rw [List.mem_flatMap] at hy
  obtain ⟨r, _, hy⟩ := hy
  simp [encR] at hy
  rcases hy with rfl | rfl | rfl | rfl <;> rfl

/-- they rise -/
def RiseR (l : List Rc) : Prop := l.Pairwise fun a b => a.key < b.key
theorem RiseR.uniq {l : List Rc} (h : RiseR l) {a b : Rc} (ha : a ∈ l) (hb : b ∈ l) (e : a.key = b.key) : a = b := by
  induction l with
  | nil => cases ha
  | cons x l ih =>
    obtain ⟨h1, h2⟩ := List.pairwise_cons.1 h
    rcases List.mem_cons.1 ha with ea | ha' <;> rcases List.mem_cons.1 hb with eb | hb'
    · rw [ea, eb]
    · have := h1 b hb'; rw [ea] at e; omega
    · have := h1 a ha'; rw [eb] at e; omega
    · exact ih h2 ha' hb'
theorem RiseR.drop {l : List Rc} (h : RiseR l) (n : Nat) : RiseR (l.drop n) := List.Pairwise.sublist (List.drop_sublist n l) h
theorem RiseR.filter {l : List Rc} (h : RiseR l) (p : Rc → Bool) : RiseR (l.filter p) := List.Pairwise.filter _ h
theorem RiseR.head {l : List Rc} (h : RiseR l) {n : Nat} {r x : Rc} (hr : l[n]? = some r) (hx : x ∈ l.drop n) : r.key ≤ x.key := by
  have h2 := h.drop n
  obtain ⟨hn, e⟩ := List.getElem?_eq_some_iff.1 hr
  rw [List.drop_eq_getElem_cons hn, e] at h2 hx
  rcases List.mem_cons.1 hx with rfl | hx
  · omega
  · have := (List.pairwise_cons.1 h2).1 x hx; omega

/-- rows that are merged: how many; where each lies, its room, its records; what they come to -/
structure Fam where
  K : Nat
  B : Nat → Nat
  C : Nat → Nat
  rc : Nat → List Rc
structure Fam.Ok (f : Fam) (F : List Rc) : Prop where
  rise : RiseR F
  rows : ∀ i, i < f.K → RiseR (f.rc i)
  ok : ∀ i, i < f.K → ∀ r, r ∈ f.rc i → r.Ok
  mem : ∀ r, r ∈ F ↔ ∃ i, i < f.K ∧ r ∈ f.rc i
  one : ∀ i j r q, i < f.K → j < f.K → r ∈ f.rc i → q ∈ f.rc j → r.key = q.key → i = j
  ne : ∀ i, i < f.K → f.rc i ≠ []
  cb : ∀ i, i < f.K → (f.rc i).length ≤ f.C i
  kb : f.K ≤ 1000
  lb : F.length ≤ 100000
/-- the rest of a row -/
def Fam.row (f : Fam) (i j : Nat) : Value := .slice (some ⟨f.B i, 4 * j, none⟩) ((f.rc i).length - j) (f.C i - j)
def Fam.P (f : Fam) (k : Int) (m : Value) : Prop := ∃ i j r, i < f.K ∧ (f.rc i)[j]? = some r ∧ k = r.key ∧ m = f.row i j
/-- what the agenda holds of the first K rows, with so many told of each -/
structure Mg (f : Fam) (K : Nat) (D : List En) (pos : Nat → Nat) (ix : Nat → Nat) : Prop where
  ent : ∀ e, e ∈ D → ix e.n < K ∧ ∃ r, (f.rc (ix e.n))[pos (ix e.n)]? = some r ∧ e.k = r.key ∧ e.m = f.row (ix e.n) (pos (ix e.n))
  inj : ∀ e e', e ∈ D → e' ∈ D → ix e.n = ix e'.n → e.n = e'.n
  all : ∀ i, i < K → pos i < (f.rc i).length → ∃ e, e ∈ D ∧ ix e.n = i
section
variable {f : Fam} {K : Nat} {D : List En} {pos ix : Nat → Nat} {F : List Rc}
theorem Mg.nil (f : Fam) (pos ix : Nat → Nat) : Mg f 0 [] pos ix := ⟨fun _ h => (by cases h), fun _ _ h => (by cases h), fun i h => absurd h (Nat.not_lt_zero i)⟩
/-- one row more -/
theorem Mg.push (h : Mg f K D (fun _ => 0) ix) {last : Nat} (hn : ∀ e, e ∈ D → e.n ≤ last) {r : Rc} (hr : (f.rc K)[0]? = some r) : Mg f (K + 1) (D ++ [⟨r.key, f.row K 0, last + 1⟩]) (fun _ => 0) (upd ix (last + 1) K) := by
  have old : ∀ e, e ∈ D → upd ix (last + 1) K e.n = ix e.n := fun e he => upd_ne (by have := hn e he; omega)
  refine ⟨fun e he => ?_, fun e e' he he' hi => ?_, fun i hi hl => ?_⟩
  · rcases List.mem_append.1 he with he | he
    · rw [old e he]
      obtain ⟨h1, r', h2⟩ := h.ent e he
      exact ⟨by omega, r', h2⟩
    · simp at he
      subst he
      rw [upd_at]
      exact ⟨by omega, r, hr, rfl, rfl⟩
  · rcases List.mem_append.1 he with he | he <;> rcases List.mem_append.1 he' with he' | he'
    · rw [old e he, old e' he'] at hi
      exact h.inj e e' he he' hi
    · simp at he'
      subst he'
      rw [old e he, upd_at] at hi
      have := (h.ent e he).1
      omega
    · simp at he
      subst he
      rw [old e' he', upd_at] at hi
      have := (h.ent e' he').1
      omega
    · simp at he he'
      rw [he, he']
  · by_cases e : i = K
    · exact ⟨⟨r.key, f.row K 0, last + 1⟩, by simp, by rw [e]; exact upd_at _ _ _⟩
    · obtain ⟨x, hx, hxi⟩ := h.all i (by omega) hl
      exact ⟨x, by simp [hx], by rw [old x hx]; exact hxi⟩
/-- an entry is taken out, and nothing is left of its row -/
theorem Mg.last (h : Mg f K D pos ix) {e : En} (he : e ∈ D) (hl : pos (ix e.n) + 1 = (f.rc (ix e.n)).length) : Mg f K (dropD D e.n) (upd pos (ix e.n) (pos (ix e.n) + 1)) ix := by
  have ne : ∀ y, y ∈ dropD D e.n → y ∈ D ∧ ix y.n ≠ ix e.n := fun y hy => by
    obtain ⟨h1, h2⟩ := mem_drop.1 hy
    exact ⟨h1, fun hi => h2 (h.inj y e h1 he hi)⟩
  refine ⟨fun y hy => ?_, fun y y' hy hy' hi => h.inj y y' (ne y hy).1 (ne y' hy').1 hi, fun i hi hp => ?_⟩
  · rw [upd_ne (ne y hy).2]
    exact h.ent y (ne y hy).1
  · by_cases ei : i = ix e.n
    · subst ei; rw [upd_at] at hp; omega
    · rw [upd_ne ei] at hp
      obtain ⟨y, hy, hyi⟩ := h.all i hi hp
      exact ⟨y, mem_drop.2 ⟨hy, fun hn => ei (by rw [← hyi, hn])⟩, hyi⟩
/-- .. or the rest comes in again -/
theorem Mg.next (h : Mg f K D pos ix) {e : En} (he : e ∈ D) {last : Nat} (hn : ∀ y, y ∈ D → y.n ≤ last) {r : Rc} (hr : (f.rc (ix e.n))[pos (ix e.n) + 1]? = some r) :
    Mg f K (dropD D e.n ++ [⟨r.key, f.row (ix e.n) (pos (ix e.n) + 1), last + 1⟩]) (upd pos (ix e.n) (pos (ix e.n) + 1)) (upd ix (last + 1) (ix e.n)) := by
  have ne : ∀ y, y ∈ dropD D e.n → y ∈ D ∧ ix y.n ≠ ix e.n := fun y hy => by
    obtain ⟨h1, h2⟩ := mem_drop.1 hy
    exact ⟨h1, fun hi => h2 (h.inj y e h1 he hi)⟩
  have old : ∀ y, y ∈ D → upd ix (last + 1) (ix e.n) y.n = ix y.n := fun y hy => upd_ne (by have := hn y hy; omega)
  refine ⟨fun y hy => ?_, fun y y' hy hy' hi => ?_, fun i hi hp => ?_⟩
  · rcases List.mem_append.1 hy with hy | hy
    · rw [old y (ne y hy).1, upd_ne (ne y hy).2]
      exact h.ent y (ne y hy).1
    · simp at hy
      subst hy
      simp only [upd_at]
      exact ⟨(h.ent e he).1, r, hr, rfl, trivial⟩
  · rcases List.mem_append.1 hy with hy | hy <;> rcases List.mem_append.1 hy' with hy' | hy'
    · rw [old y (ne y hy).1, old y' (ne y' hy').1] at hi
      exact h.inj y y' (ne y hy).1 (ne y' hy').1 hi
    · simp at hy'
      subst hy'
      rw [old y (ne y hy).1, upd_at] at hi
      exact absurd hi (ne y hy).2
    · simp at hy
      subst hy
      rw [old y' (ne y' hy').1, upd_at] at hi
      exact absurd hi.symm (ne y' hy').2
    · simp at hy hy'
      rw [hy, hy']
  · by_cases ei : i = ix e.n
    · exact ⟨⟨r.key, f.row (ix e.n) (pos (ix e.n) + 1), last + 1⟩, by simp, by rw [ei]; exact upd_at _ _ _⟩
    · rw [upd_ne ei] at hp
      obtain ⟨y, hy, hyi⟩ := h.all i hi hp
      exact ⟨y, by simp [mem_drop, hy, show y.n ≠ e.n from fun hn => ei (by rw [← hyi, hn])], by rw [old y hy]; exact hyi⟩
/-- t are told, of each row so many -/
structure Tld (f : Fam) (F : List Rc) (t : Nat) (pos : Nat → Nat) : Prop where
  le : t ≤ F.length
  mem : ∀ r, r ∈ F.drop t ↔ ∃ i, i < f.K ∧ r ∈ (f.rc i).drop (pos i)
/-- what comes first is the next one -/
theorem Tld.head (ok : f.Ok F) {t : Nat} (h : Tld f F t pos) (m : Mg f f.K D pos ix) {e : En} (he : e ∈ D) (hb : ∀ y, y ∈ D → ¬ bef y e) {r : Rc} (hr : (f.rc (ix e.n))[pos (ix e.n)]? = some r) :
    F[t]? = some r ∧ Tld f F (t + 1) (upd pos (ix e.n) (pos (ix e.n) + 1)) := by
  obtain ⟨hi, r', hr', hk, _⟩ := m.ent e he
  rw [hr] at hr'
  cases hr'
  have hlt := (List.getElem?_eq_some_iff.1 hr).1
  have hcons : (f.rc (ix e.n)).drop (pos (ix e.n)) = r :: (f.rc (ix e.n)).drop (pos (ix e.n) + 1) := by
    rw [List.drop_eq_getElem_cons hlt, (List.getElem?_eq_some_iff.1 hr).2]
  have hin : r ∈ F.drop t := (h.mem r).2 ⟨_, hi, by rw [hcons]; simp⟩
  have htl : t < F.length := by
    have := List.length_pos_of_mem hin
    rw [List.length_drop] at this
    omega
  have hF : F.drop t = F[t] :: F.drop (t + 1) := List.drop_eq_getElem_cons htl
  have hxin : F[t] ∈ F.drop t := by rw [hF]; exact List.mem_cons_self
  obtain ⟨j, hj, hxj⟩ := (h.mem _).1 hxin
  have hpj : pos j < (f.rc j).length := by
    have := List.length_pos_of_mem hxj
    rw [List.length_drop] at this
    omega
  obtain ⟨y, hy, hyj⟩ := m.all j hj hpj
  obtain ⟨_, q, hq, hqk, _⟩ := m.ent y hy
  rw [hyj] at hq
  have h1 := (ok.rows j hj).head hq hxj
  have h2 := ok.rise.head (List.getElem?_eq_getElem htl) hin
  have h3 := hb y hy
  unfold bef at h3
  have hxe : F[t] = r := ok.rise.uniq (List.getElem_mem htl) (List.mem_of_mem_drop hin) (by omega)
  refine ⟨by rw [List.getElem?_eq_getElem htl, hxe], htl, fun x => ?_⟩
  have hd := h.mem x
  rw [hF, List.mem_cons, hxe] at hd
  have hr3 := ok.rise.drop t
  rw [hF, hxe] at hr3
  have hr4 := (ok.rows _ hi).drop (pos (ix e.n))
  rw [hcons] at hr4
  constructor
  · intro hx
    obtain ⟨i, hi', hxi⟩ := hd.1 (.inr hx)
    refine ⟨i, hi', ?_⟩
    by_cases ei : i = ix e.n
    · subst ei
      rw [upd_at]
      rw [hcons, List.mem_cons] at hxi
      rcases hxi with rfl | hxi
      · have := (List.pairwise_cons.1 hr3).1 x hx; omega
      · exact hxi
    · rw [upd_ne ei]; exact hxi
  · rintro ⟨i, hi', hxi⟩
    by_cases ei : i = ix e.n
    · subst ei
      rw [upd_at] at hxi
      rcases hd.2 ⟨_, hi', by rw [hcons]; simp [hxi]⟩ with rfl | hx
      · have := (List.pairwise_cons.1 hr4).1 x hxi; omega
      · exact hx
    · rw [upd_ne ei] at hxi
      rcases hd.2 ⟨i, hi', hxi⟩ with rfl | hx
      · exact absurd (ok.one i _ x x hi' hi (List.mem_of_mem_drop hxi) (List.mem_of_getElem? hr) rfl) ei
      · exact hx
theorem Tld.zero (ok : f.Ok F) : Tld f F 0 (fun _ => 0) := ⟨Nat.zero_le _, fun r => by simpa using ok.mem r⟩
theorem Tld.done {t : Nat} (h : Tld f F t pos) (m : Mg f f.K [] pos ix) : F.take t = F := by
  have : F.drop t = [] := by
    rw [List.eq_nil_iff_forall_not_mem]
    intro r hr
    obtain ⟨i, hi, hri⟩ := (h.mem r).1 hr
    have := List.length_pos_of_mem hri
    rw [List.length_drop] at this
    obtain ⟨e, he, _⟩ := m.all i hi (by omega)
    cases he
  have h2 := List.take_append_drop t F
  rw [this, List.append_nil] at h2
  exact h2
end
end Go.Proofs.Ytcfmbppnghlkaaa
namespace Go.Proofs.Ytcfmbppnghlkaaa
open Go.RowKit
set_option maxRecDepth 100000

set_option maxHeartbeats 1000000 in
theorem ycomp (b1 o1 n1 c1 b2 o2 n2 c2 : Nat) (t s t' s' : Int) (w : World) (h1 : 0 < n1) (h2 : 0 < n2)
    (k1 : w.cell? ⟨b1, o1, none⟩ = some (.int .i64 t)) (k2 : w.cell? ⟨b1, o1 + 1, none⟩ = some (.int .i64 s)) (k3 : w.cell? ⟨b2, o2, none⟩ = some (.int .i64 t')) (k4 : w.cell? ⟨b2, o2 + 1, none⟩ = some (.int .i64 s')) :
    Calls Try.prog 34 #[.slice (some ⟨b1, o1, none⟩) n1 c1, .slice (some ⟨b2, o2, none⟩) n2 c2] w fun e w' => e = .returned (.int .i64 (cmpI t s t' s')) ∧ Below w.heap.size w w' := by
  have hc := cmp_any t s t' s' w.drew
  have toS : ∀ W, Below w.heap.size w W → W.cell? ⟨b1, o1, none⟩ = some (.int .i64 t) ∧ W.cell? ⟨b1, o1 + 1, none⟩ = some (.int .i64 s) ∧ W.cell? ⟨b2, o2, none⟩ = some (.int .i64 t') ∧ W.cell? ⟨b2, o2 + 1, none⟩ = some (.int .i64 s') := fun W hW =>
    ⟨(hW.cell (p := ⟨b1, o1, none⟩) (cell_lt k1)).trans k1, (hW.cell (p := ⟨b1, o1 + 1, none⟩) (cell_lt k2)).trans k2, (hW.cell (p := ⟨b2, o2, none⟩) (cell_lt k3)).trans k3, (hW.cell (p := ⟨b2, o2 + 1, none⟩) (cell_lt k4)).trans k4⟩
  clear k1 k2 k3 k4
  generalize cmpI t s t' s' = r at *
  go_enter Try.func34, Try.ntmps34
  go_wp2_with fail
  go_region_held3 (fun W => W.cell? ⟨b1, o1, none⟩ = some (.int .i64 t) ∧ W.cell? ⟨b1, o1 + 1, none⟩ = some (.int .i64 s) ∧ W.cell? ⟨b2, o2, none⟩ = some (.int .i64 t') ∧ W.cell? ⟨b2, o2 + 1, none⟩ = some (.int .i64 s')) (first | (with_reducible assumption) | exact toS _ (by assumption) | exact toS _ (Below.refl _ _).drew | exact toS _ (Below.refl _ _)) (first | (go_at_call 44; (with_reducible refine hc.mono ?_); rintro v w5 ⟨rfl, hb5⟩; have e5 : Below w.heap.size w w5 := (Below.refl _ w).drew.trans hb5))
  all_goals
    have HB : Hid (Below w.heap.size w w5) := e5
    clear hb5 e5
    try go_wp2_with fail
    go_ret
    exact ⟨rfl, HB.out⟩
set_option maxHeartbeats 1000000 in
theorem ysooner (b1 o1 n1 c1 b2 o2 n2 c2 : Nat) (t s t' s' : Int) (w : World) (h1 : 0 < n1) (h2 : 0 < n2)
    (k1 : w.cell? ⟨b1, o1, none⟩ = some (.int .i64 t)) (k2 : w.cell? ⟨b1, o1 + 1, none⟩ = some (.int .i64 s)) (k3 : w.cell? ⟨b2, o2, none⟩ = some (.int .i64 t')) (k4 : w.cell? ⟨b2, o2 + 1, none⟩ = some (.int .i64 s')) :
    Calls Try.prog 46 #[.slice (some ⟨b1, o1, none⟩) n1 c1, .slice (some ⟨b2, o2, none⟩) n2 c2] w fun e w' => e = .returned (.bool (decide (cmpI t s t' s' < 0))) ∧ Below w.heap.size w w' := by
  have hc := ycomp b1 o1 n1 c1 b2 o2 n2 c2 t s t' s' w h1 h2 k1 k2 k3 k4
  clear k1 k2 k3 k4
  generalize cmpI t s t' s' = r at *
  go_enter Try.func46, Try.ntmps46
  go_wp2_with fail
  refine hc.mono ?_
  rintro v w5 ⟨rfl, hb5⟩
  clear hc
  go_wp2_with fail
  go_ret
  exact ⟨rfl, hb5⟩
theorem cmpI_key {r q : Rc} (h : r.Ok) (k : q.Ok) : decide (cmpI r.t r.s q.t q.s < 0) = decide (r.key < q.key) := by
  have hk := h.key k
  unfold cmpI
  split
  · simp; omega
  · split
    · simp; omega
    · simp; omega

/-- the rows' records lie in memory -/
def Fam.In (f : Fam) (w : World) : Prop := ∀ i, i < f.K → ∀ j r, (f.rc i)[j]? = some r → ∀ k v, (encR r)[k]? = some v → w.cell? ⟨f.B i, 4 * j + k, none⟩ = some v
theorem Fam.In.below {f : Fam} {w w' : World} (h : f.In w) (hb : Below w.heap.size w w') : f.In w' := fun i hi j r hr k v hv =>
  (hb.cell (p := ⟨f.B i, 4 * j + k, none⟩) (cell_lt (h i hi j r hr k v hv))).trans (h i hi j r hr k v hv)
theorem fsooner : ∀ args W, (callFunc 46 args).run Try.prog W = .ok (.enter 46 args) W := enters_of Try.func46 (by kernel_rfl) rfl
/-- how the agenda compares; all that was there stays -/
abbrev leY (f : Fam) (w0 : World) : Le := ⟨46, #[], fun W => Below w0.heap.size w0 W, fun b => b < w0.heap.size, True, f.P⟩
theorem leY_ok {f : Fam} {F : List Rc} {w0 : World} (ok : f.Ok F) (h : f.In w0) : (leY f w0).Ok := by
  refine ⟨?_, fsooner, fun W W' hJ hB => ?_, fun W b hJ hb => Nat.lt_of_lt_of_le hb hJ.size, ?_⟩
  · rintro k m ⟨i, j, r, hi, hr, rfl, rfl⟩
    exact ⟨(some ⟨f.B i, 4 * j, none⟩, (f.rc i).length - j, f.C i - j), rfl⟩
  · exact ⟨hB.os.trans hJ.os, hB.tape.trans hJ.tape, hB.output.trans hJ.output, Nat.le_trans hJ.size hB.size, fun b hb => (hB.block b (Nat.lt_of_lt_of_le hb hJ.size) (fun hn => hn hb)).trans (hJ.block b hb)⟩
  · rintro W k1 m1 k2 m2 ⟨i, j, r, hi, hr, rfl, rfl⟩ ⟨i', j', q, hi', hq, rfl, rfl⟩ hJ
    have hIn : f.In W := h.below hJ
    have hl := (List.getElem?_eq_some_iff.1 hr).1
    have hl' := (List.getElem?_eq_some_iff.1 hq).1
    have c1 := hIn i hi j r hr 0 _ rfl
    have c2 := hIn i hi j r hr 1 _ rfl
    have c3 := hIn i' hi' j' q hq 0 _ rfl
    have c4 := hIn i' hi' j' q hq 1 _ rfl
    refine (ysooner (f.B i) (4 * j) ((f.rc i).length - j) (f.C i - j) (f.B i') (4 * j') ((f.rc i').length - j') (f.C i' - j') r.t r.s q.t q.s W (by omega) (by omega) c1 c2 c3 c4).mono ?_
    rintro e w' ⟨rfl, hb⟩
    exact ⟨_, rfl, fun _ => cmpI_key (ok.ok i hi r (List.mem_of_getElem? hr)) (ok.ok i' hi' q (List.mem_of_getElem? hq)), But.of hb, Below.onto hJ hb⟩
end Go.Proofs.Ytcfmbppnghlkaaa
