/- The first one is taken out of a row; another thing is put in an entry's place. -/
import Derived.Test.YtafcgbahdfaiiaaELeave
namespace Go.Proofs.Ytafcgbahdfaiiaa
open Go.RowKit Go.Sort
set_option maxRecDepth 100000

set_option maxHeartbeats 1000000 in
theorem etake (g : Nat) (cs : Array Value) (J : Nat → World → Prop) (c : Nat) (X : Nat → Prop) (Ord : Prop) (L : Ls g cs J X Ord) (o : Ro) (A : Ar) (h0 : 0 < A.n) (w : World) (x : Rx w o A) (hJ : J (c + 4 * A.n) w) (hlv : o.lv = .func (.func g) #[] cs) (hX : ∀ b, X b → ¬ o.has A b) :
    Calls Try.prog 43 #[ptr o.r] w fun e w' => e = .returned (ptr (o.bl (A.f 0).n)) ∧ ∃ o' A', Gs (J c) X w o A w' o' A' ∧ Out Ord A A' (A.f 0) ∧ ∃ q, Blk w' (o.bl (A.f 0).n) 74 (enC (A.f 0) q) := by
  have cF := efirst o A w x h0
  have cL := eleave g cs J c X Ord L o A 0 h0 w x hJ hlv hX
  clear L x hX hJ
  go_enter Try.func43, Try.ntmps43
  go_wp2_with fail
  refine cF.mono ?_
  rintro e w' ⟨rfl, hw'⟩
  subst hw'
  clear cF
  go_wp2_with fail
  refine cL.mono ?_
  rintro e w1 ⟨rfl, h⟩
  clear cL
  have HH := (⟨h⟩ : Nonempty _)
  clear h
  go_wp2_with fail
  go_ret
  obtain ⟨h⟩ := HH
  exact ⟨rfl, h⟩

/-- another thing in an entry's place -/
def Ar.put (A : Ar) (i : Nat) (k m : Int) : Ar := { A with f := fun j => if j = i then ⟨k, m, (A.f i).n⟩ else A.f j }
theorem put_n (A : Ar) (i : Nat) (k m : Int) (j : Nat) : ((A.put i k m).f j).n = (A.f j).n := by
  show (if j = i then (⟨k, m, (A.f i).n⟩ : En) else A.f j).n = _
  by_cases e : j = i
  · subst e; rw [if_pos rfl]
  · rw [if_neg e]
theorem Ar.Ok.put {A : Ar} (h : A.Ok) {i : Nat} {k m : Int} (hk : -128 ≤ k ∧ k ≤ 127) : (A.put i k m).Ok := by
  refine ⟨fun a b ha hb e => h.inj a b ha hb (by rw [put_n, put_n] at e; exact e), fun a ha => by rw [put_n]; exact h.nb a ha, h.nl, fun a ha => ?_, h.lb⟩
  show -128 ≤ (if a = i then (⟨k, m, (A.f i).n⟩ : En) else A.f a).k ∧ (if a = i then (⟨k, m, (A.f i).n⟩ : En) else A.f a).k ≤ 127
  by_cases e : a = i
  · rw [if_pos e]; exact hk
  · rw [if_neg e]; exact h.kb a ha
section
variable {w : World} {o : Ro} {A : Ar}
theorem put_hs {i : Nat} {k m : Int} {b : Nat} : o.has (A.put i k m) b ↔ o.has A b := by
  unfold Ro.has
  simp only [put_n]
  exact Iff.rfl
theorem eput_rx (x : Rx w o A) {i : Nat} (hi : i < A.n) {k m : Int} (hk : -128 ≤ k ∧ k ≤ 127) : Rx ((w.setCell ⟨o.bl (A.f i).n, 0, none⟩ (.int .i8 k)).setCell ⟨o.bl (A.f i).n, 1, none⟩ (.int .i64 m)) o (A.put i k m) := by
  obtain ⟨n1, n2, n3, n4, n5⟩ := x.ne
  have hB := n4 i hi
  refine ⟨?_, ?_, ?_, ?_, ?_, x.ml, x.ok.put hk⟩
  · exact (x.rb.setO (b' := o.bl (A.f i).n) (i := 0) hB.1.symm (.int .i8 k)).setO hB.1.symm _
  · have e : pts (A.put i k m) o.bl = pts A o.bl := by
      unfold pts
      exact List.map_congr_left fun j _ => by rw [put_n]
    rw [e]
    exact own_setO (own_setO x.ow (i := 0) hB.2.2 (.int .i8 k)) hB.2.2 _
  · intro j hj
    have hj' : j < A.n := hj
    rw [put_n]
    show Blk _ _ _ (enC (if j = i then (⟨k, m, (A.f i).n⟩ : En) else A.f j) j)
    by_cases e : j = i
    · subst e
      rw [if_pos rfl]
      have h := ((x.en j hj').set 0 (.int .i8 k)).set 1 (.int .i64 m)
      exact h
    · rw [if_neg e]
      have hne : o.bl (A.f j).n ≠ o.bl (A.f i).n := fun h => e (n5 j i hj' hi h)
      exact ((x.en j hj').setO (i := 0) hne (.int .i8 k)).setO hne _
  · exact x.mp.same ((Below.heap_setCell _ _ _ _ hB.2.1.symm).trans (Below.heap_setCell _ _ _ _ hB.2.1.symm))
  · intro y
    rw [x.ms y]
    simp only [put_n]
    exact Iff.rfl
end
/-- an entry is another thing -/
structure Chg (Ord : Prop) (A A' : Ar) (e : En) (k m : Int) : Prop where
  n : A'.n = A.n
  last : A'.last = A.last
  has : ∀ y, A'.has y ↔ (A.has y ∧ y ≠ e) ∨ y = ⟨k, m, e.n⟩
  hp : Ord → Hp A.f A.n → Hp A'.f A'.n
theorem put_has {A : Ar} (ok : A.Ok) {i : Nat} (hi : i < A.n) {k m : Int} (y : En) : (A.put i k m).has y ↔ (A.has y ∧ y ≠ A.f i) ∨ y = ⟨k, m, (A.f i).n⟩ := by
  constructor
  · rintro ⟨j, hj, e⟩
    have e' : (if j = i then (⟨k, m, (A.f i).n⟩ : En) else A.f j) = y := e
    by_cases h : j = i
    · rw [if_pos h] at e'; exact .inr e'.symm
    · rw [if_neg h] at e'
      refine .inl ⟨⟨j, hj, e'⟩, fun h' => h (ok.inj j i hj hi (by rw [e', h']))⟩
  · rintro (⟨⟨j, hj, e⟩, hne⟩ | e)
    · refine ⟨j, hj, ?_⟩
      show (if j = i then (⟨k, m, (A.f i).n⟩ : En) else A.f j) = y
      rw [if_neg (by rintro rfl; exact hne e.symm), e]
    · refine ⟨i, hi, ?_⟩
      show (if i = i then (⟨k, m, (A.f i).n⟩ : En) else A.f i) = y
      rw [if_pos rfl, e]

set_option maxHeartbeats 1000000 in
theorem echange (g : Nat) (cs : Array Value) (J : Nat → World → Prop) (c : Nat) (X : Nat → Prop) (Ord : Prop) (L : Ls g cs J X Ord) (o : Ro) (A : Ar) (i : Nat) (hi : i < A.n) (k m : Int) (hk : -128 ≤ k ∧ k ≤ 127) (w : World) (x : Rx w o A) (hJ : J (c + 4 * A.n) w) (hlv : o.lv = .func (.func g) #[] cs) (hX : ∀ b, X b → ¬ o.has A b) :
    Calls Try.prog 45 #[ptr o.r, ptr (o.bl (A.f i).n), thV k m] w fun e w' => e = .returned (.tuple #[]) ∧ ∃ A', Gs (J c) X w o A w' o A' ∧ Chg Ord A A' (A.f i) k m := by
  obtain ⟨w1, hw1⟩ : ∃ w1, w1 = w.alloc (.cells #[.int .i8 k, .int .i64 m] 27) := ⟨_, rfl⟩
  have x1 : Rx w1 o A := by rw [hw1]; exact x.alloc _
  have hb1 : But (fun b => o.has A b ∨ X b) w w1 := by rw [hw1]; exact (But.refl _ w).alloc _
  have k0 : w1.cell? ⟨w.heap.size, 0, none⟩ = some (.int .i8 k) := by rw [hw1]; exact (blk_new w [.int .i8 k, .int .i64 m] _).cell (i := 0) rfl
  have k1 : w1.cell? ⟨w.heap.size, 1, none⟩ = some (.int .i64 m) := by rw [hw1]; exact (blk_new w [.int .i8 k, .int .i64 m] _).cell (i := 1) rfl
  have hbi : Hid (o.has A (o.bl (A.f i).n)) := .inr (.inr (.inr ⟨i, hi, rfl⟩))
  have x2 := eput_rx x1 hi hk (m := m)
  have hb2 : But (fun b => o.has A b ∨ X b) w ((w1.setCell ⟨o.bl (A.f i).n, 0, none⟩ (.int .i8 k)).setCell ⟨o.bl (A.f i).n, 1, none⟩ (.int .i64 m)) := (hb1.setCell (p := ⟨o.bl (A.f i).n, 0, none⟩) (.inl hbi.out) _).setCell (p := ⟨o.bl (A.f i).n, 1, none⟩) (.inl hbi.out) _
  have hb3 : But (o.has A) w ((w1.setCell ⟨o.bl (A.f i).n, 0, none⟩ (.int .i8 k)).setCell ⟨o.bl (A.f i).n, 1, none⟩ (.int .i64 m)) := ((show But (o.has A) w w1 by rw [hw1]; exact (But.refl _ w).alloc _).setCell (p := ⟨o.bl (A.f i).n, 0, none⟩) hbi.out _).setCell (p := ⟨o.bl (A.f i).n, 1, none⟩) hbi.out _
  have J2 := L.st _ _ _ hJ (hb3.mono fun b hb hx => hX b hx hb)
  have cF := efix g cs J c X Ord L o (A.put i k m) i hi _ x2 J2 hlv (fun b hb h => hX b hb (put_hs.1 h))
  have e0 := (x1.en i hi).cell (i := 0) rfl
  have e1 := (x1.en i hi).cell (i := 1) rfl
  have ef := (x1.en i hi).fz
  have e3 := ((((x1.en i hi).set 0 (.int .i8 k)).set 1 (.int .i64 m))).cell (i := 3) (v := .int .i64 (i : Int)) rfl
  have HN : Hid (A.Ok) := x.ok
  have HB2 : Hid (But (fun b => o.has A b ∨ X b) w ((w1.setCell ⟨o.bl (A.f i).n, 0, none⟩ (.int .i8 k)).setCell ⟨o.bl (A.f i).n, 1, none⟩ (.int .i64 m))) := hb2
  clear L x hX hJ x1 x2 hb1 hb2 hb3 J2
  generalize o.bl (A.f i).n = bi at *
  generalize hN : w.heap.size = N at *
  replace hw1 := hw1.symm
  unfold thV
  go_enter Try.func45, Try.ntmps45
  go_wp2_with fail
  refine cF.mono ?_
  rintro e w6 ⟨rfl, A6, M6, F6⟩
  have HM6 : Hid (Mv (J c) X ((w1.setCell ⟨bi, 0, none⟩ (.int .i8 k)).setCell ⟨bi, 1, none⟩ (.int .i64 m)) o (A.put i k m) w6 A6) := M6
  have HF6 : Hid (Ord → Fx (A.put i k m).f (A.put i k m).n i → Hp A6.f (A.put i k m).n) := F6
  clear cF M6 F6 hw1
  go_wp2_with fail
  refine bodyPost_end (results_none rfl _ _ _) rfl ?_
  refine ⟨rfl, A6, ⟨rfl, rfl, HM6.out.rx, HB2.out.trans (HM6.out.but.mono fun b h => h.elim (fun h => .inl (put_hs.1 h)) .inr), fun b hb => .inl (put_hs.1 (HM6.out.mix.hs.1 hb)), HM6.out.j⟩, ⟨HM6.out.mix.n, HM6.out.mix.last, fun y => (HM6.out.mix.has y).trans (put_has HN.out hi y), fun h1 h2 => ?_⟩⟩
  rw [HM6.out.mix.n]
  exact HF6.out h1 (h2.fix i _)
end Go.Proofs.Ytafcgbahdfaiiaa
