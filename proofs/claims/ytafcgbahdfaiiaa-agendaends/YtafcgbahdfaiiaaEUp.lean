/- container/heap's up, over a row. -/
import Derived.Test.YtafcgbahdfaiiaaESwap
namespace Go.Proofs.Ytafcgbahdfaiiaa
open Go.RowKit Go.Sort
set_option maxRecDepth 100000

abbrev rI (r : Nat) : Value := .iface 58 (ptr r)
theorem Ar.Mix.hs {o : Ro} {A B : Ar} (h : A.Mix B) {b : Nat} : o.has B b ↔ o.has A b := by
  unfold Ro.has
  have : (∃ i, i < B.n ∧ o.bl (B.f i).n = b) ↔ ∃ i, i < A.n ∧ o.bl (A.f i).n = b := by
    constructor
    · rintro ⟨i, hi, e⟩
      obtain ⟨k, hk, e'⟩ := (h.has _).1 ⟨i, hi, rfl⟩
      exact ⟨k, hk, by rw [e', e]⟩
    · rintro ⟨i, hi, e⟩
      obtain ⟨k, hk, e'⟩ := (h.has _).2 ⟨i, hi, rfl⟩
      exact ⟨k, hk, by rw [e', e]⟩
  rw [this]
/-- the row in w' has the entries that it had in w, in some order -/
structure Mv (J : World → Prop) (X : Nat → Prop) (w : World) (o : Ro) (A : Ar) (w' : World) (A' : Ar) : Prop where
  rx : Rx w' o A'
  mix : A.Mix A'
  but : But (fun b => o.has A b ∨ X b) w w'
  j : J w'
section
variable {J : World → Prop} {K : Nat → World → Prop} {c c' : Nat} {X : Nat → Prop} {Ord : Prop} {g : Nat} {cs : Array Value} {w w' w2 : World} {o : Ro} {A A' : Ar}
theorem Mv.refl (x : Rx w o A) (hJ : J w) : Mv J X w o A w A := ⟨x, .refl A, But.refl _ _, hJ⟩
theorem Mv.less (m : Mv J X w o A w' A') (hX : ∀ b, X b → ¬ o.has A b) (hb : But X w' w2) {J2 : World → Prop} (hJ : J2 w2) : Mv J2 X w o A w2 A' :=
  ⟨m.rx.but hb (fun b hb' hx => hX b hx (m.mix.hs.1 hb')), m.mix, m.but.trans (hb.mono fun _ h => .inr h), hJ⟩
theorem Mv.le (L : Ls g cs K X Ord) (h : c ≤ c') (m : Mv (K c') X w o A w' A') : Mv (K c) X w o A w' A' := ⟨m.rx, m.mix, m.but, L.mt _ _ _ h m.j⟩
theorem Mv.swap (L : Ls g cs K X Ord) (m : Mv (K c) X w o A w' A') (hX : ∀ b, X b → ¬ o.has A b) {i j : Nat} (hi : i < A'.n) (hj : j < A'.n) (h : Goes w' o A' w2 o (A'.swap i j)) : Mv (K c) X w o A w2 (A'.swap i j) :=
  ⟨h.2.2.2.1, m.mix.trans (Ar.mix_swap hi hj), m.but.trans (h.2.2.2.2.1.mono fun _ h => .inl (m.mix.hs.1 h)), L.st _ _ _ m.j (h.2.2.2.2.1.mono fun b hb hx => hX b hx (m.mix.hs.1 hb))⟩
end

set_option maxHeartbeats 2000000 in
theorem eup (g : Nat) (cs : Array Value) (J : Nat → World → Prop) (c : Nat) (X : Nat → Prop) (Ord : Prop) (L : Ls g cs J X Ord) (o : Ro) (A : Ar) (j : Nat) (hj : j < A.n) (w : World) (x : Rx w o A) (hJ : J (c + (j + 1)) w) (hlv : o.lv = .func (.func g) #[] cs) (hX : ∀ b, X b → ¬ o.has A b) :
    Calls Try.prog 54 #[rI o.r, .int .i64 (j : Int)] w fun e w' => e = .returned (.tuple #[]) ∧ ∃ A', Mv (J c) X w o A w' A' ∧ (Ord → Upp A.f A.n j → Hp A'.f A.n) := by
  have HL : Hid (Ls g cs J X Ord) := L
  have H0 : Hid (Mv (J (c + (j + 1))) X w o A w A) := Mv.refl x hJ
  have HX : Hid (∀ b, X b → ¬ o.has A b) := hX
  have hl : j ≤ 1000000 := by have := x.ok.nl; have := x.ok.lb; omega
  have hm1 : ∀ W : World, (method 215 58 (ptr o.r) "Less").run Try.prog W = .ok (73, ptr o.r) W := fun W => by kernel_rfl
  have hm2 : ∀ W : World, (method 215 58 (ptr o.r) "Swap").run Try.prog W = .ok (49, ptr o.r) W := fun W => by kernel_rfl
  clear L x hJ hX
  go_enter Try.func54, Try.ntmps54
  go_wp2_with fail
  go_loopw [1] (fun v wr => ∃ (A' : Ar) (k : Nat), v = .int .i64 (k : Int) ∧ k < A.n ∧ k ≤ 1000000 ∧ Hid (Mv (J (c + (k + 1))) X w o A wr A') ∧ Hid (Ord → Upp A.f A.n j → Upp A'.f A.n k)) (fun v _ => (intOf v).toNat)
  case atStart => exact ⟨A, j, rfl, hj, hl, H0, fun _ h => h⟩
  case round =>
    obtain ⟨A', k, rfl, hk, hkl, HM, HU⟩ := hrel
    by_cases hk0 : k = 0
    · subst hk0
      go_wp2_with fail
      refine bodyPost_end (results_none rfl _ _ _) rfl ?_
      exact ⟨rfl, A', HM.out.le HL.out (by omega), fun h1 h2 => (HU.out h1 h2).hp (fun h => absurd h (by omega))⟩
    · obtain ⟨k, rfl⟩ : ∃ k', k = k' + 1 := ⟨k - 1, by omega⟩
      obtain ⟨i, hi⟩ : ∃ i, i = k / 2 := ⟨_, rfl⟩
      have hdi : (k : Int) / 2 = (i : Int) := by omega
      have hpi : Hid (par (k + 1) = i) := by show (k + 1 - 1) / 2 = i; rw [hi]; rfl
      have hik : ¬ (i : Int) = (k : Int) + 1 := by omega
      have hil : i < k + 1 := by omega
      clear hi
      have hn : A'.n = A.n := HM.out.mix.n
      have cL := eless g cs J (c + (k + 1)) X Ord HL.out o A' (k + 1) i (by omega) (by omega) wr HM.out.rx HM.out.j hlv (fun b hb h => HX.out b hb (HM.out.mix.hs.1 h))
      rw [show ((k + 1 : Nat) : Int) = (k : Int) + 1 from by omega] at cL
      go_wp2_with fail
      refine cL.mono ?_
      rintro e w2 ⟨t, rfl, ht, hb2, hJ2⟩
      have M2 : Hid (Mv (J (c + (k + 1))) X w o A w2 A') := HM.out.less HX.out hb2 hJ2
      clear cL hb2 hJ2 HM
      cases t
      · go_wp2_with fail
        refine bodyPost_end (results_none rfl _ _ _) rfl ?_
        refine ⟨rfl, A', M2.out.le HL.out (by omega), fun h1 h2 => (HU.out h1 h2).hp fun _ => ?_⟩
        rw [hpi.out]
        exact befB_not (ht h1).symm
      · have cS := eswap o A' i (k + 1) (by omega) (by omega) w2 M2.out.rx
        rw [show ((k + 1 : Nat) : Int) = (k : Int) + 1 from by omega] at cS
        go_wp2_with fail
        refine cS.mono ?_
        rintro e w3 ⟨rfl, hg3⟩
        have M3 : Hid (Mv (J (c + (i + 1))) X w o A w3 (A'.swap i (k + 1))) := (M2.out.swap HL.out HX.out (by omega) (by omega) hg3).le HL.out (by omega)
        have U3 : Hid (Ord → Upp A.f A.n j → Upp (A'.swap i (k + 1)).f A.n i) := fun h1 h2 => by
          have h := (HU.out h1 h2).up (by omega) hk (by rw [hpi.out]; exact (befB_iff _ _).1 (ht h1).symm)
          rw [hpi.out] at h
          exact h
        clear cS hg3 M2 HU
        go_wp2_with fail
        go_roundw
        case rel => exact ⟨_, i, rfl, by omega, by omega, M3, U3⟩
        case measure => simp [intOf]; omega
end Go.Proofs.Ytafcgbahdfaiiaa
