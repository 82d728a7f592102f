/- container/heap's down, over a row. (Written by wip/tools/edown.py.) -/
import Derived.Test.YtafcgbahdfaiiaaEUp
namespace Go.Proofs.Ytafcgbahdfaiiaa
open Go.RowKit Go.Sort
set_option maxRecDepth 100000

/-- what down leaves, and what it tells -/
def DnA (Ord : Prop) (A : Ar) (i : Nat) (A' : Ar) (t : Bool) : Prop := Ord → Fx A.f A.n i → (t = true → Hp A'.f A.n) ∧ (t = false → Upp A'.f A.n i)
def DnK (Ord : Prop) (A : Ar) (i : Nat) (A' : Ar) (k : Nat) : Prop := Ord → Fx A.f A.n i → Fx A'.f A.n k ∧ (k ≠ i → ¬ bef (A'.f k) (A'.f (par k)))
theorem DnK.stop {Ord : Prop} {A A' : Ar} {i k : Nat} (h : DnK Ord A i A' k) (hik : i ≤ k) (ho : Ord → ∀ c, 0 < c → c < A.n → par c = k → ¬ bef (A'.f c) (A'.f k)) : DnA Ord A i A' (decide (k > i)) := fun h1 h2 => by
  obtain ⟨h3, h4⟩ := h h1 h2
  have h5 := h3.stop (ho h1)
  refine ⟨fun h => h5.hp fun _ => h4 (by have := of_decide_eq_true h; omega), fun h => ?_⟩
  have : k = i := by have := of_decide_eq_false h; omega
  rwa [this] at h5
theorem DnK.down {Ord : Prop} {A A' : Ar} {i k j : Nat} (h : DnK Ord A i A' k) (j0 : 0 < j) (jn : j < A.n) (jp : par j = k) (hb : Ord → bef (A'.f j) (A'.f k)) (ho : Ord → ∀ c, 0 < c → c < A.n → par c = k → ¬ bef (A'.f c) (A'.f j)) : DnK Ord A i (A'.swap k j) j := fun h1 h2 => by
  obtain ⟨h5, h6⟩ := (h h1 h2).1.down j0 jn jp (hb h1) (ho h1)
  exact ⟨h5, fun _ => h6⟩
set_option maxHeartbeats 4000000 in
theorem edown (g : Nat) (cs : Array Value) (J : Nat → World → Prop) (c : Nat) (X : Nat → Prop) (Ord : Prop) (L : Ls g cs J X Ord) (o : Ro) (A : Ar) (i : Nat) (hi : i < A.n) (w : World) (x : Rx w o A) (hJ : J (c + 2 * (A.n - i)) w) (hlv : o.lv = .func (.func g) #[] cs) (hX : ∀ b, X b → ¬ o.has A b) :
    Calls Try.prog 55 #[rI o.r, .int .i64 (i : Int), .int .i64 (A.n : Int)] w fun e w' => ∃ t, e = .returned (.bool t) ∧ ∃ A', Mv (J c) X w o A w' A' ∧ DnA Ord A i A' t := by
  have HL : Hid (Ls g cs J X Ord) := L
  have H0 : Hid (Mv (J (c + 2 * (A.n - i))) X w o A w A) := Mv.refl x hJ
  have HX : Hid (∀ b, X b → ¬ o.has A b) := hX
  have hl : A.n ≤ 1000000 := by have := x.ok.nl; have := x.ok.lb; omega
  have hm1 : ∀ W : World, (method 215 58 (ptr o.r) "Less").run Try.prog W = .ok (73, ptr o.r) W := fun W => by kernel_rfl
  have hm2 : ∀ W : World, (method 215 58 (ptr o.r) "Swap").run Try.prog W = .ok (49, ptr o.r) W := fun W => by kernel_rfl
  clear L x hJ hX
  go_enter Try.func55, Try.ntmps55
  go_wp2_with fail
  go_loopw [7] (fun v wr => ∃ (A' : Ar) (k : Nat), v = .int .i64 (k : Int) ∧ k < A.n ∧ i ≤ k ∧ Hid (Mv (J (c + 2 * (A.n - k))) X w o A wr A') ∧ Hid (DnK Ord A i A' k)) (fun v _ => A.n - (intOf v).toNat)
  case atStart => exact ⟨A, i, rfl, hi, Nat.le_refl _, H0, fun _ h => ⟨h, fun h' => absurd rfl h'⟩⟩
  case round =>
    obtain ⟨A', k, rfl, hk, hik, HM, HK⟩ := hrel
    have hn : Hid (A'.n = A.n) := HM.out.mix.n
    obtain ⟨d, hd⟩ : ∃ d, A.n - k = d + 1 := ⟨A.n - k - 1, by omega⟩
    rw [show c + 2 * (A.n - k) = c + 2 * d + 1 + 1 from by omega] at HM
    obtain ⟨j1, hj1⟩ : ∃ j1, j1 = 2 * k + 1 := ⟨_, rfl⟩
    have hm : 2 * (k : Int) + 1 = (j1 : Int) := by omega
    have hkj : k < j1 := by omega
    have hch : Hid (∀ c, 0 < c → par c = k → c = j1 ∨ c = j1 + 1) := fun c h1 h2 => by unfold par at h2; omega
    have hp1 : Hid (0 < j1 ∧ par j1 = k) := ⟨by omega, by unfold par; omega⟩
    have hp2 : Hid (0 < j1 + 1 ∧ par (j1 + 1) = k) := ⟨by omega, by unfold par; omega⟩
    clear hj1
    by_cases hge : A.n ≤ j1
    · go_wp2_with fail
      go_ret
      refine ⟨_, rfl, A', HM.out.le HL.out (by omega), HK.out.stop hik fun _ c c0 cn cp => ?_⟩
      rcases hch.out c c0 cp with h | h <;> omega
    · have hXk := fun b hb h => HX.out b hb (HM.out.mix.hs.1 h)
      by_cases hj2 : j1 + 1 < A.n
      · have cL := eless g cs J (c + 2 * d + 1) X Ord HL.out o A' (j1 + 1) j1 (by have := hn.out; omega) (by have := hn.out; omega) wr HM.out.rx HM.out.j hlv hXk
        rw [show ((j1 + 1 : Nat) : Int) = (j1 : Int) + 1 from by omega] at cL
        go_wp2_with fail
        refine cL.mono ?_
        rintro e w2 ⟨t, rfl, ht, hb2, hJ2⟩
        have M2 : Hid (Mv (J (c + 2 * d + 1)) X w o A w2 A') := HM.out.less HX.out hb2 hJ2
        clear cL hb2 hJ2 HM hXk
        cases t
        · have HO : Hid (Ord → ∀ c, 0 < c → c < A.n → par c = k → ¬ bef (A'.f c) (A'.f j1)) := fun h c c0 cn cp => by
            rcases hch.out c c0 cp with rfl | rfl
            · exact bef_irr _
            · exact befB_not (ht h).symm
          clear ht
          have cL2 := eless g cs J (c + 2 * d) X Ord HL.out o A' j1 k (by have := hn.out; omega) (by have := hn.out; omega) w2 M2.out.rx M2.out.j hlv (fun b hb h => HX.out b hb (M2.out.mix.hs.1 h))
          go_wp2_with fail
          refine cL2.mono ?_
          rintro e w3 ⟨t3, rfl, ht3, hb3, hJ3⟩
          have M3 : Hid (Mv (J (c + 2 * d)) X w o A w3 A') := M2.out.less HX.out hb3 hJ3
          clear cL2 hb3 hJ3 M2
          cases t3
          · go_wp2_with fail
            go_ret
            refine ⟨_, rfl, A', M3.out.le HL.out (by omega), HK.out.stop hik fun h c c0 cn cp => ?_⟩
            exact bef_neg (HO.out h c c0 cn cp) (befB_not (ht3 h).symm)
          · have cS := eswap o A' k j1 (by have := hn.out; omega) (by have := hn.out; omega) w3 M3.out.rx
            go_wp2_with fail
            refine cS.mono ?_
            rintro e w4 ⟨rfl, hg4⟩
            have M4 : Hid (Mv (J (c + 2 * (A.n - j1))) X w o A w4 (A'.swap k j1)) := (M3.out.swap HL.out HX.out (by have := hn.out; omega) (by have := hn.out; omega) hg4).le HL.out (by omega)
            have K4 : Hid (DnK Ord A i (A'.swap k j1) j1) := HK.out.down hp1.out.1 (by omega) hp1.out.2 (fun h => (befB_iff _ _).1 (ht3 h).symm) HO.out
            clear cS hg4 M3 HK HO ht3
            go_wp2_with fail
            go_roundw
            case rel => exact ⟨_, j1, rfl, by omega, by omega, M4, K4⟩
            case measure => simp [intOf]; omega
        · have HO : Hid (Ord → ∀ c, 0 < c → c < A.n → par c = k → ¬ bef (A'.f c) (A'.f (j1 + 1))) := fun h c c0 cn cp => by
            rcases hch.out c c0 cp with rfl | rfl
            · exact bef_asym ((befB_iff _ _).1 (ht h).symm)
            · exact bef_irr _
          clear ht
          have cL2 := eless g cs J (c + 2 * d) X Ord HL.out o A' (j1 + 1) k (by have := hn.out; omega) (by have := hn.out; omega) w2 M2.out.rx M2.out.j hlv (fun b hb h => HX.out b hb (M2.out.mix.hs.1 h))
          rw [show ((j1 + 1 : Nat) : Int) = (j1 : Int) + 1 from by omega] at cL2
          go_wp2_with fail
          refine cL2.mono ?_
          rintro e w3 ⟨t3, rfl, ht3, hb3, hJ3⟩
          have M3 : Hid (Mv (J (c + 2 * d)) X w o A w3 A') := M2.out.less HX.out hb3 hJ3
          clear cL2 hb3 hJ3 M2
          cases t3
          · go_wp2_with fail
            go_ret
            refine ⟨_, rfl, A', M3.out.le HL.out (by omega), HK.out.stop hik fun h c c0 cn cp => ?_⟩
            exact bef_neg (HO.out h c c0 cn cp) (befB_not (ht3 h).symm)
          · have cS := eswap o A' k (j1 + 1) (by have := hn.out; omega) (by have := hn.out; omega) w3 M3.out.rx
            rw [show ((j1 + 1 : Nat) : Int) = (j1 : Int) + 1 from by omega] at cS
            go_wp2_with fail
            refine cS.mono ?_
            rintro e w4 ⟨rfl, hg4⟩
            have M4 : Hid (Mv (J (c + 2 * (A.n - (j1 + 1)))) X w o A w4 (A'.swap k (j1 + 1))) := (M3.out.swap HL.out HX.out (by have := hn.out; omega) (by have := hn.out; omega) hg4).le HL.out (by omega)
            have K4 : Hid (DnK Ord A i (A'.swap k (j1 + 1)) (j1 + 1)) := HK.out.down hp2.out.1 (by omega) hp2.out.2 (fun h => (befB_iff _ _).1 (ht3 h).symm) HO.out
            clear cS hg4 M3 HK HO ht3
            go_wp2_with fail
            go_roundw
            case rel => exact ⟨_, (j1 + 1), by go_num, by omega, by omega, M4, K4⟩
            case measure => simp [intOf]; omega
      · have M2 : Hid (Mv (J (c + 2 * d + 1)) X w o A wr A') := HM.out.le HL.out (by omega)
        have HO : Hid (Ord → ∀ c, 0 < c → c < A.n → par c = k → ¬ bef (A'.f c) (A'.f j1)) := fun h c c0 cn cp => by
          rcases hch.out c c0 cp with rfl | rfl
          · exact bef_irr _
          · omega
        clear HM hXk
        have cL2 := eless g cs J (c + 2 * d) X Ord HL.out o A' j1 k (by have := hn.out; omega) (by have := hn.out; omega) wr M2.out.rx M2.out.j hlv (fun b hb h => HX.out b hb (M2.out.mix.hs.1 h))
        go_wp2_with fail
        refine cL2.mono ?_
        rintro e w3 ⟨t3, rfl, ht3, hb3, hJ3⟩
        have M3 : Hid (Mv (J (c + 2 * d)) X w o A w3 A') := M2.out.less HX.out hb3 hJ3
        clear cL2 hb3 hJ3 M2
        cases t3
        · go_wp2_with fail
          go_ret
          refine ⟨_, rfl, A', M3.out.le HL.out (by omega), HK.out.stop hik fun h c c0 cn cp => ?_⟩
          exact bef_neg (HO.out h c c0 cn cp) (befB_not (ht3 h).symm)
        · have cS := eswap o A' k j1 (by have := hn.out; omega) (by have := hn.out; omega) w3 M3.out.rx
          go_wp2_with fail
          refine cS.mono ?_
          rintro e w4 ⟨rfl, hg4⟩
          have M4 : Hid (Mv (J (c + 2 * (A.n - j1))) X w o A w4 (A'.swap k j1)) := (M3.out.swap HL.out HX.out (by have := hn.out; omega) (by have := hn.out; omega) hg4).le HL.out (by omega)
          have K4 : Hid (DnK Ord A i (A'.swap k j1) j1) := HK.out.down hp1.out.1 (by omega) hp1.out.2 (fun h => (befB_iff _ _).1 (ht3 h).symm) HO.out
          clear cS hg4 M3 HK HO ht3
          go_wp2_with fail
          go_roundw
          case rel => exact ⟨_, j1, rfl, by omega, by omega, M4, K4⟩
          case measure => simp [intOf]; omega
end Go.Proofs.Ytafcgbahdfaiiaa
