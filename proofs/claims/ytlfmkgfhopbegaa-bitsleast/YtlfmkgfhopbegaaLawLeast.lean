/- PROVED: for all rows a and b the statement BitsLeast returns true: the closure has the relation and each member with itself, is transitive, and whatever else is so has it (P1.6). No condition. -/
import Derived.Test.YtlfmkgfhopbegaaRows
import Derived.Test.YtlfmkgfhopbegaaRefClo2
import Derived.Test.YtlfmkgfhopbegaaRow
import Derived.ProofKit
import Derived.ShutString
import Derived.ChangeOld
namespace Go.Proofs.Ytlfmkgfhopbegaa.bitsLeast
open Go.ChangeShapes Go.WideShapes Go.ChangeAt Go.RowKit

theorem own : ownKnob Try.prog.godebug = none := by kernel_rfl
theorem laidOut : laidOutB Try.prog = true := by kernel_rfl

theorem tb_thenRow (y : Nat → Int) (j : Nat) (l : List Nat) : tb (thenRow l y) j = true ↔ ∃ x, x ∈ l ∧ tb (y x) j = true := by
  have key : ∀ (l : List Nat) (acc : Int), tb (l.foldl (fun acc x => orI acc (y x)) acc) j = true ↔ tb acc j = true ∨ ∃ x, x ∈ l ∧ tb (y x) j = true := by
    intro l
    induction l with
    | nil => intro acc; simp
    | cons x l ih =>
      intro acc
      show tb (l.foldl (fun acc x => orI acc (y x)) (orI acc (y x))) j = true ↔ _
      rw [ih, tb_orI, Bool.or_eq_true]
      constructor
      · rintro ((h | h) | ⟨q, h1, h2⟩)
        · exact .inl h
        · exact .inr ⟨x, by simp, h⟩
        · exact .inr ⟨q, by simp [h1], h2⟩
      · rintro (h | ⟨q, h1, h2⟩)
        · exact .inl (.inl h)
        · rcases List.mem_cons.1 h1 with rfl | h1
          · exact .inl (.inr h2)
          · exact .inr ⟨q, h1, h2⟩
  have := key l 0
  rw [tb_zero] at this
  simpa [thenRow] using this
theorem tb_thenTo (z y : Nat → Int) (n i j : Nat) (hi : i < n) : tb (thenTo z y n i) j = true ↔ ∃ x, x < 64 ∧ tb (z i) x = true ∧ tb (y x) j = true := by
  unfold thenTo
  rw [if_pos hi, tb_thenRow]
  constructor
  · rintro ⟨x, h1, h2⟩; exact ⟨x, (mem_mems.1 h1).1, (mem_mems.1 h1).2, h2⟩
  · rintro ⟨x, h1, h2, h3⟩; exact ⟨x, mem_mems.2 ⟨h1, h2⟩, h3⟩
theorem lt64 {r : Int} (h : r < 18446744073709551616) {j : Nat} (hj : tb r j = true) : j < 64 := by
  by_cases h' : j < 64
  · exact h'
  · rw [tb_ge h (by omega)] at hj; cases hj
theorem chk_in {n : Nat} {z : Nat → Int} (h : chkI n z = 0) (hz : ∀ j, j < n → 0 ≤ z j ∧ z j < 18446744073709551616) : ∀ i j, i < n → tb (z i) j = true → j < n :=
  fun i _ hi ht => chk_row h hi (lt64 (hz i hi).2 ht) ht
theorem chk_clo {n : Nat} {z : Nat → Int} (h : chkI n z = 0) (hz : ∀ j, j < n → 0 ≤ z j ∧ z j < 18446744073709551616) : chkI n (clo n z) = 0 := by
  have hn := (chk_ok h).1
  have hb : chkB n (clo n z) = true := chkB_iff.2 fun i _ => rowOk_iff.2 fun j _ ht => clo_in hn hz (chk_in h hz) ht
  simp [chkI, hb, show ¬ 64 < n by omega]
theorem then_clo {n : Nat} {z : Nat → Int} (h : chkI n z = 0) (hz : ∀ j, j < n → 0 ≤ z j ∧ z j < 18446744073709551616) : ∀ i, i < n → clo n z i = thenTo (clo n z) (clo n z) n i := by
  have hn := (chk_ok h).1
  intro i hi
  have hbd := clo_bd hn hz
  have hin : ∀ i j, tb (clo n z i) j = true → j < n := fun _ _ ht => clo_in hn hz (chk_in h hz) ht
  have hrow : 0 ≤ thenTo (clo n z) (clo n z) n i := by
    unfold thenTo; rw [if_pos hi]
    exact (thenRow_bd (n := n) (fun j _ => hbd j) _ (fun x hx => hin i x (mem_mems.1 hx).2)).1
  refine eq_of_tb (hbd i).1 hrow fun j => ?_
  rw [Bool.eq_iff_iff, tb_thenTo _ _ _ _ _ hi]
  constructor
  · intro ht; exact ⟨i, by omega, clo_refl hn hz hi, ht⟩
  · rintro ⟨x, _, h1, h2⟩; exact clo_trans hn hz hi (hin i x h1) h1 h2
theorem within_clo {n : Nat} {z : Nat → Int} (h : chkI n z = 0) (hz : ∀ j, j < n → 0 ≤ z j ∧ z j < 18446744073709551616) : withinB n n z (clo n z) = true := by
  have hs : subAll n n z (clo n z) = true := subAll_iff.2 fun i hi _ => subB_iff.2 fun j _ ht => clo_has (chk_ok h).1 hz hi ht
  simp [withinB, hs]
theorem within_least {n : Nat} {z y : Nat → Int} (h : chkI n z = 0) (hz : ∀ j, j < n → 0 ≤ z j ∧ z j < 18446744073709551616) (hy : ∀ j, j < n → 0 ≤ y j ∧ y j < 18446744073709551616)
    (hw : withinB n n z y = true) (hr : ∀ i, i < n → tb (y i) i = true) (ht : withinB n n (thenTo y y n) y = true) : withinB n n (clo n z) y = true := by
  have hn := (chk_ok h).1
  have h1 : subAll n n z y = true := by simpa [withinB] using hw
  have h2 : subAll n n (thenTo y y n) y = true := by simpa [withinB] using ht
  have hs : subAll n n (clo n z) y = true := subAll_iff.2 fun i hi _ => subB_iff.2 fun j _ hj => by
    refine (clo_least hn hz (fun i j => tb (y i) j = true) ?_ hr ?_ hj).2
    · intro i j hi hij
      exact subB_iff.1 (subAll_iff.1 h1 i hi hi) j (lt64 (hz i hi).2 hij) hij
    · intro i m j hi hm him hmj
      have hj64 := lt64 (hy m hm).2 hmj
      exact subB_iff.1 (subAll_iff.1 h2 i hi hi) j hj64 ((tb_thenTo y y n i j hi).2 ⟨m, by omega, him, hmj⟩)
  simp [withinB, hs]
theorem thenTo_bd {n : Nat} {y : Nat → Int} (hk : chkI n y = 0) (hy : ∀ j, j < n → 0 ≤ y j ∧ y j < 18446744073709551616) : ∀ j, j < n → 0 ≤ thenTo y y n j ∧ thenTo y y n j < 18446744073709551616 := fun j hj => by
  unfold thenTo; rw [if_pos hj]
  exact thenRow_bd hy _ (fun x hx => chk_in hk hy j x hj (mem_mems.1 hx).2)

set_option maxRecDepth 100000 in
set_option maxHeartbeats 4000000 in
theorem walk_bad (a b : Option Addr) (la lb ca cb n m : Nat) (c : Int) (z : Nat → Int) (w : World) (hc0 : c ≠ 0)
    (hfa : ∀ w, Calls Try.prog 24 #[.slice a la ca] w fun e w' => e = .returned (.slice a n ca) ∧ w' = w)
    (hfb : ∀ w, Calls Try.prog 24 #[.slice b lb cb] w fun e w' => e = .returned (.slice b m cb) ∧ w' = w)
    (hcl : ∀ w', Cells w' .u64 a n z → Calls Try.prog 32 #[.slice a n ca] w' (Gives w' c n (clo n z)))
    (hrc : ∀ w', Cells w' .u64 a n z → Calls Try.prog 30 #[.slice a n ca] w' fun e w'' => e = .returned (.int .i64 c) ∧ Below w'.heap.size w' w'')
    (ha : Cells w .u64 a n z) :
    Calls Try.prog 8 #[.slice a la ca, .slice b lb cb] w fun e w' => e = .returned (.bool true) ∧ Below w.heap.size w w' := by
  have HA : Hid (Cells w .u64 a n z) := ha
  have HF : Hid (∀ w, Calls Try.prog 24 #[.slice a la ca] w fun e w' => e = .returned (.slice a n ca) ∧ w' = w) := hfa
  have HG : Hid (∀ w, Calls Try.prog 24 #[.slice b lb cb] w fun e w' => e = .returned (.slice b m cb) ∧ w' = w) := hfb
  have HL : Hid (∀ w', Cells w' .u64 a n z → Calls Try.prog 32 #[.slice a n ca] w' (Gives w' c n (clo n z))) := hcl
  have HR : Hid (∀ w', Cells w' .u64 a n z → Calls Try.prog 30 #[.slice a n ca] w' fun e w'' => e = .returned (.int .i64 c) ∧ Below w'.heap.size w' w'') := hrc
  have hne : (c != 0) = true := by simp [hc0]
  have HE : Hid (lenIf c n = 0) := by show _ = _; simp [lenIf, hc0]
  clear ha hfa hfb hcl hrc hc0
  go_enter Try.func8, Try.ntmps8
  go_wp2_with fail
  refine (HF.out _).mono ?_
  rintro e w1 ⟨rfl, e1⟩
  subst e1
  go_wp2_with fail
  refine (HG.out _).mono ?_
  rintro e w2 ⟨rfl, e2⟩
  subst e2
  go_wp2_with fail
  refine (HL.out _ HA.out).mono ?_
  rintro e w3 ⟨x1, cx1, rfl, _, h3⟩
  go_wp2_with fail
  refine (HR.out _ (HA.out.below h3)).mono ?_
  rintro e w4 ⟨rfl, h4⟩
  have hb4 := Below.onto h3 h4
  go_wp2_with fail
  refine (alive_any _).mono ?_
  rintro e w5 ⟨rfl, h5⟩
  go_wp2_with fail
  go_ret
  exact ⟨rfl, Below.onto hb4 h5⟩

set_option maxRecDepth 100000 in
set_option maxHeartbeats 8000000 in
theorem walk_ok (a b : Option Addr) (la lb ca cb n m : Nat) (z y : Nat → Int) (w : World) (hm66 : m ≤ 66) (hk : chkI n z = 0)
    (hfa : ∀ w, Calls Try.prog 24 #[.slice a la ca] w fun e w' => e = .returned (.slice a n ca) ∧ w' = w)
    (hfb : ∀ w, Calls Try.prog 24 #[.slice b lb cb] w fun e w' => e = .returned (.slice b m cb) ∧ w' = w)
    (hz : ∀ j, j < n → 0 ≤ z j ∧ z j < 18446744073709551616) (hy : ∀ j, j < m → 0 ≤ y j ∧ y j < 18446744073709551616)
    (ha : Cells w .u64 a n z) (hb : Cells w .u64 b m y) :
    Calls Try.prog 8 #[.slice a la ca, .slice b lb cb] w fun e w' => e = .returned (.bool true) ∧ Below w.heap.size w w' := by
  have hn := (chk_ok hk).1
  have hbd := clo_bd hn hz
  have HA : Hid (Cells w .u64 a n z) := ha
  have HB : Hid (Cells w .u64 b m y) := hb
  have HF : Hid (∀ w, Calls Try.prog 24 #[.slice a la ca] w fun e w' => e = .returned (.slice a n ca) ∧ w' = w) := hfa
  have HG : Hid (∀ w, Calls Try.prog 24 #[.slice b lb cb] w fun e w' => e = .returned (.slice b m cb) ∧ w' = w) := hfb
  have hl0 : lenIf 0 n = n := by simp [lenIf]
  have HL : Hid (∀ w', Cells w' .u64 a n z → Calls Try.prog 32 #[.slice a n ca] w' (Gives w' 0 n (clo n z))) := fun w' h => by
    have := closure_un a n ca z w' (by omega) h hz
    rwa [hk] at this
  have HT : Hid (∀ x cx w', Cells w' .u64 x n (clo n z) → Calls Try.prog 27 #[.slice x n cx, .slice x n cx] w' (Gives w' 0 n (clo n z))) := fun x cx w' h => by
    have h1 := then_un x x n n cx cx (clo n z) (clo n z) w' (by omega) (by omega) h h (fun j _ => hbd j) (fun j _ => hbd j)
    rw [thenE_ok.2 ⟨chk_clo hk hz, chk_clo hk hz, rfl⟩] at h1
    refine h1.mono ?_
    rintro e w'' ⟨p, cp, rfl, hp, hb⟩
    exact ⟨p, cp, rfl, hp.congr (fun j hj => (then_clo hk hz j (by rw [hl0] at hj; exact hj)).symm), hb⟩
  have HW1 : Hid (∀ x cx w', Cells w' .u64 a n z → Cells w' .u64 x n (clo n z) → Calls Try.prog 36 #[.slice a n ca, .slice x n cx] w' fun e w'' => e = .returned (.bool true) ∧ w'' = w') := fun x cx w' h h' => by
    have h1 := within_any a x n n ca cx z (clo n z) w' (by omega) (by omega) h h' hz (fun j _ => hbd j)
    rwa [within_clo hk hz] at h1
  have HRB : Hid (∀ w', Cells w' .u64 b m y → Calls Try.prog 30 #[.slice b m cb] w' fun e w'' => e = .returned (.int .i64 (chkI m y)) ∧ Below w'.heap.size w' w'') := fun w' h => rcheck_any b m cb y w' (by omega) h hy
  have HW2 : Hid (∀ w', Cells w' .u64 a n z → Cells w' .u64 b m y → Calls Try.prog 36 #[.slice a n ca, .slice b m cb] w' fun e w'' => e = .returned (.bool (withinB n m z y)) ∧ w'' = w') := fun w' h h' => within_any a b n m ca cb z y w' (by omega) (by omega) h h' hz hy
  have HREF : Hid (∀ i, i < n → tb (clo n z i) i = true) := fun i hi => clo_refl hn hz hi
  have HBD : Hid (Bd (clo n z)) := hbd
  have HY : Hid (∀ j, j < m → 0 ≤ y j ∧ y j < 18446744073709551616) := hy
  have HZ : Hid (∀ j, j < n → 0 ≤ z j ∧ z j < 18446744073709551616) := hz
  have HK : Hid (chkI n z = 0) := hk
  clear ha hb hfa hfb hbd hz hy hk
  go_enter Try.func8, Try.ntmps8
  go_wp2_with fail
  refine (HF.out _).mono ?_
  rintro e w1 ⟨rfl, e1⟩
  subst e1
  go_wp2_with fail
  refine (HG.out _).mono ?_
  rintro e w2 ⟨rfl, e2⟩
  subst e2
  go_wp2_with fail
  refine (HL.out _ HA.out).mono ?_
  rintro e w3 ⟨x, cx, rfl, hx, h3⟩
  rw [hl0] at hx
  rw [hl0]
  have HX : Hid (Cells w3 .u64 x n (clo n z)) := hx
  clear hx
  go_wp2_with fail
  refine (HT.out x cx _ HX.out).mono ?_
  rintro e w4 ⟨p, cp, rfl, hp, h4⟩
  rw [hl0] at hp
  rw [hl0]
  have HP : Hid (Cells w4 .u64 p n (clo n z)) := hp
  have HX4 : Hid (Cells w4 .u64 x n (clo n z)) := HX.out.below h4
  have hb4 := Below.onto h3 h4
  clear hp h3 h4 HX
  go_wp2_with fail
  refine (rsame_true x p n cx cp _ _ _ (by omega) HX4.out HP.out (fun _ _ => rfl)).mono ?_
  rintro e w5 ⟨rfl, h5⟩
  have HX5 : Hid (Cells w5 .u64 x n (clo n z)) := HX4.out.below h5
  have hb5 := Below.onto hb4 h5
  clear h5 hb4 HX4 HP
  go_wp2_with fail
  refine (HW1.out x cx _ (HA.out.below hb5) HX5.out).mono ?_
  rintro e w6 ⟨rfl, e6⟩
  subst e6
  go_wp2_with fail
  go_loop [9] (fun i => ∃ k : Nat, k ≤ n ∧ i = .int .i64 k) (fun i => n - (intOf i).toNat)
  case atStart => exact ⟨0, Nat.zero_le _, rfl⟩
  case round =>
    obtain ⟨k, hk, rfl⟩ := hrel
    by_cases hlt : k < n
    · obtain ⟨bx, ox, rfl, hcell⟩ := HX5.out k hlt
      have hh := fun w => rhas_at (clo n z k) k w (HBD.out k).1 (HBD.out k).2 (by omega) true (HREF.out k hlt)
      generalize clo n z k = R at *
      go_wp2_with (go_at_call 15; refine (hh _).mono ?_; rintro e w7 ⟨rfl, hw⟩; subst hw)
      go_round
      case rel => exact ⟨k + 1, by omega, by go_num⟩
      case measure => simp [intOf]; omega
    · obtain rfl : k = n := by omega
      clear hlt hk
      cases hbk : (chkI m y != 0)
      · have hk2 : chkI m y = 0 := by simpa using hbk
        have hm64 := (chk_ok hk2).1
        rw [hk2] at HRB
        cases hbw : withinB k m z y
        · rw [hbw] at HW2
          clear hbk hbw
          go_wp2_with fail
          refine (HRB.out _ (HB.out.below hb5)).mono ?_
          rintro e w8 ⟨rfl, h8⟩
          have hb8 := Below.onto hb5 h8
          go_wp2_with fail
          refine (HW2.out _ (HA.out.below hb8) (HB.out.below hb8)).mono ?_
          rintro e w9 ⟨rfl, e9⟩
          subst e9
          go_wp2_with fail
          refine (alive_any _).mono ?_
          rintro e w10 ⟨rfl, h10⟩
          go_wp2_with fail
          go_ret
          exact ⟨rfl, Below.onto hb8 h10⟩
        · have hkm : k = m := by
            have := hbw
            simp [withinB] at this; exact this.2
          subst hkm
          have HWZ : Hid (withinB k k z y = true) := hbw
          rw [hbw] at HW2
          have HK2 : Hid (chkI k y = 0) := hk2
          clear hbk hbw hk2
          go_wp2_with fail
          refine (HRB.out _ (HB.out.below hb5)).mono ?_
          rintro e w8 ⟨rfl, h8⟩
          have hb8 := Below.onto hb5 h8
          have HX8 : Hid (Cells w8 .u64 x k (clo k z)) := HX5.out.below h8
          clear h8 hb5 HX5
          go_wp2_with fail
          refine (HW2.out _ (HA.out.below hb8) (HB.out.below hb8)).mono ?_
          rintro e w9 ⟨rfl, e9⟩
          subst e9
          go_wp2_with fail
          go_loop [10] (fun i => ∃ q : Nat, q ≤ k ∧ i = .int .i64 q ∧ Hid (∀ j, j < q → tb (y j) j = true)) (fun i => k - (intOf i).toNat)
          case atStart => exact ⟨0, Nat.zero_le _, rfl, fun j hj => absurd hj (by omega)⟩
          case round =>
            obtain ⟨q, hq, rfl, hall⟩ := hrel
            by_cases hlq : q < k
            · obtain ⟨by1, oy, rfl, hcell⟩ := HB.out.below hb8 q hlq
              obtain ⟨hy0, hy1⟩ := HY.out q hlq
              cases ht : tb (y q) q
              · have hh := fun w => rhas_at (y q) q w hy0 hy1 (by omega) false ht
                clear ht
                go_wp2_with (first | (go_at_call 15; refine (hh _).mono ?_; rintro e w10 ⟨rfl, hw⟩; subst hw) | (go_at_call 18; refine (alive_any _).mono ?_; rintro e w11 ⟨rfl, h11⟩))
                go_ret
                exact ⟨rfl, Below.onto hb8 h11⟩
              · have hh := fun w => rhas_at (y q) q w hy0 hy1 (by omega) true ht
                have HQ : Hid (tb (y q) q = true) := ht
                clear ht
                go_wp2_with (go_at_call 15; refine (hh _).mono ?_; rintro e w10 ⟨rfl, hw⟩; subst hw)
                go_round
                case rel =>
                  refine ⟨q + 1, by omega, by go_num, ?_⟩
                  intro j hj
                  by_cases e : j = q
                  · subst e; exact HQ.out
                  · exact hall.out j (by omega)
                case measure => simp [intOf]; omega
            · obtain rfl : q = k := by omega
              have HTW : Hid (∀ w', Cells w' .u64 b q y → Calls Try.prog 28 #[.slice b q cb, .slice b q cb] w' (Gives w' 0 q (thenTo y y q))) := fun w' h => by
                have h1 := rthen_un b b q q cb cb y y w' (by omega) (by omega) h h HY.out HY.out
                rwa [thenE_ok.2 ⟨HK2.out, HK2.out, rfl⟩] at h1
              have HWA : Hid (∀ p cp w', Cells w' .u64 p q (thenTo y y q) → Cells w' .u64 b q y → Calls Try.prog 36 #[.slice p q cp, .slice b q cb] w' fun e w'' => e = .returned (.bool (withinB q q (thenTo y y q) y)) ∧ w'' = w') := fun p cp w' h h' =>
                within_any p b q q cp cb _ y w' (by omega) (by omega) h h' (thenTo_bd HK2.out HY.out) HY.out
              have HWC : Hid (withinB q q (thenTo y y q) y = true → ∀ w', Cells w' .u64 x q (clo q z) → Cells w' .u64 b q y → Calls Try.prog 36 #[.slice x q cx, .slice b q cb] w' fun e w'' => e = .returned (.bool true) ∧ w'' = w') := fun ht w' h h' => by
                have h1 := within_any x b q q cx cb (clo q z) y w' (by omega) (by omega) h h' (fun j _ => HBD.out j) HY.out
                rwa [within_least HK.out HZ.out HY.out HWZ.out hall.out ht] at h1
              go_wp2_with fail
              refine (HTW.out _ (HB.out.below hb8)).mono ?_
              rintro e w10 ⟨p, cp, rfl, hp, h10⟩
              rw [hl0] at hp
              rw [hl0]
              have HP : Hid (Cells w10 .u64 p q (thenTo y y q)) := hp
              have hb10 := Below.onto hb8 h10
              have HX10 : Hid (Cells w10 .u64 x q (clo q z)) := HX8.out.below h10
              clear hp h10
              go_wp2_with fail
              refine (HWA.out p cp _ HP.out (HB.out.below hb10)).mono ?_
              rintro e w11 ⟨rfl, e11⟩
              subst e11
              cases hw : withinB q q (thenTo y y q) y
              · clear hw
                go_wp2_with fail
                refine (alive_any _).mono ?_
                rintro e w12 ⟨rfl, h12⟩
                go_wp2_with fail
                go_ret
                exact ⟨rfl, Below.onto hb10 h12⟩
              · have hwc := HWC.out hw
                clear hw
                go_wp2_with fail
                refine (hwc _ HX10.out (HB.out.below hb10)).mono ?_
                rintro e w12 ⟨rfl, e12⟩
                subst e12
                go_wp2_with fail
                refine (alive_any _).mono ?_
                rintro e w13 ⟨rfl, h13⟩
                go_wp2_with fail
                go_ret
                exact ⟨rfl, Below.onto hb10 h13⟩
      · go_wp2_with fail
        refine (HRB.out _ (HB.out.below hb5)).mono ?_
        rintro e w8 ⟨rfl, h8⟩
        have hb8 := Below.onto hb5 h8
        go_wp2_with fail
        refine (alive_any _).mono ?_
        rintro e w10 ⟨rfl, h10⟩
        go_wp2_with fail
        go_ret
        exact ⟨rfl, Below.onto hb8 h10⟩

theorem walk (a b : Option Addr) (la lb ca cb : Nat) (z y : Nat → Int) (w : World) (ra : IsRow .u64 w a la ca z) (rb : IsRow .u64 w b lb cb y) :
    Calls Try.prog 8 #[.slice a la ca, .slice b lb cb] w fun e w' => e = .returned (.bool true) ∧ Below w.heap.size w w' := by
  obtain ⟨n, hn⟩ : ∃ n, n = min la 66 := ⟨_, rfl⟩
  obtain ⟨m, hm⟩ : ∃ m, m = min lb 66 := ⟨_, rfl⟩
  have ha : Cells w .u64 a n z := ra.1.mono (by omega)
  have hb : Cells w .u64 b m y := rb.1.mono (by omega)
  have hz : ∀ j, j < n → 0 ≤ z j ∧ z j < 18446744073709551616 := fun j hj => ra.u64 j (by omega)
  have hy : ∀ j, j < m → 0 ≤ y j ∧ y j < 18446744073709551616 := fun j hj => rb.u64 j (by omega)
  have hfa := fun w => few_any a la ca w ra.2.2.1 ra.2.1
  have hfb := fun w => few_any b lb cb w rb.2.2.1 rb.2.1
  rw [← hn] at hfa
  rw [← hm] at hfb
  by_cases hk : chkI n z = 0
  · exact walk_ok a b la lb ca cb n m z y w (by omega) hk hfa hfb hz hy ha hb
  · exact walk_bad a b la lb ca cb n m (chkI n z) z w hk hfa hfb (fun w' h => closure_un a n ca z w' (by omega) h hz) (fun w' h => rcheck_any a n ca z w' (by omega) h hz) ha

set_option maxRecDepth 100000 in
theorem lifted (os : Os) (started : os.Started) (H : Type) (enc : TypeId × Value → H) :
    ReturnsInHanded {} Try.checked os 8 .any (Rows.bitsLeastSpec.pre6 enc Try.prog Try.f8 Rows.bitsLeastRow.domain false) (Rows.bitsLeastSpec.post enc Try.prog Try.f8 false true false false) := by
  refine returnsInHanded_of_change (C := Try.checked) own started (by kernel_rfl) Try.func8
    (ChangeSpec.witness6 (enc := enc) (C := Try.checked) false ⟨#[], #[.slice none 0 0, .slice none 0 0], []⟩ 8 (by kernel_rfl) (by kernel_rfl) (by kernel_rfl) (by kernel_rfl)) ?_
  intro W base args ds gs before hval0 hW hcnd _
  have hval : ∀ (j : Nat) t v, Try.f8.params[j]? = some t → args[j]? = some v → Value.okWide Try.prog W .any base t v := hval0
  have hW' := hW
  obtain ⟨p, q, hA0, hV, rfl, hfz, hnd⟩ := hW
  have hA : DataW.TrodAll enc Try.prog W 0 (fun _ => true) true Try.f8.params.toList args.toList ds p := hA0
  rw [Try.params8] at hA hval
  obtain ⟨v0, vs0, d0, ds0, p0, q0, hargs, rfl, rfl, h0, r0⟩ := trodAll_cons hA
  obtain ⟨v1, vs1, d1, ds1, p1, q1, rfl, rfl, rfl, h1, r1⟩ := trodAll_cons r0
  obtain ⟨rfl, rfl, rfl⟩ := trodAll_nil r1
  obtain rfl : args = #[v0, v1] := by cases args; simp_all
  obtain ⟨rfl, rfl⟩ := trodVars_none hV
  obtain ⟨a0, len0, cap0, rfl⟩ := okWide_slice Try.underlying42 (hval 0 42 v0 rfl rfl)
  have k0 := h0
  have lt0 : ∀ x ∈ p0, x.block < W.heap.size := by obtain ⟨m, hm⟩ := k0; exact DataW.trod_lt m _ _ _ hm
  obtain ⟨z0, w0⟩ : ∃ z, IsRow .u64 W a0 len0 cap0 z := by
    obtain ⟨fuel, hf⟩ := h0
    rcases open_ints Try.underlying42 Try.underlying23 (by kernel_rfl) hf with ⟨hcs, _⟩ | ⟨x, l, c, zs, hcs, _, hl, hm, hz, _, hcell, hwz⟩
    · simp [Value.cells] at hcs
      obtain ⟨rfl, rfl, rfl⟩ := hcs
      exact ⟨_, isRow_nil _ _⟩
    · simp [Value.cells] at hcs
      obtain ⟨rfl, rfl, rfl⟩ := hcs
      exact ⟨_, isRow_some hl hm (by simpa using hz) hcell hwz⟩
  obtain ⟨a1, len1, cap1, rfl⟩ := okWide_slice Try.underlying42 (hval 1 42 v1 rfl rfl)
  have k1 := h1
  have lt1 : ∀ x ∈ p1, x.block < W.heap.size := by obtain ⟨m, hm⟩ := k1; exact DataW.trod_lt m _ _ _ hm
  obtain ⟨z1, w1⟩ : ∃ z, IsRow .u64 W a1 len1 cap1 z := by
    obtain ⟨fuel, hf⟩ := h1
    rcases open_ints Try.underlying42 Try.underlying23 (by kernel_rfl) hf with ⟨hcs, _⟩ | ⟨x, l, c, zs, hcs, _, hl, hm, hz, _, hcell, hwz⟩
    · simp [Value.cells] at hcs
      obtain ⟨rfl, rfl, rfl⟩ := hcs
      exact ⟨_, isRow_nil _ _⟩
    · simp [Value.cells] at hcs
      obtain ⟨rfl, rfl, rfl⟩ := hcs
      exact ⟨_, isRow_some hl hm (by simpa using hz) hcell hwz⟩
  clear hA0 hval0
  refine (walk a0 a1 len0 len1 cap0 cap1 z0 z1 W w0 w1).mono fun e W' ⟨he, bel⟩ => ?_
  subst he
  exact ⟨_, rfl, _, _, _, [], _, [], hW', trodAll_mk1 (shut_bool Try.underlying4 _), (trodAll_cons_mk (Below.trod laidOut (by kernel_rfl) (of_decide_eq_true (by kernel_rfl)) k0 bel lt0) (trodAll_cons_mk (Below.trod laidOut (by kernel_rfl) (of_decide_eq_true (by kernel_rfl)) k1 bel lt1) trodAll_mk0)), rfl, bel.frame _, fun h => by cases h⟩

end Go.Proofs.Ytlfmkgfhopbegaa.bitsLeast
namespace Go.Proofs.Ytlfmkgfhopbegaa

/-- The statement BitsLeast. -/
theorem BitsLeastHolds : Rows.BitsLeastSaid :=
  OpenClaim.holds_of_wide 8 Try.f8 rfl rfl rfl rfl rfl rfl rfl ⟨rfl, rfl, rfl, rfl, rfl⟩ rfl rfl rfl rfl rfl (by kernel_rfl) Try.func8 (by kernel_rfl)
    (of_decide_eq_true (by kernel_rfl)) (by unfold Func.isWrapper; first | (rw [if_pos (by decide +kernel)]; kernel_rfl) | (rw [if_neg (by decide +kernel)]; exact ⟨rfl, rfl⟩))
    (fun os started H enc _ => bitsLeast.lifted os started H enc)

end Go.Proofs.Ytlfmkgfhopbegaa
