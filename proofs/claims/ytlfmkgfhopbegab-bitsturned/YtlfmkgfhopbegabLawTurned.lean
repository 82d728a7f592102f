/- PROVED: for all rows a and b the statement BitsTurned returns true: a relation turned around twice is what it was, and a row of steps, turned around, is the turned steps in the other order (P1.7). No condition. -/
import Derived.Test.YtlfmkgfhopbegabRows
import Derived.Test.YtlfmkgfhopbegabUn
import Derived.Test.YtlfmkgfhopbegabTurnMath
import Derived.Test.YtlfmkgfhopbegabRow
import Derived.ProofKit
import Derived.ShutString
import Derived.ChangeOld
namespace Go.Proofs.Ytlfmkgfhopbegab.bitsTurned
open Go.ChangeShapes Go.WideShapes Go.ChangeAt Go.RowKit

theorem own : ownKnob Try.prog.godebug = none := by kernel_rfl
theorem laidOut : laidOutB Try.prog = true := by kernel_rfl

set_option maxRecDepth 100000 in
set_option maxHeartbeats 4000000 in
theorem walk_ok (a b : Option Addr) (la lb ca cb n : Nat) (z y : Nat → Int) (w : World) (hk : chkI n z = 0) (hl : chkI n y = 0)
    (hfa : ∀ w, Calls Try.prog 5 #[.slice a la ca] w fun e w' => e = .returned (.slice a n ca) ∧ w' = w)
    (hfb : ∀ w, Calls Try.prog 5 #[.slice b lb cb] w fun e w' => e = .returned (.slice b n cb) ∧ w' = w)
    (hz : ∀ j, j < n → 0 ≤ z j ∧ z j < 18446744073709551616) (hy : ∀ j, j < n → 0 ≤ y j ∧ y j < 18446744073709551616)
    (ha : Cells w .u64 a n z) (hb : Cells w .u64 b n y) :
    Calls Try.prog 3 #[.slice a la ca, .slice b lb cb] w fun e w' => e = .returned (.bool true) ∧ Below w.heap.size w w' := by
  have hn := (chk_ok hk).1
  have HA : Hid (Cells w .u64 a n z) := ha
  have HB : Hid (Cells w .u64 b n y) := hb
  have HF : Hid (∀ w, Calls Try.prog 5 #[.slice a la ca] w fun e w' => e = .returned (.slice a n ca) ∧ w' = w) := hfa
  have HG : Hid (∀ w, Calls Try.prog 5 #[.slice b lb cb] w fun e w' => e = .returned (.slice b n cb) ∧ w' = w) := hfb
  have hl0 : lenIf 0 n = n := by simp [lenIf]
  have hct : thenE n n z y = 0 := thenE_ok.2 ⟨hk, hl, rfl⟩
  have HTa : Hid (∀ w', Cells w' .u64 a n z → Calls Try.prog 6 #[.slice a n ca] w' (Gives w' 0 n (turnTo z n))) := fun w' h => by
    have := turn_un a n ca z w' (by omega) h hz
    rwa [hk] at this
  have HTb : Hid (∀ w', Cells w' .u64 b n y → Calls Try.prog 6 #[.slice b n cb] w' (Gives w' 0 n (turnTo y n))) := fun w' h => by
    have := turn_un b n cb y w' (by omega) h hy
    rwa [hl] at this
  have HTh : Hid (∀ w', Cells w' .u64 a n z → Cells w' .u64 b n y → Calls Try.prog 7 #[.slice a n ca, .slice b n cb] w' (Gives w' 0 n (thenTo z y n))) := fun w' h h' => by
    have := then_un a b n n ca cb z y w' (by omega) (by omega) h h' hz hy
    rwa [hct] at this
  have HTx : Hid (∀ x cx w', Cells w' .u64 x n (turnTo z n) → Calls Try.prog 6 #[.slice x n cx] w' (Gives w' 0 n z)) := fun x cx w' h => by
    have h1 := turn_un x n cx (turnTo z n) w' (by omega) h (turn_bds hn z)
    rw [chk_turn hn z] at h1
    refine h1.mono ?_
    rintro e w'' ⟨p, cp, rfl, hp, hb⟩
    exact ⟨p, cp, rfl, hp.congr (fun j hj => turn_turn hk hz j (by rw [hl0] at hj; exact hj)), hb⟩
  have HTu : Hid (∀ u cu w', Cells w' .u64 u n (thenTo z y n) → Calls Try.prog 6 #[.slice u n cu] w' (Gives w' 0 n (thenTo (turnTo y n) (turnTo z n) n))) := fun u cu w' h => by
    have h1 := turn_un u n cu (thenTo z y n) w' (by omega) h (then_bds hk hz hy)
    rw [chk_then hk hz hl hy] at h1
    refine h1.mono ?_
    rintro e w'' ⟨p, cp, rfl, hp, hb⟩
    exact ⟨p, cp, rfl, hp.congr (fun j hj => turn_then y hk hz j (by rw [hl0] at hj; exact hj)), hb⟩
  have HTt : Hid (∀ p cp x cx w', Cells w' .u64 p n (turnTo y n) → Cells w' .u64 x n (turnTo z n) → Calls Try.prog 7 #[.slice p n cp, .slice x n cx] w' (Gives w' 0 n (thenTo (turnTo y n) (turnTo z n) n))) := fun p cp x cx w' h h' => by
    have := then_un p x n n cp cx (turnTo y n) (turnTo z n) w' (by omega) (by omega) h h' (turn_bds hn y) (turn_bds hn z)
    rwa [thenE_ok.2 ⟨chk_turn hn y, chk_turn hn z, rfl⟩] at this
  clear ha hb hfa hfb hz hy hk hl hct
  go_enter Try.func3, Try.ntmps3
  go_wp2_with fail
  refine (HF.out _).mono ?_
  rintro e w1 ⟨rfl, e1⟩
  subst e1
  go_wp2_with fail
  refine (HG.out _).mono ?_
  rintro e w2 ⟨rfl, e2⟩
  subst e2
  go_wp2_with fail
  refine (HTa.out _ HA.out).mono ?_
  rintro e w3 ⟨x, cx, rfl, hx, h3⟩
  rw [hl0] at hx
  rw [hl0]
  have HX : Hid (Cells w3 .u64 x n (turnTo z n)) := hx
  clear hx
  go_wp2_with fail
  refine (HTb.out _ (HB.out.below h3)).mono ?_
  rintro e w4 ⟨p, cp, rfl, hp, h4⟩
  rw [hl0] at hp
  rw [hl0]
  have HP : Hid (Cells w4 .u64 p n (turnTo y n)) := hp
  have HX4 : Hid (Cells w4 .u64 x n (turnTo z n)) := HX.out.below h4
  have hb4 := Below.onto h3 h4
  clear hp h3 h4 HX
  go_wp2_with fail
  refine (HTh.out _ (HA.out.below hb4) (HB.out.below hb4)).mono ?_
  rintro e w5 ⟨u, cu, rfl, hu, h5⟩
  rw [hl0] at hu
  rw [hl0]
  have HU : Hid (Cells w5 .u64 u n (thenTo z y n)) := hu
  have HX5 : Hid (Cells w5 .u64 x n (turnTo z n)) := HX4.out.below h5
  have HP5 : Hid (Cells w5 .u64 p n (turnTo y n)) := HP.out.below h5
  have hb5 := Below.onto hb4 h5
  clear hu h5 hb4 HX4 HP
  go_wp2_with fail
  refine (HTx.out x cx _ HX5.out).mono ?_
  rintro e w6 ⟨q, cq, rfl, hq, h6⟩
  rw [hl0] at hq
  rw [hl0]
  have HQ : Hid (Cells w6 .u64 q n z) := hq
  have HX6 : Hid (Cells w6 .u64 x n (turnTo z n)) := HX5.out.below h6
  have HP6 : Hid (Cells w6 .u64 p n (turnTo y n)) := HP5.out.below h6
  have HU6 : Hid (Cells w6 .u64 u n (thenTo z y n)) := HU.out.below h6
  have hb6 := Below.onto hb5 h6
  clear hq h6 hb5 HX5 HP5 HU
  go_wp2_with fail
  refine (HTu.out u cu _ HU6.out).mono ?_
  rintro e w7 ⟨v, cv, rfl, hv, h7⟩
  rw [hl0] at hv
  rw [hl0]
  have HV : Hid (Cells w7 .u64 v n (thenTo (turnTo y n) (turnTo z n) n)) := hv
  have HX7 : Hid (Cells w7 .u64 x n (turnTo z n)) := HX6.out.below h7
  have HP7 : Hid (Cells w7 .u64 p n (turnTo y n)) := HP6.out.below h7
  have HQ7 : Hid (Cells w7 .u64 q n z) := HQ.out.below h7
  have hb7 := Below.onto hb6 h7
  clear hv h7 hb6 HX6 HP6 HU6 HQ
  go_wp2_with fail
  refine (HTt.out p cp x cx _ HP7.out HX7.out).mono ?_
  rintro e w8 ⟨t, ct, rfl, ht, h8⟩
  rw [hl0] at ht
  rw [hl0]
  have HT : Hid (Cells w8 .u64 t n (thenTo (turnTo y n) (turnTo z n) n)) := ht
  have HV8 : Hid (Cells w8 .u64 v n (thenTo (turnTo y n) (turnTo z n) n)) := HV.out.below h8
  have HQ8 : Hid (Cells w8 .u64 q n z) := HQ7.out.below h8
  have hb8 := Below.onto hb7 h8
  clear ht h8 hb7 HX7 HP7 HQ7 HV
  go_wp2_with fail
  refine (rsame_true q a n cq ca _ _ _ (by omega) HQ8.out (HA.out.below hb8) (fun _ _ => rfl)).mono ?_
  rintro e w9 ⟨rfl, h9⟩
  have hb9 := Below.onto hb8 h9
  have HV9 : Hid (Cells w9 .u64 v n (thenTo (turnTo y n) (turnTo z n) n)) := HV8.out.below h9
  have HT9 : Hid (Cells w9 .u64 t n (thenTo (turnTo y n) (turnTo z n) n)) := HT.out.below h9
  clear h9 hb8 HV8 HT HQ8
  go_wp2_with fail
  refine (rsame_true v t n cv ct _ _ _ (by omega) HV9.out HT9.out (fun _ _ => rfl)).mono ?_
  rintro e w10 ⟨rfl, h10⟩
  have hb10 := Below.onto hb9 h10
  go_wp2_with fail
  refine (alive_any _).mono ?_
  rintro e w11 ⟨rfl, h11⟩
  go_wp2_with fail
  go_ret
  exact ⟨rfl, Below.onto hb10 h11⟩

set_option maxRecDepth 100000 in
set_option maxHeartbeats 4000000 in
theorem walk_bad (a b : Option Addr) (la lb ca cb n m : Nat) (z y : Nat → Int) (w : World) (hn66 : n ≤ 66) (hm66 : m ≤ 66) (hbad : thenE n m z y ≠ 0)
    (hfa : ∀ w, Calls Try.prog 5 #[.slice a la ca] w fun e w' => e = .returned (.slice a n ca) ∧ w' = w)
    (hfb : ∀ w, Calls Try.prog 5 #[.slice b lb cb] w fun e w' => e = .returned (.slice b m cb) ∧ w' = w)
    (hz : ∀ j, j < n → 0 ≤ z j ∧ z j < 18446744073709551616) (hy : ∀ j, j < m → 0 ≤ y j ∧ y j < 18446744073709551616)
    (ha : Cells w .u64 a n z) (hb : Cells w .u64 b m y) :
    Calls Try.prog 3 #[.slice a la ca, .slice b lb cb] w fun e w' => e = .returned (.bool true) ∧ Below w.heap.size w w' := by
  have HA : Hid (Cells w .u64 a n z) := ha
  have HB : Hid (Cells w .u64 b m y) := hb
  have HF : Hid (∀ w, Calls Try.prog 5 #[.slice a la ca] w fun e w' => e = .returned (.slice a n ca) ∧ w' = w) := hfa
  have HG : Hid (∀ w, Calls Try.prog 5 #[.slice b lb cb] w fun e w' => e = .returned (.slice b m cb) ∧ w' = w) := hfb
  have HTa : Hid (∀ w', Cells w' .u64 a n z → Calls Try.prog 6 #[.slice a n ca] w' (Gives w' (chkI n z) n (turnTo z n))) := fun w' h => turn_un a n ca z w' (by omega) h hz
  have HTb : Hid (∀ w', Cells w' .u64 b m y → Calls Try.prog 6 #[.slice b m cb] w' (Gives w' (chkI m y) m (turnTo y m))) := fun w' h => turn_un b m cb y w' (by omega) h hy
  have HTh : Hid (∀ w', Cells w' .u64 a n z → Cells w' .u64 b m y → Calls Try.prog 7 #[.slice a n ca, .slice b m cb] w' (Gives w' (thenE n m z y) n (thenTo z y n))) := fun w' h h' => then_un a b n m ca cb z y w' (by omega) (by omega) h h' hz hy
  have HRa : Hid (∀ w', Cells w' .u64 a n z → Calls Try.prog 8 #[.slice a n ca] w' fun e w'' => e = .returned (.int .i64 (chkI n z)) ∧ Below w'.heap.size w' w'') := fun w' h => rcheck_any a n ca z w' (by omega) h hz
  have HRb : Hid (∀ w', Cells w' .u64 b m y → Calls Try.prog 8 #[.slice b m cb] w' fun e w'' => e = .returned (.int .i64 (chkI m y)) ∧ Below w'.heap.size w' w'') := fun w' h => rcheck_any b m cb y w' (by omega) h hy
  have HE : Hid (chkI n z = 0 → chkI m y = 0 → n ≠ m) := fun h1 h2 h3 => hbad (thenE_ok.2 ⟨h1, h2, h3⟩)
  have hd : (thenE n m z y != 0) = true := by simp [hbad]
  clear ha hb hfa hfb hz hy hbad
  generalize chkI n z = c1 at *
  generalize chkI m y = c2 at *
  generalize thenE n m z y = d at *
  by_cases h1 : c1 = 0
  · by_cases h2 : c2 = 0
    · have hne : ((n : Int) != (m : Int)) = true := by have := HE.out h1 h2; simp; omega
      subst h1 h2
      go_enter Try.func3, Try.ntmps3
      go_wp2_with fail
      refine (HF.out _).mono ?_
      rintro e w1 ⟨rfl, e1⟩
      subst e1
      go_wp2_with fail
      refine (HG.out _).mono ?_
      rintro e w2 ⟨rfl, e2⟩
      subst e2
      go_wp2_with fail
      refine (HTa.out _ HA.out).mono ?_
      rintro e w3 ⟨x, cx, rfl, _, h3⟩
      go_wp2_with fail
      refine (HTb.out _ (HB.out.below h3)).mono ?_
      rintro e w4 ⟨p, cp, rfl, _, h4⟩
      have hb4 := Below.onto h3 h4
      clear h3 h4
      go_wp2_with fail
      refine (HTh.out _ (HA.out.below hb4) (HB.out.below hb4)).mono ?_
      rintro e w5 ⟨u, cu, rfl, _, h5⟩
      have hb5 := Below.onto hb4 h5
      clear h5 hb4
      go_wp2_with fail
      refine (HRa.out _ (HA.out.below hb5)).mono ?_
      rintro e w6 ⟨rfl, h6⟩
      have hb6 := Below.onto hb5 h6
      clear h6 hb5
      go_wp2_with fail
      refine (HRb.out _ (HB.out.below hb6)).mono ?_
      rintro e w7 ⟨rfl, h7⟩
      have hb7 := Below.onto hb6 h7
      clear h7 hb6
      go_wp2_with fail
      refine (alive_any _).mono ?_
      rintro e w8 ⟨rfl, h8⟩
      go_wp2_with fail
      go_ret
      exact ⟨rfl, Below.onto hb7 h8⟩
    · have hne2 : (c2 != 0) = true := by simp [h2]
      subst h1
      clear h2 HE
      go_enter Try.func3, Try.ntmps3
      go_wp2_with fail
      refine (HF.out _).mono ?_
      rintro e w1 ⟨rfl, e1⟩
      subst e1
      go_wp2_with fail
      refine (HG.out _).mono ?_
      rintro e w2 ⟨rfl, e2⟩
      subst e2
      go_wp2_with fail
      refine (HTa.out _ HA.out).mono ?_
      rintro e w3 ⟨x, cx, rfl, _, h3⟩
      go_wp2_with fail
      refine (HTb.out _ (HB.out.below h3)).mono ?_
      rintro e w4 ⟨p, cp, rfl, _, h4⟩
      have hb4 := Below.onto h3 h4
      clear h3 h4
      go_wp2_with fail
      refine (HTh.out _ (HA.out.below hb4) (HB.out.below hb4)).mono ?_
      rintro e w5 ⟨u, cu, rfl, _, h5⟩
      have hb5 := Below.onto hb4 h5
      clear h5 hb4
      go_wp2_with fail
      refine (HRa.out _ (HA.out.below hb5)).mono ?_
      rintro e w6 ⟨rfl, h6⟩
      have hb6 := Below.onto hb5 h6
      clear h6 hb5
      go_wp2_with fail
      refine (HRb.out _ (HB.out.below hb6)).mono ?_
      rintro e w7 ⟨rfl, h7⟩
      have hb7 := Below.onto hb6 h7
      clear h7 hb6
      go_wp2_with fail
      refine (alive_any _).mono ?_
      rintro e w8 ⟨rfl, h8⟩
      go_wp2_with fail
      go_ret
      exact ⟨rfl, Below.onto hb7 h8⟩
  · have hne1 : (c1 != 0) = true := by simp [h1]
    clear h1 HE
    go_enter Try.func3, Try.ntmps3
    go_wp2_with fail
    refine (HF.out _).mono ?_
    rintro e w1 ⟨rfl, e1⟩
    subst e1
    go_wp2_with fail
    refine (HG.out _).mono ?_
    rintro e w2 ⟨rfl, e2⟩
    subst e2
    go_wp2_with fail
    refine (HTa.out _ HA.out).mono ?_
    rintro e w3 ⟨x, cx, rfl, _, h3⟩
    go_wp2_with fail
    refine (HTb.out _ (HB.out.below h3)).mono ?_
    rintro e w4 ⟨p, cp, rfl, _, h4⟩
    have hb4 := Below.onto h3 h4
    clear h3 h4
    go_wp2_with fail
    refine (HTh.out _ (HA.out.below hb4) (HB.out.below hb4)).mono ?_
    rintro e w5 ⟨u, cu, rfl, _, h5⟩
    have hb5 := Below.onto hb4 h5
    clear h5 hb4
    go_wp2_with fail
    refine (HRa.out _ (HA.out.below hb5)).mono ?_
    rintro e w6 ⟨rfl, h6⟩
    have hb6 := Below.onto hb5 h6
    clear h6 hb5
    go_wp2_with fail
    refine (alive_any _).mono ?_
    rintro e w8 ⟨rfl, h8⟩
    go_wp2_with fail
    go_ret
    exact ⟨rfl, Below.onto hb6 h8⟩

theorem walk (a b : Option Addr) (la lb ca cb : Nat) (z y : Nat → Int) (w : World) (ra : IsRow .u64 w a la ca z) (rb : IsRow .u64 w b lb cb y) :
    Calls Try.prog 3 #[.slice a la ca, .slice b lb cb] w fun e w' => e = .returned (.bool true) ∧ Below w.heap.size w w' := by
  obtain ⟨n, hn⟩ : ∃ n, n = min la 66 := ⟨_, rfl⟩
  obtain ⟨m, hm⟩ : ∃ m, m = min lb 66 := ⟨_, rfl⟩
  have ha : Cells w .u64 a n z := ra.1.mono (by omega)
  have hb : Cells w .u64 b m y := rb.1.mono (by omega)
  have hz : ∀ j, j < n → 0 ≤ z j ∧ z j < 18446744073709551616 := fun j hj => ra.u64 j (by omega)
  have hy : ∀ j, j < m → 0 ≤ y j ∧ y j < 18446744073709551616 := fun j hj => rb.u64 j (by omega)
  have hfa := fun w => few_any a la ca w ra.2.2.1 ra.2.1
  have hfb := fun w => few_any b lb cb w rb.2.2.1 rb.2.1
  rw [← hn] at hfa
  rw [← hm] at hfb
  by_cases hk : thenE n m z y = 0
  · obtain ⟨h1, h2, h3⟩ := thenE_ok.1 hk
    clear hk hm
    subst h3
    exact walk_ok a b la lb ca cb n z y w h1 h2 hfa hfb hz hy ha hb
  · exact walk_bad a b la lb ca cb n m z y w (by omega) (by omega) hk hfa hfb hz hy ha hb

set_option maxRecDepth 100000 in
theorem lifted (os : Os) (started : os.Started) (H : Type) (enc : TypeId × Value → H) :
    ReturnsInHanded {} Try.checked os 3 .any (Rows.bitsTurnedSpec.pre6 enc Try.prog Try.f3 Rows.bitsTurnedRow.domain false) (Rows.bitsTurnedSpec.post enc Try.prog Try.f3 false true false false) := by
  refine returnsInHanded_of_change (C := Try.checked) own started (by kernel_rfl) Try.func3
    (ChangeSpec.witness6 (enc := enc) (C := Try.checked) false ⟨#[], #[.slice none 0 0, .slice none 0 0], []⟩ 8 (by kernel_rfl) (by kernel_rfl) (by kernel_rfl) (by kernel_rfl)) ?_
  intro W base args ds gs before hval0 hW hcnd _
  have hval : ∀ (j : Nat) t v, Try.f3.params[j]? = some t → args[j]? = some v → Value.okWide Try.prog W .any base t v := hval0
  have hW' := hW
  obtain ⟨p, q, hA0, hV, rfl, hfz, hnd⟩ := hW
  have hA : DataW.TrodAll enc Try.prog W 0 (fun _ => true) true Try.f3.params.toList args.toList ds p := hA0
  rw [Try.params3] at hA hval
  obtain ⟨v0, vs0, d0, ds0, p0, q0, hargs, rfl, rfl, h0, r0⟩ := trodAll_cons hA
  obtain ⟨v1, vs1, d1, ds1, p1, q1, rfl, rfl, rfl, h1, r1⟩ := trodAll_cons r0
  obtain ⟨rfl, rfl, rfl⟩ := trodAll_nil r1
  obtain rfl : args = #[v0, v1] := by cases args; simp_all
  obtain ⟨rfl, rfl⟩ := trodVars_none hV
  obtain ⟨a0, len0, cap0, rfl⟩ := okWide_slice Try.underlying22 (hval 0 22 v0 rfl rfl)
  have k0 := h0
  have lt0 : ∀ x ∈ p0, x.block < W.heap.size := by obtain ⟨m, hm⟩ := k0; exact DataW.trod_lt m _ _ _ hm
  obtain ⟨z0, w0⟩ : ∃ z, IsRow .u64 W a0 len0 cap0 z := by
    obtain ⟨fuel, hf⟩ := h0
    rcases open_ints Try.underlying22 Try.underlying31 (by kernel_rfl) hf with ⟨hcs, _⟩ | ⟨x, l, c, zs, hcs, _, hl, hm, hz, _, hcell, hwz⟩
    · simp [Value.cells] at hcs
      obtain ⟨rfl, rfl, rfl⟩ := hcs
      exact ⟨_, isRow_nil _ _⟩
    · simp [Value.cells] at hcs
      obtain ⟨rfl, rfl, rfl⟩ := hcs
      exact ⟨_, isRow_some hl hm (by simpa using hz) hcell hwz⟩
  obtain ⟨a1, len1, cap1, rfl⟩ := okWide_slice Try.underlying22 (hval 1 22 v1 rfl rfl)
  have k1 := h1
  have lt1 : ∀ x ∈ p1, x.block < W.heap.size := by obtain ⟨m, hm⟩ := k1; exact DataW.trod_lt m _ _ _ hm
  obtain ⟨z1, w1⟩ : ∃ z, IsRow .u64 W a1 len1 cap1 z := by
    obtain ⟨fuel, hf⟩ := h1
    rcases open_ints Try.underlying22 Try.underlying31 (by kernel_rfl) hf with ⟨hcs, _⟩ | ⟨x, l, c, zs, hcs, _, hl, hm, hz, _, hcell, hwz⟩
    · simp [Value.cells] at hcs
      obtain ⟨rfl, rfl, rfl⟩ := hcs
      exact ⟨_, isRow_nil _ _⟩
    · simp [Value.cells] at hcs
      obtain ⟨rfl, rfl, rfl⟩ := hcs
      exact ⟨_, isRow_some hl hm (by simpa using hz) hcell hwz⟩
  clear hA0 hval0
  refine (walk a0 a1 len0 len1 cap0 cap1 z0 z1 W w0 w1).mono fun e W' ⟨he, bel⟩ => ?_
  subst he
  exact ⟨_, rfl, _, _, _, [], _, [], hW', trodAll_mk1 (shut_bool Try.underlying4 _), (trodAll_cons_mk (Below.trod laidOut (by kernel_rfl) (of_decide_eq_true (by kernel_rfl)) k0 bel lt0) (trodAll_cons_mk (Below.trod laidOut (by kernel_rfl) (of_decide_eq_true (by kernel_rfl)) k1 bel lt1) trodAll_mk0)), rfl, bel.frame _, fun h => by cases h⟩

end Go.Proofs.Ytlfmkgfhopbegab.bitsTurned
namespace Go.Proofs.Ytlfmkgfhopbegab

/-- The statement BitsTurned. -/
theorem BitsTurnedHolds : Rows.BitsTurnedSaid :=
  OpenClaim.holds_of_wide 3 Try.f3 rfl rfl rfl rfl rfl rfl rfl ⟨rfl, rfl, rfl, rfl, rfl⟩ rfl rfl rfl rfl rfl (by kernel_rfl) Try.func3 (by kernel_rfl)
    (of_decide_eq_true (by kernel_rfl)) (by unfold Func.isWrapper; first | (rw [if_pos (by decide +kernel)]; kernel_rfl) | (rw [if_neg (by decide +kernel)]; exact ⟨rfl, rfl⟩))
    (fun os started H enc _ => bitsTurned.lifted os started H enc)

end Go.Proofs.Ytlfmkgfhopbegab
