/- credit.Held, walked. -/
import Derived.Test.YtlphombjejgbiaaXHeld
namespace Go.Proofs.Ytlphombjejgbiaa
open Go.RowKit Go.Sort Go.Shelf
set_option maxRecDepth 100000

theorem held_fit {n m : Nat} {C : Nat → Cw} {A : Nat → Aw} {t : Int} (h : fitD n m C A = false) : heldE n m C A = 1 ∧ heldN n m C A t = 0 := by simp [heldE, heldN, h]
theorem held_bad {n m : Nat} {C : Nat → Cw} {A : Nat → Aw} {t : Int} (h : fitD n m C A = true) (hb : badD n A = true) : heldE n m C A = 131 ∧ heldN n m C A t = 0 := by simp [heldE, heldN, h, hb]
theorem held_ok {n m : Nat} {C : Nat → Cw} {A : Nat → Aw} {t : Int} (h : fitD n m C A = true) (hb : badD n A = false) : heldE n m C A = 0 ∧ heldN n m C A t = allS C A t n := by simp [heldE, heldN, h, hb]
set_option maxHeartbeats 8000000 in
theorem held_any (a b : Option Addr) (n m cap cap2 : Nat) (C : Nat → Cw) (A : Nat → Aw) (t : Int) (w : World) (hn : n ≤ 12) (h12 : ∀ j, j < n → (C j).ln ≤ 12) (hs : Chs w a n C) (hr : Rws w b m A) :
    Calls Try.prog 16 #[.slice a n cap, .slice b m cap2, .int .i64 t] w fun e w' => e = .returned (.tuple #[.int .i64 (heldN n m C A t), .int .i64 (heldE n m C A)]) ∧ Below w.heap.size w w' := by
  have hq := eqfits_any a b n m cap cap2 C A w (by omega) hs hr
  cases hf : fitD n m C A
  · rw [(held_fit (t := t) hf).1, (held_fit (t := t) hf).2]
    rw [hf] at hq
    clear hs hr hf h12
    go_enter Try.func16, Try.ntmps16
    go_wp2_with fail
    refine hq.mono ?_
    rintro e w1 ⟨rfl, hb⟩
    have HB : Hid (Below w.heap.size w w1) := hb
    clear hb hq
    go_wp2_with fail
    go_ret2
    exact ⟨rfl, HB.out⟩
  · rw [hf] at hq
    obtain ⟨hnm, hfit⟩ := fitD_iff.1 hf
    subst hnm
    have HF : Hid (fitD n n C A = true ∧ ∀ j, j < n → (C j).ln = (A j).n) := ⟨hf, hfit⟩
    have H12 : Hid (∀ j, j < n → (A j).n ≤ 12) := fun j hj => by rw [← hfit j hj]; exact h12 j hj
    have HS : Hid (Chs w a n C) := hs
    have HR : Hid (Rws w b n A) := hr
    obtain ⟨E, hE⟩ : ∃ E, heldE n n C A = E := ⟨_, rfl⟩
    obtain ⟨Nn, hN⟩ : ∃ N, heldN n n C A t = N := ⟨_, rfl⟩
    rw [hE, hN]
    have HBAD : Hid (badD n A = true → E = 131 ∧ Nn = 0) := fun h => by rw [← hE, ← hN]; exact held_bad HF.out.1 h
    have HOK : Hid (badD n A = false → E = 0 ∧ Nn = allS C A t n) := fun h => by rw [← hE, ← hN]; exact held_ok HF.out.1 h
    have hck := fun x W => xcheck_any x W
    clear hs hr hf hfit h12 hE hN
    go_enter Try.func16, Try.ntmps16
    go_wp2_with fail
    refine hq.mono ?_
    rintro e w1 ⟨rfl, hb⟩
    have HB : Hid (Below w.heap.size w w1) := hb
    clear hb hq
    go_wp2_with fail
    go_loopw [8, 20] (fun vs vi wr => ∃ j : Nat, j ≤ n ∧ vi = .int .i64 j ∧ vs = .int .i64 (allS C A t j) ∧ Hid (∀ q, q < j → ∀ i, i < (A q).n → okA ((A q).g i) = true) ∧ Hid (Below w.heap.size w wr)) (fun _ vi _ => n - (intOf vi).toNat)
    case atStart => exact ⟨0, Nat.zero_le _, rfl, rfl, fun q hq => absurd hq (by omega), HB.out⟩
    case round =>
      obtain ⟨j, hj, rfl, rfl, hok, hbel⟩ := hrel
      by_cases hlt : j < n
      · obtain ⟨b1, o1, rfl, c0, c1, c2⟩ := chs_at (HS.out.below hbel.out) hlt
        obtain ⟨b2, o2, rfl, d0⟩ := rws_at (HR.out.below hbel.out) hlt
        have HLA := ((HS.out.2 j hlt).1).below hbel.out
        have HRO := (HR.out.2 j hlt).below hbel.out
        have hln := HF.out.2 j hlt
        have hxn := H12.out j hlt
        have hsum := allS_le (C := C) (t := t) j (fun q hq => H12.out q (by omega)) hok.out
        have HSUC : Hid (allS C A t (j + 1) = allS C A t j + rowS (C j) (A j) t (A j).n) := rfl
        rw [hln] at c1 HLA
        have HLA : Hid (Rd wr (C j).la (A j).n 3 (fun i => encXl ((C j).f i))) := HLA
        have HRO : Hid (Rd wr (A j).a (A j).n 3 (fun i => encAc ((A j).g i))) := HRO
        clear hln
        have HRW : Hid (∀ k, rowS (C j) (A j) t (k + 1) = rowS (C j) (A j) t k + (if ((C j).f k).t = t then ((A j).g k).sp else 0)) := fun k => rfl
        have HR0 : Hid (rowS (C j) (A j) t 0 = 0) := rfl
        have HRL : Hid (∀ k, (∀ i, i < k → okA ((A j).g i) = true) → 0 ≤ rowS (C j) (A j) t k ∧ rowS (C j) (A j) t k ≤ 256 * k) := fun k => rowS_le k
        have HBY : Hid (∀ i, i < (A j).n → okA ((A j).g i) = false → badD n A = true) := fun i hi h => badD_yes hlt hi h
        have HOKJ : Hid ((∀ i, i < (A j).n → okA ((A j).g i) = true) → ∀ q, q < j + 1 → ∀ i, i < (A q).n → okA ((A q).g i) = true) := fun h q hq => by
          by_cases e : q = j
          · rw [e]; exact h
          · exact hok.out q (by omega)
        obtain ⟨S1, hS1⟩ : ∃ S1, allS C A t (j + 1) = S1 := ⟨_, rfl⟩
        rw [hS1] at HSUC
        have HS1 : Hid (allS C A t (j + 1) = S1) := hS1
        clear hS1
        generalize allS C A t j = S at *
        generalize rowS (C j) (A j) t = rs at *
        generalize (C j).f = ff at *
        generalize (A j).g = gg at *
        generalize (C j).lb = lb at *
        generalize (C j).la = la at *
        generalize (C j).lc = lc at *
        generalize (C j).ra = ra at *
        generalize (C j).rn = rn at *
        generalize (C j).rc = rc at *
        generalize (A j).a = xa at *
        generalize (A j).n = xn at *
        generalize (A j).c = xc at *
        have hz2 := cell_lt d0
        have hbx := bx_new wr [.int .i64 lb, .slice la xn lc, .slice ra rn rc] 85
        have HB1 : Hid (Below wr.heap.size wr (wr.alloc (.cells #[.int .i64 lb, .slice la xn lc, .slice ra rn rc] 85)) ∧ Bx (wr.alloc (.cells #[.int .i64 lb, .slice la xn lc, .slice ra rn rc] 85)) wr.heap.size [.int .i64 lb, .slice la xn lc, .slice ra rn rc]) := ⟨below_new _ _, hbx⟩
        clear hbx
        go_wp2_with fail
        generalize wr.alloc (.cells #[.int .i64 lb, .slice la xn lc, .slice ra rn rc] 85) = w2 at *
        obtain ⟨B, hB⟩ : ∃ B, wr.heap.size = B := ⟨_, rfl⟩
        obtain ⟨wx, hwx⟩ : ∃ x, x = wr := ⟨wr, rfl⟩
        subst hwx
        rw [hB] at HB1 ⊢
        have HBe : Hid (wx.heap.size = B) := hB
        clear c0 c1 c2 d0 hz2 hB
        go_loopw [8, 30] (fun vs vi wr => ∃ k : Nat, k ≤ xn ∧ vi = .int .i64 k ∧ vs = .int .i64 (S + rs k) ∧ Hid (∀ i, i < k → okA (gg i) = true) ∧ Hid (Below w2.heap.size w2 wr)) (fun _ vi _ => xn - (intOf vi).toNat)
        case atStart => exact ⟨0, Nat.zero_le _, rfl, by rw [HR0.out]; simp, fun q hq => absurd hq (by omega), Below.refl _ _⟩
        case round =>
          obtain ⟨k, hk, rfl, rfl, hok2, hb2⟩ := hrel
          by_cases hkl : k < xn
          · have hbb : Below wx.heap.size wx wr := by
              have h1 := HB1.out.1
              rw [← HBe.out] at h1
              exact Below.onto h1 hb2.out
            obtain ⟨b3, o3, rfl, e0, e1, e2⟩ := acc_at (HRO.out.below hbb) hkl
            obtain ⟨b4, o4, rfl, f0, f1, f2⟩ := lan_at (HLA.out.below hbb) hkl
            have hx := HB1.out.2.below hb2.out
            have x1 := hx 1 _ rfl
            have HBw : Hid (Below w.heap.size w wr) := Below.onto hbel.out hbb
            have hcall := hck (gg k) (wr.alloc (.cells #[.int .i64 (gg k).rm, .int .i64 (gg k).sp, .int .i64 (gg k).ep] 90))
            unfold ckE acV at hcall
            have HXC : Hid (Below wr.heap.size wr (wr.alloc (.cells #[.int .i64 (gg k).rm, .int .i64 (gg k).sp, .int .i64 (gg k).ep] 90)) ∧ Bx (wr.alloc (.cells #[.int .i64 (gg k).rm, .int .i64 (gg k).sp, .int .i64 (gg k).ep] 90)) wr.heap.size [.int .i64 (gg k).rm, .int .i64 (gg k).sp, .int .i64 (gg k).ep]) := ⟨below_new _ _, bx_new wr [.int .i64 (gg k).rm, .int .i64 (gg k).sp, .int .i64 (gg k).ep] 90⟩
            have hrl := HRL.out k hok2.out
            have hrw := HRW.out k
            clear hbb hx f1 f2
            cases hko : okA (gg k)
            · rw [hko] at hcall
              have HX : Hid (E = 131 ∧ Nn = 0) := HBAD.out (HBY.out k hkl hko)
              clear hko hrw hrl hsum
              generalize (gg k).rm = grm at *
              generalize (gg k).sp = gsp at *
              generalize (gg k).ep = gep at *
              go_wp2_with fail
              refine hcall.mono ?_
              rintro e w4 ⟨rfl, hb4⟩
              have HB4 : Hid (Below w.heap.size w w4) := Below.onto (Below.onto HBw.out HXC.out.1) hb4
              clear hb4 hcall
              go_wp2_with fail
              go_ret2
              rw [HX.out.1, HX.out.2]
              exact ⟨rfl, HB4.out⟩
            · rw [hko] at hcall
              obtain ⟨⟨g1, g2⟩, ⟨g3, g4⟩, _⟩ := okA_iff.1 hko
              have HOK3 : Hid (∀ i, i < k + 1 → okA (gg i) = true) := fun i hi => by
                by_cases e : i = k
                · rw [e]; exact hko
                · exact hok2.out i (by omega)
              clear hko
              generalize (gg k).rm = grm at *
              generalize (gg k).sp = gsp at *
              generalize (gg k).ep = gep at *
              generalize (ff k).t = ft at *
              obtain ⟨r1, hr1⟩ : ∃ r, rs (k + 1) = r := ⟨_, rfl⟩
              rw [hr1] at hrw
              have HR1 : Hid (rs (k + 1) = r1) := hr1
              clear hr1
              generalize rs k = r0 at *
              by_cases ht : ft = t
              · rw [if_pos ht] at hrw
                have ht2 : (ft == t) = true := by simp [ht]
                clear ht
                subst hrw
                have i1 : -9223372036854775808 ≤ S + r0 + gsp := by omega
                have i2 : S + r0 + gsp ≤ 9223372036854775807 := by omega
                go_wp2_with fail
                refine hcall.mono ?_
                rintro e w4 ⟨rfl, hb4⟩
                have y1 := HXC.out.2.below hb4 1 _ rfl
                have hb14 := Below.onto HXC.out.1 hb4
                have z1 := (hb14.cell (p := ⟨B, 1, none⟩) (cell_lt x1)).trans x1
                have z2 := (hb14.cell (p := ⟨b4, o4 + k * 3, none⟩) (cell_lt f0)).trans f0
                have HB4 : Hid (Below w2.heap.size w2 w4) := Below.onto hb2.out hb14
                clear hb4 hcall hb14 x1 f0 e0 e1 e2 HXC
                go_wp2_with fail
                go_roundw
                case rel => exact ⟨k + 1, by omega, by go_num, by rw [HR1.out, Int.add_assoc], HOK3, HB4⟩
                case measure => simp [intOf]; omega
              · rw [if_neg ht, Int.add_zero] at hrw
                subst hrw
                have ht2 : (ft == t) = false := by simp [ht]
                go_wp2_with fail
                refine hcall.mono ?_
                rintro e w4 ⟨rfl, hb4⟩
                have y1 := HXC.out.2.below hb4 1 _ rfl
                have hb14 := Below.onto HXC.out.1 hb4
                have z1 := (hb14.cell (p := ⟨B, 1, none⟩) (cell_lt x1)).trans x1
                have z2 := (hb14.cell (p := ⟨b4, o4 + k * 3, none⟩) (cell_lt f0)).trans f0
                have HB4 : Hid (Below w2.heap.size w2 w4) := Below.onto hb2.out hb14
                clear hb4 hcall hb14 x1 f0 e0 e1 e2 HXC
                go_wp2_with fail
                go_roundw
                case rel => exact ⟨k + 1, by omega, by go_num, by rw [HR1.out], HOK3, HB4⟩
                case measure => simp [intOf]; omega
          · obtain rfl : k = xn := by omega
            have HS3 : Hid (∀ q, q < j + 1 → ∀ i, i < (A q).n → okA ((A q).g i) = true) := HOKJ.out hok2.out
            have hbb : Below wx.heap.size wx wr := by
              have h1 := HB1.out.1
              rw [← HBe.out] at h1
              exact Below.onto h1 hb2.out
            have HBw : Hid (Below w.heap.size w wr) := Below.onto hbel.out hbb
            clear hbb
            have HSU : Hid (S1 = S + rs k) := HSUC.out
            generalize S + rs k = S2 at *
            go_wp2_with fail
            go_roundw
            case rel => exact ⟨j + 1, by omega, by go_num, by rw [HS1.out, HSU.out], HS3, HBw⟩
            case measure => simp [intOf]; omega
      · obtain rfl : j = n := by omega
        have HE := HOK.out (badD_no.2 hok.out)
        have HE : Hid (E = 0 ∧ Nn = allS C A t j) := HE
        generalize allS C A t j = S at *
        go_wp2_with fail
        go_ret2
        rw [HE.out.1, HE.out.2]
        exact ⟨rfl, hbel.out⟩
end Go.Proofs.Ytlphombjejgbiaa
