/- The document's Held. -/
import Derived.Test.YtlphombjejgbiaaXHeldP
import Derived.Lib.QuietBelow
namespace Go.Proofs.Ytlphombjejgbiaa
open Go.RowKit Go.Sort Go.Shelf
set_option maxRecDepth 100000

set_option maxHeartbeats 8000000 in
theorem rheld_any (a b : Option Addr) (n m cap cap2 : Nat) (C : Nat → Cw) (A : Nat → Aw) (t : Int) (w : World) (hn : n ≤ 12) (h12 : ∀ j, j < n → (C j).ln ≤ 12) (hs : Chs w a n C) (hr : Rws w b m A) :
    Calls Try.prog 17 #[.slice a n cap, .slice b m cap2, .int .i64 t] w fun e w' => e = .returned (.tuple #[.int .i64 (heldN n m C A t), .int .i64 (heldE n m C A)]) ∧ Below w.heap.size w w' := by
  by_cases hnm : n = m
  case neg =>
    have hf : fitD n m C A = false := by
      cases e : fitD n m C A
      · rfl
      · exact absurd (fitD_iff.1 e).1 hnm
    rw [(held_fit (t := t) hf).1, (held_fit (t := t) hf).2]
    have hl2 : ¬ (m : Int) = (n : Int) := by omega
    have hl3 : ((m : Int) != (n : Int)) = true := by simp [hl2]
    clear hs hr hf h12 hnm
    go_enter Try.func17, Try.ntmps17
    go_wp2_with fail
    go_ret2
    exact ⟨rfl, Below.refl _ _⟩
  case pos =>
    subst hnm
    have HS : Hid (Chs w a n C) := hs
    have HR : Hid (Rws w b n A) := hr
    have H12 : Hid (∀ j, j < n → (C j).ln ≤ 12) := h12
    obtain ⟨E, hE⟩ : ∃ E, heldE n n C A = E := ⟨_, rfl⟩
    obtain ⟨Nn, hN⟩ : ∃ N, heldN n n C A t = N := ⟨_, rfl⟩
    rw [hE, hN]
    have HFIT : Hid (fitD n n C A = false → E = 1 ∧ Nn = 0) := fun h => by rw [← hE, ← hN]; exact held_fit h
    have HBAD : Hid (fitD n n C A = true → badD n A = true → E = 131 ∧ Nn = 0) := fun h0 h => by rw [← hE, ← hN]; exact held_bad h0 h
    have HOK : Hid (fitD n n C A = true → badD n A = false → E = 0 ∧ Nn = allS C A t n) := fun h0 h => by rw [← hE, ← hN]; exact held_ok h0 h
    have hck := fun x W => xris_any x W
    clear hs hr h12 hE hN
    go_enter Try.func17, Try.ntmps17
    go_wp2_with fail
    go_loopw [8] (fun vi wr => ∃ j : Nat, j ≤ n ∧ vi = .int .i64 j ∧ Hid (∀ q, q < j → (C q).ln = (A q).n) ∧ Hid (Below w.heap.size w wr)) (fun vi _ => n - (intOf vi).toNat)
    case atStart => exact ⟨0, Nat.zero_le _, rfl, fun q hq => absurd hq (by omega), Below.refl _ _⟩
    case round =>
      obtain ⟨j, hj, rfl, hall, hbel⟩ := hrel
      by_cases hlt : j < n
      · obtain ⟨b1, o1, rfl, c0, c1, c2⟩ := chs_at (HS.out.below hbel.out) hlt
        obtain ⟨b2, o2, rfl, d0⟩ := rws_at (HR.out.below hbel.out) hlt
        have r1 := cell_regrown c1
        have r2 := cell_regrown d0
        have hYES : Hid ((C j).ln = (A j).n → ∀ q, q < j + 1 → (C q).ln = (A q).n) := fun h q hq => by
          by_cases e : q = j
          · rw [e]; exact h
          · exact hall.out q (by omega)
        have hNOT : Hid (¬ (C j).ln = (A j).n → fitD n n C A = false) := fun h => by
          cases e : fitD n n C A
          · rfl
          · exact absurd ((fitD_iff.1 e).2 j hlt) h
        clear c0 c1 c2 d0
        generalize (C j).la = la at *
        generalize (C j).ln = ln at *
        generalize (C j).lc = lc at *
        generalize (A j).a = xa at *
        generalize (A j).n = xn at *
        generalize (A j).c = xc at *
        have i1 : (0 : Int) ≤ (j : Int) := by omega
        have i2 : (j : Int) < (n : Int) := by omega
        by_cases he : ln = xn
        · have HN : Hid (∀ q, q < j + 1 → (C q).ln = (A q).n) := hYES.out he
          have h3 : ((xn : Int) != (ln : Int)) = false := by simp; omega
          clear he hYES hNOT hall
          go_wp2_with fail
          refine wp_region_quiet_below (by kernel_rfl) (by kernel_rfl) ?_
          repeat (go_big_quiet_step (fail))
          refine wpQuiet_nil ?_
          intro _ hw'
          obtain ⟨⟨dq, osq⟩, hw''⟩ := hw'
          subst hw''
          have HB2 : Hid (Below w.heap.size w (grow (redrawn wr dq) osq)) := Below.onto hbel.out (below_regrown wr dq osq)
          clear r1 r2
          generalize grow (redrawn wr dq) osq = w3 at *
          go_wp2_with fail
          go_roundw
          case rel => exact ⟨j + 1, by omega, by go_num, HN, HB2⟩
          case measure => simp [intOf]; omega
        · have HN : Hid (E = 1 ∧ Nn = 0) := HFIT.out (hNOT.out he)
          have h3 : ((xn : Int) != (ln : Int)) = true := by simp; omega
          clear he hYES hNOT hall
          go_wp2_with fail
          refine wp_region_quiet_below (by kernel_rfl) (by kernel_rfl) ?_
          repeat (go_big_quiet_step (fail))
          refine wpQuiet_nil ?_
          intro _ hw'
          obtain ⟨⟨dq, osq⟩, hw''⟩ := hw'
          subst hw''
          have HB2 : Hid (Below w.heap.size w (grow (redrawn wr dq) osq)) := Below.onto hbel.out (below_regrown wr dq osq)
          clear r1 r2
          generalize grow (redrawn wr dq) osq = w3 at *
          go_wp2_with fail
          go_ret2
          rw [HN.out.1, HN.out.2]
          exact ⟨rfl, HB2.out⟩
      · obtain rfl : j = n := by omega
        have hfit : fitD j j C A = true := fitD_iff.2 ⟨rfl, hall.out⟩
        have HF : Hid (∀ q, q < j → (C q).ln = (A q).n) := hall.out
        have HX12 : Hid (∀ q, q < j → (A q).n ≤ 12) := fun q hq => by rw [← hall.out q hq]; exact H12.out q hq
        have HBAD2 : Hid (badD j A = true → E = 131 ∧ Nn = 0) := HBAD.out hfit
        have HOK2 : Hid (badD j A = false → E = 0 ∧ Nn = allS C A t j) := HOK.out hfit
        obtain ⟨wy, hwy⟩ : ∃ x, x = wr := ⟨wr, rfl⟩
        subst hwy
        clear hall HFIT HBAD HOK hfit H12
        obtain ⟨n, hnn⟩ : ∃ x, x = j := ⟨j, rfl⟩
        subst hnn
        go_wp2_with fail
        go_loopw [9, 10] (fun vs vi wr => ∃ q : Nat, q ≤ n ∧ vi = .int .i64 q ∧ vs = .int .i64 (allS C A t q) ∧ Hid (∀ p, p < q → ∀ i, i < (A p).n → okA ((A p).g i) = true) ∧ Hid (Below w.heap.size w wr)) (fun _ vi _ => n - (intOf vi).toNat)
        case atStart => exact ⟨0, Nat.zero_le _, rfl, rfl, fun q hq => absurd hq (by omega), hbel.out⟩
        case round =>
          obtain ⟨j, hj, rfl, rfl, hok, hbel2⟩ := hrel
          by_cases hlt : j < n
          · obtain ⟨b1, o1, rfl, c0, c1, c2⟩ := chs_at (HS.out.below hbel2.out) hlt
            obtain ⟨b2, o2, rfl, d0⟩ := rws_at (HR.out.below hbel2.out) hlt
            have HLA := ((HS.out.2 j hlt).1).below hbel2.out
            have HRO := (HR.out.2 j hlt).below hbel2.out
            have hln := HF.out j hlt
            have hxn := HX12.out j hlt
            have hsum := allS_le (C := C) (t := t) j (fun q hq => HX12.out q (by omega)) hok.out
            have HSUC : Hid (allS C A t (j + 1) = allS C A t j + rowS (C j) (A j) t (A j).n) := rfl
            rw [hln] at c1 HLA
            have HLA : Hid (Rd wr (C j).la (A j).n 3 (fun i => encXl ((C j).f i))) := HLA
            have HRO : Hid (Rd wr (A j).a (A j).n 3 (fun i => encAc ((A j).g i))) := HRO
            clear hln
            have HRW : Hid (∀ k, rowS (C j) (A j) t (k + 1) = rowS (C j) (A j) t k + (if ((C j).f k).t = t then ((A j).g k).sp else 0)) := fun k => rfl
            have HR0 : Hid (rowS (C j) (A j) t 0 = 0) := rfl
            have HRL : Hid (∀ k, (∀ i, i < k → okA ((A j).g i) = true) → 0 ≤ rowS (C j) (A j) t k ∧ rowS (C j) (A j) t k ≤ 256 * k) := fun k => rowS_le k
            have HBY : Hid (∀ i, i < (A j).n → okA ((A j).g i) = false → badD n A = true) := fun i hi h => badD_yes hlt hi h
            have HOKJ : Hid ((∀ i, i < (A j).n → okA ((A j).g i) = true) → ∀ q, q < j + 1 → ∀ i, i < (A q).n → okA ((A q).g i) = true) := fun h q hq => by
              by_cases e : q = j
              · rw [e]; exact h
              · exact hok.out q (by omega)
            obtain ⟨S1, hS1⟩ : ∃ S1, allS C A t (j + 1) = S1 := ⟨_, rfl⟩
            rw [hS1] at HSUC
            have HS1 : Hid (allS C A t (j + 1) = S1) := hS1
            clear hS1
            generalize allS C A t j = S at *
            generalize rowS (C j) (A j) t = rs at *
            generalize (C j).f = ff at *
            generalize (A j).g = gg at *
            generalize (C j).la = la at *
            generalize (C j).lc = lc at *
            generalize (A j).a = xa at *
            generalize (A j).n = xn at *
            generalize (A j).c = xc at *
            have HCC : Hid (wr.cell? ⟨b1, o1 + j * 3 + 1, none⟩ = some (.slice la xn lc) ∧ wr.cell? ⟨b2, o2 + j, none⟩ = some (.slice xa xn xc)) := ⟨c1, d0⟩
            clear c0 c1 c2 d0
            go_wp2_with fail
            obtain ⟨wx, hwx⟩ : ∃ x, x = wr := ⟨wr, rfl⟩
            subst hwx
            go_loopw [9, 11] (fun vs vi wr => ∃ k : Nat, k ≤ xn ∧ vi = .int .i64 k ∧ vs = .int .i64 (S + rs k) ∧ Hid (∀ i, i < k → okA (gg i) = true) ∧ Hid (Below wx.heap.size wx wr)) (fun _ vi _ => xn - (intOf vi).toNat)
            case atStart => exact ⟨0, Nat.zero_le _, rfl, by rw [HR0.out]; simp, fun q hq => absurd hq (by omega), Below.refl _ _⟩
            case round =>
              obtain ⟨k, hk, rfl, rfl, hok2, hb2⟩ := hrel
              have c1 := (hb2.out.cell (p := ⟨b1, o1 + j * 3 + 1, none⟩) (cell_lt HCC.out.1)).trans HCC.out.1
              have d0 := (hb2.out.cell (p := ⟨b2, o2 + j, none⟩) (cell_lt HCC.out.2)).trans HCC.out.2
              have HBw : Hid (Below w.heap.size w wr) := Below.onto hbel2.out hb2.out
              by_cases hkl : k < xn
              · obtain ⟨b3, o3, rfl, e0, e1, e2⟩ := acc_at (HRO.out.below hb2.out) hkl
                obtain ⟨b4, o4, rfl, f0, f1, f2⟩ := lan_at (HLA.out.below hb2.out) hkl
                have hcall := hck (gg k) wr
                unfold acV at hcall
                have hrl := HRL.out k hok2.out
                have hrw := HRW.out k
                clear f1 f2
                cases hko : okA (gg k)
                · rw [hko] at hcall
                  have HX : Hid (E = 131 ∧ Nn = 0) := HBAD2.out (HBY.out k hkl hko)
                  clear hko hrw hrl hsum
                  generalize (gg k).rm = grm at *
                  generalize (gg k).sp = gsp at *
                  generalize (gg k).ep = gep at *
                  go_wp2_with fail
                  refine hcall.mono ?_
                  rintro e w4 ⟨rfl, hb4⟩
                  have HB4 : Hid (Below w.heap.size w w4) := Below.onto HBw.out hb4
                  clear hb4 hcall
                  go_wp2_with fail
                  go_ret2
                  rw [HX.out.1, HX.out.2]
                  exact ⟨rfl, HB4.out⟩
                · rw [hko] at hcall
                  obtain ⟨⟨g1, g2⟩, ⟨g3, g4⟩, _⟩ := okA_iff.1 hko
                  have HOK3 : Hid (∀ i, i < k + 1 → okA (gg i) = true) := fun i hi => by
                    by_cases e : i = k
                    · rw [e]; exact hko
                    · exact hok2.out i (by omega)
                  clear hko
                  generalize (gg k).rm = grm at *
                  generalize (gg k).sp = gsp at *
                  generalize (gg k).ep = gep at *
                  generalize (ff k).t = ft at *
                  obtain ⟨r1, hr1⟩ : ∃ r, rs (k + 1) = r := ⟨_, rfl⟩
                  rw [hr1] at hrw
                  have HR1 : Hid (rs (k + 1) = r1) := hr1
                  clear hr1
                  generalize rs k = r0 at *
                  by_cases ht : ft = t
                  · rw [if_pos ht] at hrw
                    have ht2 : (ft == t) = true := by simp [ht]
                    clear ht
                    subst hrw
                    have i1 : -9223372036854775808 ≤ S + r0 + gsp := by omega
                    have i2 : S + r0 + gsp ≤ 9223372036854775807 := by omega
                    go_wp2_with fail
                    refine hcall.mono ?_
                    rintro e w4 ⟨rfl, hb4⟩
                    have z0 := (hb4.cell (p := ⟨b1, o1 + j * 3 + 1, none⟩) (cell_lt c1)).trans c1
                    have z1 := (hb4.cell (p := ⟨b2, o2 + j, none⟩) (cell_lt d0)).trans d0
                    have z2 := (hb4.cell (p := ⟨b4, o4 + k * 3, none⟩) (cell_lt f0)).trans f0
                    have z3 := (hb4.cell (p := ⟨b3, o3 + k * 3 + 1, none⟩) (cell_lt e1)).trans e1
                    have HB4 : Hid (Below wx.heap.size wx w4) := Below.onto hb2.out hb4
                    clear hb4 hcall f0 e0 e1 e2 c1 d0
                    go_wp2_with fail
                    go_roundw
                    case rel => exact ⟨k + 1, by omega, by go_num, by rw [HR1.out, Int.add_assoc], HOK3, HB4⟩
                    case measure => simp [intOf]; omega
                  · rw [if_neg ht, Int.add_zero] at hrw
                    subst hrw
                    have ht2 : (ft == t) = false := by simp [ht]
                    go_wp2_with fail
                    refine hcall.mono ?_
                    rintro e w4 ⟨rfl, hb4⟩
                    have z0 := (hb4.cell (p := ⟨b1, o1 + j * 3 + 1, none⟩) (cell_lt c1)).trans c1
                    have z1 := (hb4.cell (p := ⟨b2, o2 + j, none⟩) (cell_lt d0)).trans d0
                    have z2 := (hb4.cell (p := ⟨b4, o4 + k * 3, none⟩) (cell_lt f0)).trans f0
                    have HB4 : Hid (Below wx.heap.size wx w4) := Below.onto hb2.out hb4
                    clear hb4 hcall f0 e0 e1 e2 c1 d0
                    go_wp2_with fail
                    go_roundw
                    case rel => exact ⟨k + 1, by omega, by go_num, by rw [HR1.out], HOK3, HB4⟩
                    case measure => simp [intOf]; omega
              · obtain rfl : k = xn := by omega
                have HS3 : Hid (∀ q, q < j + 1 → ∀ i, i < (A q).n → okA ((A q).g i) = true) := HOKJ.out hok2.out
                have HSU : Hid (S1 = S + rs k) := HSUC.out
                generalize S + rs k = S2 at *
                go_wp2_with fail
                go_roundw
                case rel => exact ⟨j + 1, by omega, by go_num, by rw [HS1.out, HSU.out], HS3, HBw⟩
                case measure => simp [intOf]; omega
          · obtain rfl : j = n := by omega
            have HE := HOK2.out (badD_no.2 hok.out)
            have HE : Hid (E = 0 ∧ Nn = allS C A t j) := HE
            generalize allS C A t j = S at *
            go_wp2_with fail
            go_ret2
            rw [HE.out.1, HE.out.2]
            exact ⟨rfl, hbel2.out⟩
end Go.Proofs.Ytlphombjejgbiaa
