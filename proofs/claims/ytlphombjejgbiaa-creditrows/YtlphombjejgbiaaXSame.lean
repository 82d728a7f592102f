/- The document's SameRows; CreditRows' walk. -/
import Derived.Test.YtlphombjejgbiaaXAccR
import Derived.Test.YtlphombjejgbiaaXHeldR
namespace Go.Proofs.Ytlphombjejgbiaa
open Go.RowKit Go.Sort Go.Shelf
set_option maxRecDepth 100000

set_option maxHeartbeats 4000000 in
theorem samerows_any (a b : Option Addr) (n cap cap2 : Nat) (A D : Nat → Aw) (w : World) (hn : n ≤ 12) (h12 : ∀ j, j < n → (A j).n ≤ 12) (hs : Rws w a n A) (hr : Rws w b n D) (hl : ∀ j, j < n → (A j).n = (D j).n) (hg : ∀ j, j < n → ∀ i, i < (A j).n → (A j).g i = (D j).g i) :
    Calls Try.prog 18 #[.slice a n cap, .slice b n cap2] w fun e w' => e = .returned (.bool true) ∧ Below w.heap.size w w' := by
  have HS : Hid (Rws w a n A) := hs
  have HR : Hid (Rws w b n D) := hr
  have HL : Hid ((∀ j, j < n → (A j).n = (D j).n) ∧ (∀ j, j < n → ∀ i, i < (A j).n → (A j).g i = (D j).g i) ∧ ∀ j, j < n → (A j).n ≤ 12) := ⟨hl, hg, h12⟩
  clear hs hr hl hg h12
  go_enter Try.func18, Try.ntmps18
  go_wp2_with fail
  go_loopw [5] (fun vi wr => ∃ j : Nat, j ≤ n ∧ vi = .int .i64 j ∧ Hid (Below w.heap.size w wr)) (fun vi _ => n - (intOf vi).toNat)
  case atStart => exact ⟨0, Nat.zero_le _, rfl, Below.refl _ _⟩
  case round =>
    obtain ⟨j, hj, rfl, hbel⟩ := hrel
    by_cases hlt : j < n
    · obtain ⟨b1, o1, rfl, c0⟩ := rws_at (HS.out.below hbel.out) hlt
      obtain ⟨b2, o2, rfl, d0⟩ := rws_at (HR.out.below hbel.out) hlt
      have HA := ((HS.out.2 j hlt)).below hbel.out
      have HD := ((HR.out.2 j hlt)).below hbel.out
      have hln := HL.out.1 j hlt
      have h12j := HL.out.2.2 j hlt
      have HG : Hid (∀ i, i < (A j).n → (A j).g i = (D j).g i) := HL.out.2.1 j hlt
      rw [← hln] at d0 HD
      have HA : Hid (Rd wr (A j).a (A j).n 3 (fun i => encAc ((A j).g i))) := HA
      have HD : Hid (Rd wr (D j).a (A j).n 3 (fun i => encAc ((D j).g i))) := HD
      clear hln
      generalize (A j).g = ga at *
      generalize (D j).g = gd at *
      generalize (A j).a = xa at *
      generalize (D j).a = ya at *
      generalize (A j).c = xc at *
      generalize (D j).c = yc at *
      generalize (A j).n = xn at *
      have HCC : Hid (wr.cell? ⟨b1, o1 + j, none⟩ = some (.slice xa xn xc) ∧ wr.cell? ⟨b2, o2 + j, none⟩ = some (.slice ya xn yc)) := ⟨c0, d0⟩
      have r1 := cell_regrown c0
      have r2 := cell_regrown d0
      clear c0 d0
      have i1 : (0 : Int) ≤ (j : Int) := by omega
      have i2 : (j : Int) < (n : Int) := by omega
      go_wp2_with fail
      refine wp_region_quiet_below (by kernel_rfl) (by kernel_rfl) ?_
      repeat (go_big_quiet_step (fail))
      refine wpQuiet_nil ?_
      intro _ hw'
      obtain ⟨⟨dq, osq⟩, hw''⟩ := hw'
      subst hw''
      have HB2 : Hid (Below wr.heap.size wr (grow (redrawn wr dq) osq)) := below_regrown wr dq osq
      clear r1 r2
      generalize grow (redrawn wr dq) osq = w3 at *
      go_wp2_with fail
      obtain ⟨wx, hwx⟩ : ∃ x, x = wr := ⟨wr, rfl⟩
      subst hwx
      go_loopw [6] (fun vi wr => ∃ k : Nat, k ≤ xn ∧ vi = .int .i64 k ∧ Hid (Below wx.heap.size wx wr)) (fun vi _ => xn - (intOf vi).toNat)
      case atStart => exact ⟨0, Nat.zero_le _, rfl, HB2.out⟩
      case round =>
        obtain ⟨k, hk, rfl, hb2⟩ := hrel
        have c0 := (hb2.out.cell (p := ⟨b1, o1 + j, none⟩) (cell_lt HCC.out.1)).trans HCC.out.1
        have d0 := (hb2.out.cell (p := ⟨b2, o2 + j, none⟩) (cell_lt HCC.out.2)).trans HCC.out.2
        by_cases hkl : k < xn
        · obtain ⟨b3, o3, rfl, e0, e1, e2⟩ := acc_at (HA.out.below hb2.out) hkl
          obtain ⟨b4, o4, rfl, f0, f1, f2⟩ := acc_at (HD.out.below hb2.out) hkl
          rw [← HG.out k hkl] at f0 f1 f2
          have k1 : (0 : Int) ≤ (k : Int) := by omega
          have k2 : (k : Int) < (xn : Int) := by omega
          generalize (ga k).rm = grm at *
          generalize (ga k).sp = gsp at *
          generalize (ga k).ep = gep at *
          go_wp2_with fail
          have r1 := cell_regrown c0
          have r2 := cell_regrown d0
          have r3 := cell_regrown e0
          have r4 := cell_regrown e1
          have r5 := cell_regrown e2
          have r6 := cell_regrown f0
          have r7 := cell_regrown f1
          have r8 := cell_regrown f2
          clear c0 d0 e0 e1 e2 f0 f1 f2
          refine wp_region_quiet_below (by kernel_rfl) (by kernel_rfl) ?_
          repeat (go_big_quiet_step (fail))
          refine wpQuiet_nil ?_
          intro _ hw'
          obtain ⟨⟨dq, osq⟩, hw''⟩ := hw'
          subst hw''
          have HB3 : Hid (Below wx.heap.size wx (grow (redrawn wr dq) osq)) := Below.onto hb2.out (below_regrown wr dq osq)
          clear r1 r2 r3 r4 r5 r6 r7 r8
          generalize grow (redrawn wr dq) osq = w4 at *
          go_wp2_with fail
          go_roundw
          case rel => exact ⟨k + 1, by omega, by go_num, HB3⟩
          case measure => simp [intOf]; omega
        · obtain rfl : k = xn := by omega
          have HB4 : Hid (Below w.heap.size w wr) := Below.onto hbel.out hb2.out
          go_wp2_with fail
          go_roundw
          case rel => exact ⟨j + 1, by omega, by go_num, HB4⟩
          case measure => simp [intOf]; omega
    · obtain rfl : j = n := by omega
      go_wp2_with fail
      go_ret
      exact ⟨rfl, hbel.out⟩
end Go.Proofs.Ytlphombjejgbiaa
