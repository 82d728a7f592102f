/- CreditBounded, walked. -/
import Derived.Test.YtopjidlhhamjhabXBk
import Derived.Deep.RegionHeld3
import Derived.BigRegion
namespace Go.Proofs.Ytopjidlhhamjhab
open Go.RowKit Go.Sort Go.Shelf
attribute [local go_sem] Oper.semAt_some
set_option maxRecDepth 100000

set_option maxHeartbeats 4000000 in
theorem xbound_bad (r : Int) (a : Option Addr) (len cap : Nat) (w : World) (h : okA ⟨r, 0, 0⟩ = false) : Calls Try.prog 5 #[.int .i64 r, .slice a len cap] w fun e w' => e = .returned (.bool true) ∧ Below w.heap.size w w' := by
  have hA := fun W => xopen_any r W
  have hO := fun W => xalive_any W
  rw [show opA r = ac0 by simp [opA, h], show opE r = 131 by simp [opE, ckE, h]] at hA
  have hr : r < 1 ∨ 256 < r := by simp [okA, win] at h; omega
  clear h
  rcases hr with hr | hr
  · go_enter Try.func5, Try.ntmps5
    go_wp2_with fail
    refine (hA _).mono ?_
    rintro e w1 ⟨rfl, hb⟩
    have BW : Hid (Below w.heap.size w w1) := hb
    clear hb
    have B9 : Hid (Below w.heap.size w (w1.alloc (.cells #[.int .i64 0, .int .i64 0, .int .i64 0] 38))) := Below.onto BW.out (below_new _ _)
    go_wp2_with fail
    refine (hO _).mono ?_
    rintro e w3 ⟨rfl, hb3⟩
    go_wp2_with fail
    go_ret
    exact ⟨rfl, Below.onto B9.out hb3⟩
  · have hr0 : ¬ r < 1 := by omega
    go_enter Try.func5, Try.ntmps5
    go_wp2_with fail
    refine (hA _).mono ?_
    rintro e w1 ⟨rfl, hb⟩
    have BW : Hid (Below w.heap.size w w1) := hb
    clear hb
    have B9 : Hid (Below w.heap.size w (w1.alloc (.cells #[.int .i64 0, .int .i64 0, .int .i64 0] 38))) := Below.onto BW.out (below_new _ _)
    go_wp2_with fail
    refine (hO _).mono ?_
    rintro e w3 ⟨rfl, hb3⟩
    go_wp2_with fail
    go_ret
    exact ⟨rfl, Below.onto B9.out hb3⟩
/-- what the loop keeps -/
structure XbI (w wr : World) (B : Nat) (r : Int) (c : Ac) : Prop where
  b : Bk wr B 38 (acL c)
  ok : okA c = true
  rm : c.rm = r
  bel : Below w.heap.size w wr
  hB : w.heap.size ≤ B
set_option maxHeartbeats 4000000 in
theorem xbound_ok (r : Int) (a : Option Addr) (len cap : Nat) (g : Nat → XOp) (w : World) (h : okA ⟨r, 0, 0⟩ = true) (hs : Rd w a len 2 (fun j => encX (g j))) : Calls Try.prog 5 #[.int .i64 r, .slice a len cap] w fun e w' => e = .returned (.bool true) ∧ Below w.heap.size w w' := by
  have hA := fun W => xopen_any r W
  have hO := fun W => xalive_any W
  rw [show opA r = ⟨r, 0, 0⟩ by simp [opA, h], show opE r = 0 by simp [opE, ckE, h]] at hA
  have HK : Hid (okA ⟨r, 0, 0⟩ = true) := h
  have HS : Hid (Rd w a len 2 (fun j => encX (g j))) := hs
  clear h hs
  go_enter Try.func5, Try.ntmps5
  go_wp2_with fail
  refine (hA _).mono ?_
  rintro e w1 ⟨rfl, hb⟩
  have BW : Hid (Below w.heap.size w w1) := hb
  have hsz1 : Hid (w.heap.size ≤ w1.heap.size) := hb.size
  clear hb
  have I0 : Hid (XbI w (w1.alloc (.cells #[.int .i64 r, .int .i64 0, .int .i64 0] 38)) w1.heap.size r ⟨r, 0, 0⟩) := ⟨bk_new w1 (acL ⟨r, 0, 0⟩) _, HK.out, rfl, Below.onto BW.out (below_new _ _), hsz1.out⟩
  go_wp2_with fail
  generalize w1.alloc (.cells #[.int .i64 r, .int .i64 0, .int .i64 0] 38) = w2 at *
  generalize w1.heap.size = B at *
  go_loopw [7] (fun i wr => ∃ (j : Nat) (c : Ac), j ≤ len ∧ i = .int .i64 j ∧ Hid (XbI w wr B r c)) (fun i _ => len - (intOf i).toNat)
  case atStart => exact ⟨0, ⟨r, 0, 0⟩, Nat.zero_le _, rfl, I0⟩
  case round =>
    obtain ⟨j, c, hj, rfl, hI⟩ := hrel
    by_cases hlt : j < len
    · by_cases h80 : j < 80
      · obtain ⟨b, off, rfl, hcell⟩ := HS.out j hlt
        have k0 : w.cell? ⟨b, off + j * 2, none⟩ = some (.int .i64 (g j).k) := hcell 0 (by omega)
        have k1 : w.cell? ⟨b, off + j * 2 + 1, none⟩ = some (.int .i64 (g j).e) := hcell 1 (by omega)
        have HA : Hid (okA c = true → aoE (g j) c = 0 → okA (aoA (g j) c) = true ∧ (aoA (g j) c).rm = c.rm) := ao_ok
        have hact := fun W => xact_any (g j) W
        have hx := fun B W hB => xa_any (g j) c B W hB
        clear hcell
        generalize aoA (g j) c = A at *
        generalize aoE (g j) c = E at *
        generalize g j = o at *
        obtain ⟨kk, ke⟩ := o
        simp only at k0 k1
        have m0 : wr.cell? ⟨b, off + j * 2, none⟩ = some (.int .i64 kk) := (hI.out.bel.cell (p := ⟨b, off + j * 2, none⟩) (cell_lt k0)).trans k0
        have m1 : wr.cell? ⟨b, off + j * 2 + 1, none⟩ = some (.int .i64 ke) := (hI.out.bel.cell (p := ⟨b, off + j * 2 + 1, none⟩) (cell_lt k1)).trans k1
        obtain ⟨c0, c1, c2⟩ := acc_three hI.out.b.bx
        have toS : ∀ W, Below wr.heap.size wr W → W.cell? ⟨b, off + j * 2, none⟩ = some (.int .i64 kk) ∧ W.cell? ⟨b, off + j * 2 + 1, none⟩ = some (.int .i64 ke) ∧ W.cell? ⟨B, 0, none⟩ = some (.int .i64 c.rm) ∧ W.cell? ⟨B, 1, none⟩ = some (.int .i64 c.sp) ∧ W.cell? ⟨B, 2, none⟩ = some (.int .i64 c.ep) := fun W hW =>
          ⟨(hW.cell (p := ⟨b, off + j * 2, none⟩) (cell_lt m0)).trans m0, (hW.cell (p := ⟨b, off + j * 2 + 1, none⟩) (cell_lt m1)).trans m1, (hW.cell (p := ⟨B, 0, none⟩) (cell_lt c0)).trans c0, (hW.cell (p := ⟨B, 1, none⟩) (cell_lt c1)).trans c1, (hW.cell (p := ⟨B, 2, none⟩) (cell_lt c2)).trans c2⟩
        clear k0 k1 m0 m1 c0 c1 c2
        go_wp2_with fail
        go_region_held3 (fun W => W.cell? ⟨b, off + j * 2, none⟩ = some (.int .i64 kk) ∧ W.cell? ⟨b, off + j * 2 + 1, none⟩ = some (.int .i64 ke) ∧ W.cell? ⟨B, 0, none⟩ = some (.int .i64 c.rm) ∧ W.cell? ⟨B, 1, none⟩ = some (.int .i64 c.sp) ∧ W.cell? ⟨B, 2, none⟩ = some (.int .i64 c.ep)) (first | (with_reducible assumption) | (refine toS _ ?_; repeat (first | (with_reducible exact e8) | (with_reducible exact e6) | (with_reducible exact Below.refl _ _) | (with_reducible refine Below.drew ?_) | (with_reducible refine Below.setCell ?_ ?_ _) | (with_reducible refine Below.alloc ?_ ?_ _) | (with_reducible exact Nat.le_refl _) | omega | (dsimp only; omega) | (simp only [World.size_alloc]; omega)))) (first | (go_at_call 14; (with_reducible refine (hact _).mono ?_); rintro v w5 ⟨rfl, bx5, e5⟩; first | (have e6 : Below wr.heap.size wr w5 := (Below.refl _ wr).drew.trans e5; have hcall := fun W (hW : Below w5.heap.size w5 W) => hx wr.heap.size W (bx5.below hW); have s6 := e6.size) | (have e6 : Below wr.heap.size wr w5 := Below.onto ((Below.refl _ wr).drew.alloc (Nat.le_refl _) _) e5; have hcall := fun W (hW : Below w5.heap.size w5 W) => hx (wr.heap.size + 1) W (by have := bx5.below hW; simpa using this); have s6 := e6.size; have kd5 : Bk w5 wr.heap.size 38 (acL ac0) := (bk_new wr.drew (acL ac0) 38).below e5)) | (go_at_call 28; (with_reducible refine (hcall _ (Below.refl _ _)).mono ?_); rintro v w6 ⟨rfl, e7⟩; have e8 : Below wr.heap.size wr w6 := Below.onto e6 e7; have s8 := e8.size; first | (have kd : Bk w6 wr.heap.size 38 (acL ac0) := kd5.below e7; obtain ⟨y0, y1, y2⟩ := acc_three (a := ac0) kd.bx; have yf := kd.fz; have yl := kd.lt) | skip) | (go_at_call 28; (with_reducible refine (hcall _ (below_new _ _)).mono ?_); rintro v w6 ⟨rfl, e7⟩; have e8 : Below wr.heap.size wr w6 := Below.onto (Below.onto e6 (below_new _ _)) e7; have s8 := e8.size; have kd : Bk w6 w5.heap.size 38 (acL ac0) := (bk_new w5 (acL ac0) 38).below e7; obtain ⟨y0, y1, y2⟩ := acc_three (a := ac0) kd.bx; have yf := kd.fz; have yl := kd.lt))
        · have KD : Hid (Bk (w6.alloc (.cells (acL A).toArray 38)) (w6.heap.size) 38 (acL A)) := bk_new _ _ _
          have BD : Hid (Below wr.heap.size wr (w6.alloc (.cells (acL A).toArray 38))) := e8.alloc e8.size _
          have SD : wr.heap.size ≤ w6.heap.size := s8
          clear bx5 e5 e6 hcall s6 e7 e8 s8
          generalize w6.alloc (.cells (acL A).toArray 38) = w7 at *
          generalize w6.heap.size = D at *
          have KB : Hid (Bk w7 B 38 (acL c)) := hI.out.b.below BD.out
          have hBD : B ≠ D := by have := hI.out.b.lt; omega
          clear toS hact hx
          obtain ⟨d0, d1, d2⟩ := acc_three KD.out.bx
          obtain ⟨c0, c1, c2⟩ := acc_three KB.out.bx
          have bf := KB.out.fz
          have bl := KB.out.lt
          have dl := KD.out.lt
          have HD : Hid (B ≠ D) := hBD
          clear SD hBD
          by_cases hE : E = 0
          · subst hE
            have hok := HA.out hI.out.ok rfl
            have HR : Hid (A.rm = r ∧ okA A = true) := ⟨hok.2.trans hI.out.rm, hok.1⟩
            clear hok HA
            have W8 : Hid (XbI w (((w7.setCell ⟨B, 0, none⟩ (.int .i64 A.rm)).setCell ⟨B, 1, none⟩ (.int .i64 A.sp)).setCell ⟨B, 2, none⟩ (.int .i64 A.ep)) B r A) := ⟨((KB.out.set 0 _).set 1 _).set 2 _, HR.out.2, HR.out.1, (((Below.trans hI.out.bel (BD.out.mono hI.out.bel.size)).setCell hI.out.hB _).setCell hI.out.hB _).setCell hI.out.hB _, hI.out.hB⟩
            go_wp2_with fail
            generalize ((w7.setCell ⟨B, 0, none⟩ (.int .i64 A.rm)).setCell ⟨B, 1, none⟩ (.int .i64 A.sp)).setCell ⟨B, 2, none⟩ (.int .i64 A.ep) = w8 at *
            clear d0 d1 d2 c0 c1 c2 bf bl dl KD BD KB HD
            obtain ⟨⟨n1, n2⟩, ⟨n3, n4⟩, _⟩ := okA_iff.1 HR.out.2
            have r1 := HR.out.1
            have hl : ∀ W, Calls Try.prog 18 #[.agg #[.int .i64 r, .int .i64 A.sp, .int .i64 A.ep]] W fun e w' => e = .returned (.int .i64 (r - A.sp)) ∧ Below W.heap.size W w' := fun W => by
              have h := xLeft_any A W
              rw [show lfI A = r - A.sp by rw [← r1]; exact if_pos HR.out.2] at h
              rw [← r1] at h ⊢
              exact h
            have hl := regrown_call (w := w8) fun W _ => hl W
            obtain ⟨c0, c1, c2⟩ := acc_three W8.out.b.bx
            rw [r1] at c0 n1 n2 n4
            have c0' := cell_regrown c0
            have c1' := cell_regrown c1
            have c2' := cell_regrown c2
            clear c0 c1 c2 r1
            generalize A.sp = S at *
            generalize A.ep = T at *
            obtain ⟨lv, hlv⟩ : ∃ lv, r - S = lv := ⟨_, rfl⟩
            rw [hlv] at hl
            have hsum : lv + S = r := by omega
            have g1 : decide (S < 0) = false := by simp; omega
            have g2 : decide (lv < 0) = false := by simp; omega
            have l0 : 0 ≤ lv := by omega
            have l1 : lv ≤ 256 := by omega
            clear hlv
            refine wp_region_quiet_below (by kernel_rfl) (by kernel_rfl) ?_
            repeat (go_big_quiet_step (first | with_reducible exact hl _ _))
            refine wpQuiet_nil ?_
            intro _ hw'
            obtain ⟨⟨dq, osq⟩, hw''⟩ := hw'
            subst hw''
            have W9 : Hid (XbI w _ B r A) := ⟨W8.out.b.below (below_regrown w8 dq osq), W8.out.ok, W8.out.rm, Below.onto W8.out.bel (below_regrown w8 dq osq), W8.out.hB⟩
            go_wp2_with fail
            go_roundw
            case rel => exact ⟨j + 1, A, by omega, by go_num, W9⟩
            case measure => simp [intOf]; omega
          · have hE2 : (E == 0) = false := by simpa using hE
            have hok : okA c = true ∧ c.rm = c.rm := ⟨hI.out.ok, rfl⟩
            have HR : Hid (c.rm = r ∧ okA c = true) := ⟨hI.out.rm, hok.1⟩
            clear hok HA
            have W8 : Hid (XbI w w7 B r c) := ⟨KB.out, HR.out.2, HR.out.1, Below.trans hI.out.bel (BD.out.mono hI.out.bel.size), hI.out.hB⟩
            go_wp2_with fail
            obtain ⟨w8, hw8⟩ : ∃ w8, w8 = w7 := ⟨_, rfl⟩
            subst hw8
            clear d0 d1 d2 c0 c1 c2 bf bl dl KD BD KB HD
            obtain ⟨⟨n1, n2⟩, ⟨n3, n4⟩, _⟩ := okA_iff.1 HR.out.2
            have r1 := HR.out.1
            have hl : ∀ W, Calls Try.prog 18 #[.agg #[.int .i64 r, .int .i64 c.sp, .int .i64 c.ep]] W fun e w' => e = .returned (.int .i64 (r - c.sp)) ∧ Below W.heap.size W w' := fun W => by
              have h := xLeft_any c W
              rw [show lfI c = r - c.sp by rw [← r1]; exact if_pos HR.out.2] at h
              rw [← r1] at h ⊢
              exact h
            have hl := regrown_call (w := w8) fun W _ => hl W
            obtain ⟨c0, c1, c2⟩ := acc_three W8.out.b.bx
            rw [r1] at c0 n1 n2 n4
            have c0' := cell_regrown c0
            have c1' := cell_regrown c1
            have c2' := cell_regrown c2
            clear c0 c1 c2 r1
            generalize c.sp = S at *
            generalize c.ep = T at *
            obtain ⟨lv, hlv⟩ : ∃ lv, r - S = lv := ⟨_, rfl⟩
            rw [hlv] at hl
            have hsum : lv + S = r := by omega
            have g1 : decide (S < 0) = false := by simp; omega
            have g2 : decide (lv < 0) = false := by simp; omega
            have l0 : 0 ≤ lv := by omega
            have l1 : lv ≤ 256 := by omega
            clear hlv
            refine wp_region_quiet_below (by kernel_rfl) (by kernel_rfl) ?_
            repeat (go_big_quiet_step (first | with_reducible exact hl _ _))
            refine wpQuiet_nil ?_
            intro _ hw'
            obtain ⟨⟨dq, osq⟩, hw''⟩ := hw'
            subst hw''
            have W9 : Hid (XbI w _ B r c) := ⟨W8.out.b.below (below_regrown w8 dq osq), W8.out.ok, W8.out.rm, Below.onto W8.out.bel (below_regrown w8 dq osq), W8.out.hB⟩
            go_wp2_with fail
            go_roundw
            case rel => exact ⟨j + 1, c, by omega, by go_num, W9⟩
            case measure => simp [intOf]; omega
        · have KD : Hid (Bk (((w6.setCell ⟨w5.heap.size, 0, none⟩ (.int .i64 A.rm)).setCell ⟨w5.heap.size, 1, none⟩ (.int .i64 A.sp)).setCell ⟨w5.heap.size, 2, none⟩ (.int .i64 A.ep)) (w5.heap.size) 38 (acL A)) := ((kd.set 0 _).set 1 _).set 2 _
          have BD : Hid (Below wr.heap.size wr (((w6.setCell ⟨w5.heap.size, 0, none⟩ (.int .i64 A.rm)).setCell ⟨w5.heap.size, 1, none⟩ (.int .i64 A.sp)).setCell ⟨w5.heap.size, 2, none⟩ (.int .i64 A.ep))) := ((e8.setCell s6 _).setCell s6 _).setCell s6 _
          have SD : wr.heap.size ≤ w5.heap.size := s6
          clear bx5 e5 e6 hcall s6 e7 e8 s8 kd y0 y1 y2 yf yl
          generalize ((w6.setCell ⟨w5.heap.size, 0, none⟩ (.int .i64 A.rm)).setCell ⟨w5.heap.size, 1, none⟩ (.int .i64 A.sp)).setCell ⟨w5.heap.size, 2, none⟩ (.int .i64 A.ep) = w7 at *
          generalize w5.heap.size = D at *
          have KB : Hid (Bk w7 B 38 (acL c)) := hI.out.b.below BD.out
          have hBD : B ≠ D := by have := hI.out.b.lt; omega
          clear toS hact hx
          obtain ⟨d0, d1, d2⟩ := acc_three KD.out.bx
          obtain ⟨c0, c1, c2⟩ := acc_three KB.out.bx
          have bf := KB.out.fz
          have bl := KB.out.lt
          have dl := KD.out.lt
          have HD : Hid (B ≠ D) := hBD
          clear SD hBD
          by_cases hE : E = 0
          · subst hE
            have hok := HA.out hI.out.ok rfl
            have HR : Hid (A.rm = r ∧ okA A = true) := ⟨hok.2.trans hI.out.rm, hok.1⟩
            clear hok HA
            have W8 : Hid (XbI w (((w7.setCell ⟨B, 0, none⟩ (.int .i64 A.rm)).setCell ⟨B, 1, none⟩ (.int .i64 A.sp)).setCell ⟨B, 2, none⟩ (.int .i64 A.ep)) B r A) := ⟨((KB.out.set 0 _).set 1 _).set 2 _, HR.out.2, HR.out.1, (((Below.trans hI.out.bel (BD.out.mono hI.out.bel.size)).setCell hI.out.hB _).setCell hI.out.hB _).setCell hI.out.hB _, hI.out.hB⟩
            go_wp2_with fail
            generalize ((w7.setCell ⟨B, 0, none⟩ (.int .i64 A.rm)).setCell ⟨B, 1, none⟩ (.int .i64 A.sp)).setCell ⟨B, 2, none⟩ (.int .i64 A.ep) = w8 at *
            clear d0 d1 d2 c0 c1 c2 bf bl dl KD BD KB HD
            obtain ⟨⟨n1, n2⟩, ⟨n3, n4⟩, _⟩ := okA_iff.1 HR.out.2
            have r1 := HR.out.1
            have hl : ∀ W, Calls Try.prog 18 #[.agg #[.int .i64 r, .int .i64 A.sp, .int .i64 A.ep]] W fun e w' => e = .returned (.int .i64 (r - A.sp)) ∧ Below W.heap.size W w' := fun W => by
              have h := xLeft_any A W
              rw [show lfI A = r - A.sp by rw [← r1]; exact if_pos HR.out.2] at h
              rw [← r1] at h ⊢
              exact h
            have hl := regrown_call (w := w8) fun W _ => hl W
            obtain ⟨c0, c1, c2⟩ := acc_three W8.out.b.bx
            rw [r1] at c0 n1 n2 n4
            have c0' := cell_regrown c0
            have c1' := cell_regrown c1
            have c2' := cell_regrown c2
            clear c0 c1 c2 r1
            generalize A.sp = S at *
            generalize A.ep = T at *
            obtain ⟨lv, hlv⟩ : ∃ lv, r - S = lv := ⟨_, rfl⟩
            rw [hlv] at hl
            have hsum : lv + S = r := by omega
            have g1 : decide (S < 0) = false := by simp; omega
            have g2 : decide (lv < 0) = false := by simp; omega
            have l0 : 0 ≤ lv := by omega
            have l1 : lv ≤ 256 := by omega
            clear hlv
            refine wp_region_quiet_below (by kernel_rfl) (by kernel_rfl) ?_
            repeat (go_big_quiet_step (first | with_reducible exact hl _ _))
            refine wpQuiet_nil ?_
            intro _ hw'
            obtain ⟨⟨dq, osq⟩, hw''⟩ := hw'
            subst hw''
            have W9 : Hid (XbI w _ B r A) := ⟨W8.out.b.below (below_regrown w8 dq osq), W8.out.ok, W8.out.rm, Below.onto W8.out.bel (below_regrown w8 dq osq), W8.out.hB⟩
            go_wp2_with fail
            go_roundw
            case rel => exact ⟨j + 1, A, by omega, by go_num, W9⟩
            case measure => simp [intOf]; omega
          · have hE2 : (E == 0) = false := by simpa using hE
            have hok : okA c = true ∧ c.rm = c.rm := ⟨hI.out.ok, rfl⟩
            have HR : Hid (c.rm = r ∧ okA c = true) := ⟨hI.out.rm, hok.1⟩
            clear hok HA
            have W8 : Hid (XbI w w7 B r c) := ⟨KB.out, HR.out.2, HR.out.1, Below.trans hI.out.bel (BD.out.mono hI.out.bel.size), hI.out.hB⟩
            go_wp2_with fail
            obtain ⟨w8, hw8⟩ : ∃ w8, w8 = w7 := ⟨_, rfl⟩
            subst hw8
            clear d0 d1 d2 c0 c1 c2 bf bl dl KD BD KB HD
            obtain ⟨⟨n1, n2⟩, ⟨n3, n4⟩, _⟩ := okA_iff.1 HR.out.2
            have r1 := HR.out.1
            have hl : ∀ W, Calls Try.prog 18 #[.agg #[.int .i64 r, .int .i64 c.sp, .int .i64 c.ep]] W fun e w' => e = .returned (.int .i64 (r - c.sp)) ∧ Below W.heap.size W w' := fun W => by
              have h := xLeft_any c W
              rw [show lfI c = r - c.sp by rw [← r1]; exact if_pos HR.out.2] at h
              rw [← r1] at h ⊢
              exact h
            have hl := regrown_call (w := w8) fun W _ => hl W
            obtain ⟨c0, c1, c2⟩ := acc_three W8.out.b.bx
            rw [r1] at c0 n1 n2 n4
            have c0' := cell_regrown c0
            have c1' := cell_regrown c1
            have c2' := cell_regrown c2
            clear c0 c1 c2 r1
            generalize c.sp = S at *
            generalize c.ep = T at *
            obtain ⟨lv, hlv⟩ : ∃ lv, r - S = lv := ⟨_, rfl⟩
            rw [hlv] at hl
            have hsum : lv + S = r := by omega
            have g1 : decide (S < 0) = false := by simp; omega
            have g2 : decide (lv < 0) = false := by simp; omega
            have l0 : 0 ≤ lv := by omega
            have l1 : lv ≤ 256 := by omega
            clear hlv
            refine wp_region_quiet_below (by kernel_rfl) (by kernel_rfl) ?_
            repeat (go_big_quiet_step (first | with_reducible exact hl _ _))
            refine wpQuiet_nil ?_
            intro _ hw'
            obtain ⟨⟨dq, osq⟩, hw''⟩ := hw'
            subst hw''
            have W9 : Hid (XbI w _ B r c) := ⟨W8.out.b.below (below_regrown w8 dq osq), W8.out.ok, W8.out.rm, Below.onto W8.out.bel (below_regrown w8 dq osq), W8.out.hB⟩
            go_wp2_with fail
            go_roundw
            case rel => exact ⟨j + 1, c, by omega, by go_num, W9⟩
            case measure => simp [intOf]; omega
        · have KD : Hid (Bk (((w6.setCell ⟨wr.heap.size, 0, none⟩ (.int .i64 A.rm)).setCell ⟨wr.heap.size, 1, none⟩ (.int .i64 A.sp)).setCell ⟨wr.heap.size, 2, none⟩ (.int .i64 A.ep)) (wr.heap.size) 38 (acL A)) := ((kd.set 0 _).set 1 _).set 2 _
          have BD : Hid (Below wr.heap.size wr (((w6.setCell ⟨wr.heap.size, 0, none⟩ (.int .i64 A.rm)).setCell ⟨wr.heap.size, 1, none⟩ (.int .i64 A.sp)).setCell ⟨wr.heap.size, 2, none⟩ (.int .i64 A.ep))) := ((e8.setCell (Nat.le_refl _) _).setCell (Nat.le_refl _) _).setCell (Nat.le_refl _) _
          have SD : wr.heap.size ≤ wr.heap.size := Nat.le_refl _
          clear bx5 e5 e6 hcall s6 e7 e8 s8 kd y0 y1 y2 yf yl kd5
          generalize ((w6.setCell ⟨wr.heap.size, 0, none⟩ (.int .i64 A.rm)).setCell ⟨wr.heap.size, 1, none⟩ (.int .i64 A.sp)).setCell ⟨wr.heap.size, 2, none⟩ (.int .i64 A.ep) = w7 at *
          obtain ⟨D, hD⟩ : ∃ D, D = wr.heap.size := ⟨_, rfl⟩
          rw [← hD] at KD
          rw [← hD]
          have SD : wr.heap.size ≤ D := by omega
          clear hD
          have KB : Hid (Bk w7 B 38 (acL c)) := hI.out.b.below BD.out
          have hBD : B ≠ D := by have := hI.out.b.lt; omega
          clear toS hact hx
          obtain ⟨d0, d1, d2⟩ := acc_three KD.out.bx
          obtain ⟨c0, c1, c2⟩ := acc_three KB.out.bx
          have bf := KB.out.fz
          have bl := KB.out.lt
          have dl := KD.out.lt
          have HD : Hid (B ≠ D) := hBD
          clear SD hBD
          by_cases hE : E = 0
          · subst hE
            have hok := HA.out hI.out.ok rfl
            have HR : Hid (A.rm = r ∧ okA A = true) := ⟨hok.2.trans hI.out.rm, hok.1⟩
            clear hok HA
            have W8 : Hid (XbI w (((w7.setCell ⟨B, 0, none⟩ (.int .i64 A.rm)).setCell ⟨B, 1, none⟩ (.int .i64 A.sp)).setCell ⟨B, 2, none⟩ (.int .i64 A.ep)) B r A) := ⟨((KB.out.set 0 _).set 1 _).set 2 _, HR.out.2, HR.out.1, (((Below.trans hI.out.bel (BD.out.mono hI.out.bel.size)).setCell hI.out.hB _).setCell hI.out.hB _).setCell hI.out.hB _, hI.out.hB⟩
            go_wp2_with fail
            generalize ((w7.setCell ⟨B, 0, none⟩ (.int .i64 A.rm)).setCell ⟨B, 1, none⟩ (.int .i64 A.sp)).setCell ⟨B, 2, none⟩ (.int .i64 A.ep) = w8 at *
            clear d0 d1 d2 c0 c1 c2 bf bl dl KD BD KB HD
            obtain ⟨⟨n1, n2⟩, ⟨n3, n4⟩, _⟩ := okA_iff.1 HR.out.2
            have r1 := HR.out.1
            have hl : ∀ W, Calls Try.prog 18 #[.agg #[.int .i64 r, .int .i64 A.sp, .int .i64 A.ep]] W fun e w' => e = .returned (.int .i64 (r - A.sp)) ∧ Below W.heap.size W w' := fun W => by
              have h := xLeft_any A W
              rw [show lfI A = r - A.sp by rw [← r1]; exact if_pos HR.out.2] at h
              rw [← r1] at h ⊢
              exact h
            have hl := regrown_call (w := w8) fun W _ => hl W
            obtain ⟨c0, c1, c2⟩ := acc_three W8.out.b.bx
            rw [r1] at c0 n1 n2 n4
            have c0' := cell_regrown c0
            have c1' := cell_regrown c1
            have c2' := cell_regrown c2
            clear c0 c1 c2 r1
            generalize A.sp = S at *
            generalize A.ep = T at *
            obtain ⟨lv, hlv⟩ : ∃ lv, r - S = lv := ⟨_, rfl⟩
            rw [hlv] at hl
            have hsum : lv + S = r := by omega
            have g1 : decide (S < 0) = false := by simp; omega
            have g2 : decide (lv < 0) = false := by simp; omega
            have l0 : 0 ≤ lv := by omega
            have l1 : lv ≤ 256 := by omega
            clear hlv
            refine wp_region_quiet_below (by kernel_rfl) (by kernel_rfl) ?_
            repeat (go_big_quiet_step (first | with_reducible exact hl _ _))
            refine wpQuiet_nil ?_
            intro _ hw'
            obtain ⟨⟨dq, osq⟩, hw''⟩ := hw'
            subst hw''
            have W9 : Hid (XbI w _ B r A) := ⟨W8.out.b.below (below_regrown w8 dq osq), W8.out.ok, W8.out.rm, Below.onto W8.out.bel (below_regrown w8 dq osq), W8.out.hB⟩
            go_wp2_with fail
            go_roundw
            case rel => exact ⟨j + 1, A, by omega, by go_num, W9⟩
            case measure => simp [intOf]; omega
          · have hE2 : (E == 0) = false := by simpa using hE
            have hok : okA c = true ∧ c.rm = c.rm := ⟨hI.out.ok, rfl⟩
            have HR : Hid (c.rm = r ∧ okA c = true) := ⟨hI.out.rm, hok.1⟩
            clear hok HA
            have W8 : Hid (XbI w w7 B r c) := ⟨KB.out, HR.out.2, HR.out.1, Below.trans hI.out.bel (BD.out.mono hI.out.bel.size), hI.out.hB⟩
            go_wp2_with fail
            obtain ⟨w8, hw8⟩ : ∃ w8, w8 = w7 := ⟨_, rfl⟩
            subst hw8
            clear d0 d1 d2 c0 c1 c2 bf bl dl KD BD KB HD
            obtain ⟨⟨n1, n2⟩, ⟨n3, n4⟩, _⟩ := okA_iff.1 HR.out.2
            have r1 := HR.out.1
            have hl : ∀ W, Calls Try.prog 18 #[.agg #[.int .i64 r, .int .i64 c.sp, .int .i64 c.ep]] W fun e w' => e = .returned (.int .i64 (r - c.sp)) ∧ Below W.heap.size W w' := fun W => by
              have h := xLeft_any c W
              rw [show lfI c = r - c.sp by rw [← r1]; exact if_pos HR.out.2] at h
              rw [← r1] at h ⊢
              exact h
            have hl := regrown_call (w := w8) fun W _ => hl W
            obtain ⟨c0, c1, c2⟩ := acc_three W8.out.b.bx
            rw [r1] at c0 n1 n2 n4
            have c0' := cell_regrown c0
            have c1' := cell_regrown c1
            have c2' := cell_regrown c2
            clear c0 c1 c2 r1
            generalize c.sp = S at *
            generalize c.ep = T at *
            obtain ⟨lv, hlv⟩ : ∃ lv, r - S = lv := ⟨_, rfl⟩
            rw [hlv] at hl
            have hsum : lv + S = r := by omega
            have g1 : decide (S < 0) = false := by simp; omega
            have g2 : decide (lv < 0) = false := by simp; omega
            have l0 : 0 ≤ lv := by omega
            have l1 : lv ≤ 256 := by omega
            clear hlv
            refine wp_region_quiet_below (by kernel_rfl) (by kernel_rfl) ?_
            repeat (go_big_quiet_step (first | with_reducible exact hl _ _))
            refine wpQuiet_nil ?_
            intro _ hw'
            obtain ⟨⟨dq, osq⟩, hw''⟩ := hw'
            subst hw''
            have W9 : Hid (XbI w _ B r c) := ⟨W8.out.b.below (below_regrown w8 dq osq), W8.out.ok, W8.out.rm, Below.onto W8.out.bel (below_regrown w8 dq osq), W8.out.hB⟩
            go_wp2_with fail
            go_roundw
            case rel => exact ⟨j + 1, c, by omega, by go_num, W9⟩
            case measure => simp [intOf]; omega
      · have h80' : decide ((j : Int) < 80) = false := by simp; omega
        have BW2 : Hid (Below w.heap.size w wr) := hI.out.bel
        go_wp2_with fail
        refine (hO _).mono ?_
        rintro e w3 ⟨rfl, hb3⟩
        go_wp2_with fail
        go_ret
        exact ⟨rfl, Below.onto BW2.out hb3⟩
    · obtain rfl : j = len := by omega
      have BW2 : Hid (Below w.heap.size w wr) := hI.out.bel
      go_wp2_with fail
      refine (hO _).mono ?_
      rintro e w3 ⟨rfl, hb3⟩
      go_wp2_with fail
      go_ret
      exact ⟨rfl, Below.onto BW2.out hb3⟩
end Go.Proofs.Ytopjidlhhamjhab
