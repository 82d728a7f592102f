/- CreditRuns, walked: scripts of more than 80 acts. -/
import Derived.Test.YtopjidlhhamjhabXRuns0
import Derived.Deep.RegionHeld3
import Derived.BigRegion
namespace Go.Proofs.Ytopjidlhhamjhab
open Go.RowKit Go.Sort Go.Shelf
attribute [local go_sem] Oper.semAt_some
set_option maxRecDepth 100000

set_option maxHeartbeats 8000000 in
theorem xruns_B (c : Ac) (a : Option Addr) (len cap : Nat) (nil : Bool) (g : Nat → XOp) (w : World) (hs : Rd w a len 2 (fun j => encX (g j))) (hlc : len ≤ cap) (hcm : cap ≤ maxLen) (h80 : 80 < len) : Calls Try.prog 4 #[acV c, .slice a len cap, .bool nil] w fun e w' => e = .returned (.bool true) ∧ Below w.heap.size w w' := by
  have hO := fun W => xalive_any W
  have HS : Hid (Rd w a len 2 (fun j => encX (g j))) := hs
  obtain ⟨i0, hi, hz0, hz1, hz2⟩ := info_parts info_xfn
  have K3 : Hid (Bk (w.alloc (.cells (acL c).toArray 38)) w.heap.size 38 (acL c)) := bk_new _ _ _
  have B1 : Hid (Below w.heap.size w (w.alloc (.cells (acL c).toArray 38))) := below_new _ _
  unfold maxLen at hcm
  obtain ⟨bb, off, rfl, _⟩ := hs 0 (by omega)
  have hcap : 80 ≤ cap := by omega
  have hcap2 : ¬ cap = 80 := by omega
  obtain ⟨n, hn80⟩ : ∃ n, n = 80 := ⟨_, rfl⟩
  have hsl : ∀ W : World, Sem.run Try.prog (Instr.slice 39 (.slice (some ⟨bb, off, none⟩) len cap) none (some (.int .i64 80)) none) W = .ok (.slice (some ⟨bb, off, none⟩) n cap) W := by
    intro W
    rw [hn80]
    exact xslice_head _ len 80 cap hcap W
  clear hs
  go_enter Try.func4, Try.ntmps4
  go_wp2_with fail
  generalize w.alloc (.cells (acL c).toArray 38) = w2 at *
  obtain ⟨B3, hB3⟩ : ∃ B3, w.heap.size = B3 := ⟨_, rfl⟩
  have I0 : Hid (Xs1 w w2 c g B3 (.slice none 0 0) 0 []) := ⟨World.ownsRow_nil _ _ _ _, rfl, fun i hi => by omega, hB3 ▸ K3.out, B1.out, by omega⟩
  rw [hB3]
  clear hB3 K3 B1
  have HS2 : Hid (Rd w (some ⟨bb, off, none⟩) n 2 (fun j => encX (g j))) := fun j hj => HS.out j (by omega)
  have hn8 : n ≤ 80 := by omega
  rw [show Value.slice (some ⟨bb, off, none⟩) 80 cap = Value.slice (some ⟨bb, off, none⟩) n cap by rw [hn80]]
  obtain ⟨a, ha⟩ : ∃ a, some (⟨bb, off, none⟩ : Addr) = a := ⟨_, rfl⟩
  rw [ha] at HS2
  rw [ha]
  clear ha
  clear HS hsl hn80 h80 hcap hcap2 hlc
  go_loopw [7, 8] (fun v i wr => ∃ (j : Nat) (Bs : List Nat), j ≤ n ∧ i = .int .i64 j ∧ Hid (Xs1 w wr c g B3 v j Bs)) (fun _ i _ => n - (intOf i).toNat)
  case atStart => exact ⟨0, [], Nat.zero_le _, rfl, I0⟩
  case round =>
    obtain ⟨j, Bs, hj, rfl, hI⟩ := hrel
    by_cases hlt : j < n
    · obtain ⟨b, off, rfl, hcell⟩ := HS2.out j hlt
      have k0 : w.cell? ⟨b, off + j * 2, none⟩ = some (.int .i64 (g j).k) := hcell 0 (by omega)
      have k1 : w.cell? ⟨b, off + j * 2 + 1, none⟩ = some (.int .i64 (g j).e) := hcell 1 (by omega)
      have m0 : wr.cell? ⟨b, off + j * 2, none⟩ = some (.int .i64 (g j).k) := (hI.out.bel.cell (p := ⟨b, off + j * 2, none⟩) (cell_lt k0)).trans k0
      have m1 : wr.cell? ⟨b, off + j * 2 + 1, none⟩ = some (.int .i64 (g j).e) := (hI.out.bel.cell (p := ⟨b, off + j * 2 + 1, none⟩) (cell_lt k1)).trans k1
      have hact := fun W => xact_blk (g j) W
      clear k0 k1 hcell
      go_wp2_with fail
      refine (hact _).mono ?_
      rintro e w5 ⟨rfl, bx5, e5⟩
      have hI2 := hI.out
      have hn5 : wr.heap.size < w5.heap.size := bx5.lt
      have own5 := xown_stay hI2.own e5
      have b35 := hI2.b3.below e5
      have bxs5 : ∀ i, i < j → Bk w5 (Bs.getD i 0) 44 (xoL (g i)) := fun i hi => (hI2.bx i hi).below e5
      have bel5 : Below w.heap.size w w5 := Below.onto hI2.bel e5
      have hlen := hI2.len
      have hB := hI2.hB
      have bs5 := bel5.size
      clear hI hI2 hact e5 m0 m1
      go_wp2_with (at_builtin; refine wpList_append_own _ rfl _ _ 40 rfl w.heap.size 41 i0 .nilFunc 1 8 Try.underlying40 hi hz0 hz1 hz2 rfl (by decide) _ _ _ rfl (own5.alloc _) ⟨w5.heap.size, 0, none⟩ 1 1 [xfn wr.heap.size] rfl rfl (cell_one_new _ _ _) (by simp [Value.oneCell']) (by unfold maxLen; omega) (by omega) (by simp; omega) ?_; intro v' w6 hown' hgrow _; have I6 : Hid (Xs1 w w6 c g B3 v' (j + 1) (Bs ++ [wr.heap.size])) := xs1_more bel5 hlen hB own5 bxs5 b35 bx5 hown' hgrow)
      go_roundw
      case rel => exact ⟨j + 1, _, by omega, by go_num, I6⟩
      case measure => simp [intOf]; omega
    · obtain rfl : j = n := by omega
      clear I0 hj hlt w2
      have hnn : j ≤ 80 := hn8
      cases nil
      · have hlen := hI.out.len
        have I6 : Hid (Xs2 w wr c g B3 u7 j false Bs) := hI.out.fin
        obtain ⟨c30, c31, c32⟩ := acc_three I6.out.b3.bx
        have c3l := I6.out.b3.lt
        have K9 : Hid (Bk (wr.alloc (.cells (acL c).toArray 38)) wr.heap.size 38 (acL c)) := bk_new _ _ _
        go_wp2_with fail
        obtain ⟨v7, hv7⟩ : ∃ v7, u7 = v7 := ⟨_, rfl⟩
        rw [hv7] at I6
        rw [hv7]
        clear hv7
        obtain ⟨w6, hw6⟩ : ∃ w6, w6 = wr := ⟨_, rfl⟩
        rw [← hw6] at I6 K9 c30 c31 c32 c3l
        rw [← hw6]
        clear hw6
        have J0 : Hid (Xs3 w (w6.alloc (.cells (acL c).toArray 38)) c g B3 w6.heap.size v7 j false Bs 0 0 0) := ⟨I6.out.below (below_new _ _), K9.out, I6.out.bel.size, by have := I6.out.b3.lt; omega, fun q hq => by omega, Nat.zero_le _, .inl ⟨rfl, rfl⟩⟩
        clear hI I6 K9 c30 c31 c32 c3l hlen
        generalize w6.alloc (.cells (acL c).toArray 38) = w7 at *
        generalize w6.heap.size = B9 at *
        go_loopw [10, 11, 12] (fun m e i wr => ∃ (k q : Nat) (E : Int), m = .int .i64 k ∧ e = .int .i64 E ∧ i = .int .i64 q ∧ q ≤ j ∧ Hid (Xs3 w wr c g B3 B9 v7 j false Bs k q E)) (fun _ _ i _ => j - (intOf i).toNat)
        case atStart => exact ⟨0, 0, 0, rfl, rfl, rfl, Nat.zero_le _, J0⟩
        case round =>
          obtain ⟨k, q, E, rfl, rfl, rfl, hq, hX⟩ := hrel
          clear J0
          rcases hX.out.e with ⟨rfl, rfl⟩ | ⟨hE, hE1, hq1, hkj⟩
          · by_cases hlt : q < j
            · obtain ⟨b, off, rfl, hcell⟩ := HS2.out q hlt
              obtain ⟨k, hk⟩ : ∃ k, q = k := ⟨_, rfl⟩
              subst hk
              have k0 : w.cell? ⟨b, off + q * 2, none⟩ = some (.int .i64 (g q).k) := hcell 0 (by omega)
              have k1 : w.cell? ⟨b, off + q * 2 + 1, none⟩ = some (.int .i64 (g q).e) := hcell 1 (by omega)
              have m0 : wr.cell? ⟨b, off + q * 2, none⟩ = some (.int .i64 (g q).k) := (hX.out.s.bel.cell (p := ⟨b, off + q * 2, none⟩) (cell_lt k0)).trans k0
              have m1 : wr.cell? ⟨b, off + q * 2 + 1, none⟩ = some (.int .i64 (g q).e) := (hX.out.s.bel.cell (p := ⟨b, off + q * 2 + 1, none⟩) (cell_lt k1)).trans k1
              have hp := fun W => xp_any (g q) (acN g c q) W
              have HX : Hid (acN g c (q + 1) = aoA (g q) (acN g c q) ∧ erN g c q = aoE (g q) (acN g c q)) := ⟨rfl, rfl⟩
              generalize aoA (g q) (acN g c q) = A at *
              generalize aoE (g q) (acN g c q) = F at *
              obtain ⟨kk, hkk⟩ : ∃ kk, (g q).k = kk := ⟨_, rfl⟩
              obtain ⟨ke, hke⟩ : ∃ ke, (g q).e = ke := ⟨_, rfl⟩
              replace hp : ∀ W, Calls Try.prog 15 #[acV (acN g c q), .agg #[.int .i64 kk, .int .i64 ke]] W fun e w' => e = .returned (.tuple #[acV A, .int .i64 F]) ∧ Below W.heap.size W w' := fun W => by rw [← hkk, ← hke]; exact hp W
              rw [hkk] at m0
              rw [hke] at m1
              obtain ⟨d0, d1, d2⟩ := acc_three hX.out.b9.bx
              have h9w := hX.out.b9.lt
              obtain ⟨c1, hc1⟩ : ∃ c1, acN g c q = c1 := ⟨_, rfl⟩
              rw [hc1] at hp d0 d1 d2
              have HC : Hid (acN g c q = c1) := hc1
              have toS : ∀ W, Below wr.heap.size wr W → (W.cell? ⟨b, off + q * 2, none⟩ = some (.int .i64 kk) ∧ W.cell? ⟨b, off + q * 2 + 1, none⟩ = some (.int .i64 ke) ∧ W.cell? ⟨B9, 0, none⟩ = some (.int .i64 c1.rm) ∧ W.cell? ⟨B9, 1, none⟩ = some (.int .i64 c1.sp) ∧ W.cell? ⟨B9, 2, none⟩ = some (.int .i64 c1.ep)) := fun W hW =>
                ⟨(hW.cell (p := ⟨b, off + q * 2, none⟩) (cell_lt m0)).trans m0, (hW.cell (p := ⟨b, off + q * 2 + 1, none⟩) (cell_lt m1)).trans m1, (hW.cell (p := ⟨B9, 0, none⟩) (cell_lt d0)).trans d0, (hW.cell (p := ⟨B9, 1, none⟩) (cell_lt d1)).trans d1, (hW.cell (p := ⟨B9, 2, none⟩) (cell_lt d2)).trans d2⟩
              clear k0 k1 m0 m1 d0 d1 d2 hkk hke hcell hc1
              go_wp2_with fail
              go_region_held3 (fun W => W.cell? ⟨b, off + q * 2, none⟩ = some (.int .i64 kk) ∧ W.cell? ⟨b, off + q * 2 + 1, none⟩ = some (.int .i64 ke) ∧ W.cell? ⟨B9, 0, none⟩ = some (.int .i64 c1.rm) ∧ W.cell? ⟨B9, 1, none⟩ = some (.int .i64 c1.sp) ∧ W.cell? ⟨B9, 2, none⟩ = some (.int .i64 c1.ep)) (first | (with_reducible assumption) | (refine toS _ ?_; repeat (first | (with_reducible exact e8) | (with_reducible exact e6) | (with_reducible exact Below.refl _ _) | (with_reducible refine Below.drew ?_) | (with_reducible refine Below.setCell ?_ ?_ _) | (with_reducible refine Below.alloc ?_ ?_ _) | (with_reducible exact Nat.le_refl _) | omega | (dsimp only; omega) | (simp only [World.size_alloc]; omega)))) (first | (go_at_call 15; (with_reducible refine (hp _).mono ?_); rintro v w9 ⟨rfl, e9⟩; have e8 : Below wr.heap.size wr w9 := Below.onto (Below.onto (below_new wr (.cells (acL ac0).toArray 38)) ((Below.refl _ _).drew)) e9; have s8 := e8.size; have kd : Bk w9 wr.heap.size 38 (acL ac0) := Bk.below (w := (wr.alloc (.cells (acL ac0).toArray 38)).drew) (bk_new wr (acL ac0) 38) e9; obtain ⟨y0, y1, y2⟩ := acc_three (a := ac0) kd.bx; have yf := kd.fz; have yl := kd.lt))
              have KD : Hid (Bk (((w9.setCell ⟨wr.heap.size, 0, none⟩ (.int .i64 A.rm)).setCell ⟨wr.heap.size, 1, none⟩ (.int .i64 A.sp)).setCell ⟨wr.heap.size, 2, none⟩ (.int .i64 A.ep)) wr.heap.size 38 (acL A)) := ((kd.set 0 _).set 1 _).set 2 _
              have XW : Hid (Xs3 w (((w9.setCell ⟨wr.heap.size, 0, none⟩ (.int .i64 A.rm)).setCell ⟨wr.heap.size, 1, none⟩ (.int .i64 A.sp)).setCell ⟨wr.heap.size, 2, none⟩ (.int .i64 A.ep)) c g B3 B9 v7 j false Bs q q 0) := hX.out.below (((e8.setCell (Nat.le_refl _) _).setCell (Nat.le_refl _) _).setCell (Nat.le_refl _) _)
              clear kd y0 y1 y2 yf yl e8 s8 e9 hX toS hp
              generalize ((w9.setCell ⟨wr.heap.size, 0, none⟩ (.int .i64 A.rm)).setCell ⟨wr.heap.size, 1, none⟩ (.int .i64 A.sp)).setCell ⟨wr.heap.size, 2, none⟩ (.int .i64 A.ep) = w11 at *
              obtain ⟨D, hD⟩ : ∃ D, D = wr.heap.size := ⟨_, rfl⟩
              rw [← hD] at KD h9w
              rw [← hD]
              clear hD
              have HD : Hid (B9 < D) := h9w
              clear h9w
              obtain ⟨d0, d1, d2⟩ := acc_three KD.out.bx
              obtain ⟨f0, f1, f2⟩ := acc_three XW.out.b9.bx
              have bf := XW.out.b9.fz
              have bl := XW.out.b9.lt
              have dl := KD.out.lt
              by_cases hF : F = 0
              · subst hF
                have X8 : Hid (Xs3 w (((w11.setCell ⟨B9, 0, none⟩ (.int .i64 A.rm)).setCell ⟨B9, 1, none⟩ (.int .i64 A.sp)).setCell ⟨B9, 2, none⟩ (.int .i64 A.ep)) c g B3 B9 v7 j false Bs (q + 1) (q + 1) 0) :=
                  ⟨((XW.out.s.set XW.out.b9 XW.out.h9 XW.out.ne).set (XW.out.b9.set 0 _) XW.out.h9 XW.out.ne).set ((XW.out.b9.set 0 _).set 1 _) XW.out.h9 XW.out.ne, HX.out.1 ▸ ((XW.out.b9.set 0 (.int .i64 A.rm)).set 1 (.int .i64 A.sp)).set 2 (.int .i64 A.ep), XW.out.h9, XW.out.ne, fun z hz => by
                    by_cases ez : z = q
                    · rw [ez]; exact HX.out.2
                    · exact XW.out.ok z (by omega), by omega, .inl ⟨rfl, rfl⟩⟩
                clear HX XW KD HC
                go_wp2_with fail
                go_roundw
                case rel => exact ⟨q + 1, q + 1, 0, by go_num, rfl, by go_num, by omega, X8⟩
                case measure => simp [intOf]; omega
              · have hF2 : (F == 0) = false := by simpa using hF
                have X8 : Hid (Xs3 w w11 c g B3 B9 v7 j false Bs q (q + 1) F) := ⟨XW.out.s, XW.out.b9, XW.out.h9, XW.out.ne, XW.out.ok, XW.out.le, .inr ⟨hF, HX.out.2.symm, rfl, hlt⟩⟩
                clear HX XW KD HC d0 d1 d2 f0 f1 f2 bf bl dl HD
                go_wp2_with fail
                go_roundw
                case rel => exact ⟨q, q + 1, F, rfl, rfl, by go_num, by omega, X8⟩
                case measure => simp [intOf]; omega
            · have hqj : q = j := by omega
              subst hqj
              have HS : Hid (Stp g c q q) := ⟨Nat.le_refl _, hX.out.ok, .inl rfl⟩
              have HF : Hid (erS g c q q false = 0) := by show _ = _; simp [erS]
              obtain ⟨ra, rc, hv, hrow⟩ := hX.out.s.row
              have hrun := xrun_any c g ra q false rc (fun i => Bs.getD i 0) wr (by omega) hrow hX.out.s.bx
              simp only [Bool.toNat_false, Nat.add_zero] at hv hrun
              have HS3 : Hid (Bk wr B9 38 (acL (acN g c q)) ∧ Bk wr B3 38 (acL c) ∧ Below w.heap.size w wr ∧ w.heap.size ≤ B9) := ⟨hX.out.b9, hX.out.s.b3, hX.out.s.bel, hX.out.h9⟩
              subst hv
              obtain ⟨c30, c31, c32⟩ := acc_three HS3.out.2.1.bx
              have c3l := HS3.out.2.1.lt
              clear hrow hX HS2
              go_wp2_with fail
              refine hrun.mono ?_
              rintro e w9 ⟨i9, hst, rfl, hb9⟩
              obtain rfl : i9 = q := hst.uniq HS.out
              rw [HF.out]
              clear hst hrun c30 c31 c32 c3l HF HS
              have H9 : Hid (Bk w9 B9 38 (acL (acN g c i9)) ∧ Below w.heap.size w w9) := ⟨HS3.out.1.below hb9, Below.onto HS3.out.2.2.1 hb9⟩
              clear hb9 HS3
              generalize acN g c i9 = A at *
              have H10 : Hid (Below w.heap.size w (w9.alloc (.cells (acL A).toArray 38))) := Below.onto H9.out.2 (below_new _ _)
              obtain ⟨f0, f1, f2⟩ := acc_three H9.out.1.bx
              have fl := H9.out.1.lt
              go_wp2_with fail
              refine (hO _).mono ?_
              rintro e w11 ⟨rfl, hb⟩
              go_wp2_with fail
              go_ret
              exact ⟨rfl, Below.onto H10.out hb⟩
          · have HS : Hid (Stp g c j k) := ⟨by omega, hX.out.ok, .inr (hE1 ▸ hE)⟩
            have HF : Hid (erS g c j k false = E) := by show _ = _; unfold erS; rw [if_neg (by omega)]; exact hE1.symm
            have hE2 : (E == 0) = false := by simpa using hE
            clear hE hE1
            by_cases hqj : q < j
            · clear hq1 hkj
              obtain ⟨ra, rc, hv, hrow⟩ := hX.out.s.row
              have hrun := xrun_any c g ra j false rc (fun i => Bs.getD i 0) wr (by omega) hrow hX.out.s.bx
              simp only [Bool.toNat_false, Nat.add_zero] at hv hrun
              have HS3 : Hid (Bk wr B9 38 (acL (acN g c k)) ∧ Bk wr B3 38 (acL c) ∧ Below w.heap.size w wr ∧ w.heap.size ≤ B9) := ⟨hX.out.b9, hX.out.s.b3, hX.out.s.bel, hX.out.h9⟩
              subst hv
              obtain ⟨c30, c31, c32⟩ := acc_three HS3.out.2.1.bx
              have c3l := HS3.out.2.1.lt
              clear hrow hX HS2
              go_wp2_with fail
              refine hrun.mono ?_
              rintro e w9 ⟨i9, hst, rfl, hb9⟩
              obtain rfl : i9 = k := hst.uniq HS.out
              rw [HF.out]
              clear hst hrun c30 c31 c32 c3l HF HS
              have H9 : Hid (Bk w9 B9 38 (acL (acN g c i9)) ∧ Below w.heap.size w w9) := ⟨HS3.out.1.below hb9, Below.onto HS3.out.2.2.1 hb9⟩
              clear hb9 HS3
              generalize acN g c i9 = A at *
              have H10 : Hid (Below w.heap.size w (w9.alloc (.cells (acL A).toArray 38))) := Below.onto H9.out.2 (below_new _ _)
              obtain ⟨f0, f1, f2⟩ := acc_three H9.out.1.bx
              have fl := H9.out.1.lt
              go_wp2_with fail
              refine (hO _).mono ?_
              rintro e w11 ⟨rfl, hb⟩
              go_wp2_with fail
              go_ret
              exact ⟨rfl, Below.onto H10.out hb⟩
            · clear hq1 hkj
              obtain ⟨ra, rc, hv, hrow⟩ := hX.out.s.row
              have hrun := xrun_any c g ra j false rc (fun i => Bs.getD i 0) wr (by omega) hrow hX.out.s.bx
              simp only [Bool.toNat_false, Nat.add_zero] at hv hrun
              have HS3 : Hid (Bk wr B9 38 (acL (acN g c k)) ∧ Bk wr B3 38 (acL c) ∧ Below w.heap.size w wr ∧ w.heap.size ≤ B9) := ⟨hX.out.b9, hX.out.s.b3, hX.out.s.bel, hX.out.h9⟩
              subst hv
              obtain ⟨c30, c31, c32⟩ := acc_three HS3.out.2.1.bx
              have c3l := HS3.out.2.1.lt
              clear hrow hX HS2
              go_wp2_with fail
              refine hrun.mono ?_
              rintro e w9 ⟨i9, hst, rfl, hb9⟩
              obtain rfl : i9 = k := hst.uniq HS.out
              rw [HF.out]
              clear hst hrun c30 c31 c32 c3l HF HS
              have H9 : Hid (Bk w9 B9 38 (acL (acN g c i9)) ∧ Below w.heap.size w w9) := ⟨HS3.out.1.below hb9, Below.onto HS3.out.2.2.1 hb9⟩
              clear hb9 HS3
              generalize acN g c i9 = A at *
              have H10 : Hid (Below w.heap.size w (w9.alloc (.cells (acL A).toArray 38))) := Below.onto H9.out.2 (below_new _ _)
              obtain ⟨f0, f1, f2⟩ := acc_three H9.out.1.bx
              have fl := H9.out.1.lt
              go_wp2_with fail
              refine (hO _).mono ?_
              rintro e w11 ⟨rfl, hb⟩
              go_wp2_with fail
              go_ret
              exact ⟨rfl, Below.onto H10.out hb⟩
      · have hlen := hI.out.len
        have own5 := hI.out.own
        have bs5 := hI.out.bel.size
        go_wp2_with (at_builtin; refine wpList_append_own _ rfl _ _ 40 rfl w.heap.size 41 i0 .nilFunc 1 8 Try.underlying40 hi hz0 hz1 hz2 rfl (by decide) _ _ _ rfl (own5.alloc _) ⟨wr.heap.size, 0, none⟩ 1 1 [.nilFunc] rfl rfl (cell_one_new _ _ _) (by simp [Value.oneCell']) (by unfold maxLen; omega) (by omega) (by simp; omega) ?_; intro v7 w6 hown' hgrow _; have I6 : Hid (Xs2 w w6 c g B3 v7 j true Bs) := hI.out.nil hown' hgrow; have c3 := I6.out.b3.bx; obtain ⟨c30, c31, c32⟩ := acc_three c3; have c3l := I6.out.b3.lt; have K9 : Hid (Bk (w6.alloc (.cells (acL c).toArray 38)) w6.heap.size 38 (acL c)) := bk_new _ _ _; clear hown' hgrow own5 c3)
        have J0 : Hid (Xs3 w (w6.alloc (.cells (acL c).toArray 38)) c g B3 w6.heap.size v7 j true Bs 0 0 0) := ⟨I6.out.below (below_new _ _), K9.out, I6.out.bel.size, by have := I6.out.b3.lt; omega, fun q hq => by omega, Nat.zero_le _, .inl ⟨rfl, rfl⟩⟩
        clear hI I6 K9 c30 c31 c32 c3l hlen
        generalize w6.alloc (.cells (acL c).toArray 38) = w7 at *
        generalize w6.heap.size = B9 at *
        go_loopw [10, 11, 12] (fun m e i wr => ∃ (k q : Nat) (E : Int), m = .int .i64 k ∧ e = .int .i64 E ∧ i = .int .i64 q ∧ q ≤ j ∧ Hid (Xs3 w wr c g B3 B9 v7 j true Bs k q E)) (fun _ _ i _ => j - (intOf i).toNat)
        case atStart => exact ⟨0, 0, 0, rfl, rfl, rfl, Nat.zero_le _, J0⟩
        case round =>
          obtain ⟨k, q, E, rfl, rfl, rfl, hq, hX⟩ := hrel
          clear J0
          rcases hX.out.e with ⟨rfl, rfl⟩ | ⟨hE, hE1, hq1, hkj⟩
          · by_cases hlt : q < j
            · obtain ⟨b, off, rfl, hcell⟩ := HS2.out q hlt
              obtain ⟨k, hk⟩ : ∃ k, q = k := ⟨_, rfl⟩
              subst hk
              have k0 : w.cell? ⟨b, off + q * 2, none⟩ = some (.int .i64 (g q).k) := hcell 0 (by omega)
              have k1 : w.cell? ⟨b, off + q * 2 + 1, none⟩ = some (.int .i64 (g q).e) := hcell 1 (by omega)
              have m0 : wr.cell? ⟨b, off + q * 2, none⟩ = some (.int .i64 (g q).k) := (hX.out.s.bel.cell (p := ⟨b, off + q * 2, none⟩) (cell_lt k0)).trans k0
              have m1 : wr.cell? ⟨b, off + q * 2 + 1, none⟩ = some (.int .i64 (g q).e) := (hX.out.s.bel.cell (p := ⟨b, off + q * 2 + 1, none⟩) (cell_lt k1)).trans k1
              have hp := fun W => xp_any (g q) (acN g c q) W
              have HX : Hid (acN g c (q + 1) = aoA (g q) (acN g c q) ∧ erN g c q = aoE (g q) (acN g c q)) := ⟨rfl, rfl⟩
              generalize aoA (g q) (acN g c q) = A at *
              generalize aoE (g q) (acN g c q) = F at *
              obtain ⟨kk, hkk⟩ : ∃ kk, (g q).k = kk := ⟨_, rfl⟩
              obtain ⟨ke, hke⟩ : ∃ ke, (g q).e = ke := ⟨_, rfl⟩
              replace hp : ∀ W, Calls Try.prog 15 #[acV (acN g c q), .agg #[.int .i64 kk, .int .i64 ke]] W fun e w' => e = .returned (.tuple #[acV A, .int .i64 F]) ∧ Below W.heap.size W w' := fun W => by rw [← hkk, ← hke]; exact hp W
              rw [hkk] at m0
              rw [hke] at m1
              obtain ⟨d0, d1, d2⟩ := acc_three hX.out.b9.bx
              have h9w := hX.out.b9.lt
              obtain ⟨c1, hc1⟩ : ∃ c1, acN g c q = c1 := ⟨_, rfl⟩
              rw [hc1] at hp d0 d1 d2
              have HC : Hid (acN g c q = c1) := hc1
              have toS : ∀ W, Below wr.heap.size wr W → (W.cell? ⟨b, off + q * 2, none⟩ = some (.int .i64 kk) ∧ W.cell? ⟨b, off + q * 2 + 1, none⟩ = some (.int .i64 ke) ∧ W.cell? ⟨B9, 0, none⟩ = some (.int .i64 c1.rm) ∧ W.cell? ⟨B9, 1, none⟩ = some (.int .i64 c1.sp) ∧ W.cell? ⟨B9, 2, none⟩ = some (.int .i64 c1.ep)) := fun W hW =>
                ⟨(hW.cell (p := ⟨b, off + q * 2, none⟩) (cell_lt m0)).trans m0, (hW.cell (p := ⟨b, off + q * 2 + 1, none⟩) (cell_lt m1)).trans m1, (hW.cell (p := ⟨B9, 0, none⟩) (cell_lt d0)).trans d0, (hW.cell (p := ⟨B9, 1, none⟩) (cell_lt d1)).trans d1, (hW.cell (p := ⟨B9, 2, none⟩) (cell_lt d2)).trans d2⟩
              clear k0 k1 m0 m1 d0 d1 d2 hkk hke hcell hc1
              go_wp2_with fail
              go_region_held3 (fun W => W.cell? ⟨b, off + q * 2, none⟩ = some (.int .i64 kk) ∧ W.cell? ⟨b, off + q * 2 + 1, none⟩ = some (.int .i64 ke) ∧ W.cell? ⟨B9, 0, none⟩ = some (.int .i64 c1.rm) ∧ W.cell? ⟨B9, 1, none⟩ = some (.int .i64 c1.sp) ∧ W.cell? ⟨B9, 2, none⟩ = some (.int .i64 c1.ep)) (first | (with_reducible assumption) | (refine toS _ ?_; repeat (first | (with_reducible exact e8) | (with_reducible exact e6) | (with_reducible exact Below.refl _ _) | (with_reducible refine Below.drew ?_) | (with_reducible refine Below.setCell ?_ ?_ _) | (with_reducible refine Below.alloc ?_ ?_ _) | (with_reducible exact Nat.le_refl _) | omega | (dsimp only; omega) | (simp only [World.size_alloc]; omega)))) (first | (go_at_call 15; (with_reducible refine (hp _).mono ?_); rintro v w9 ⟨rfl, e9⟩; have e8 : Below wr.heap.size wr w9 := Below.onto (Below.onto (below_new wr (.cells (acL ac0).toArray 38)) ((Below.refl _ _).drew)) e9; have s8 := e8.size; have kd : Bk w9 wr.heap.size 38 (acL ac0) := Bk.below (w := (wr.alloc (.cells (acL ac0).toArray 38)).drew) (bk_new wr (acL ac0) 38) e9; obtain ⟨y0, y1, y2⟩ := acc_three (a := ac0) kd.bx; have yf := kd.fz; have yl := kd.lt))
              have KD : Hid (Bk (((w9.setCell ⟨wr.heap.size, 0, none⟩ (.int .i64 A.rm)).setCell ⟨wr.heap.size, 1, none⟩ (.int .i64 A.sp)).setCell ⟨wr.heap.size, 2, none⟩ (.int .i64 A.ep)) wr.heap.size 38 (acL A)) := ((kd.set 0 _).set 1 _).set 2 _
              have XW : Hid (Xs3 w (((w9.setCell ⟨wr.heap.size, 0, none⟩ (.int .i64 A.rm)).setCell ⟨wr.heap.size, 1, none⟩ (.int .i64 A.sp)).setCell ⟨wr.heap.size, 2, none⟩ (.int .i64 A.ep)) c g B3 B9 v7 j true Bs q q 0) := hX.out.below (((e8.setCell (Nat.le_refl _) _).setCell (Nat.le_refl _) _).setCell (Nat.le_refl _) _)
              clear kd y0 y1 y2 yf yl e8 s8 e9 hX toS hp
              generalize ((w9.setCell ⟨wr.heap.size, 0, none⟩ (.int .i64 A.rm)).setCell ⟨wr.heap.size, 1, none⟩ (.int .i64 A.sp)).setCell ⟨wr.heap.size, 2, none⟩ (.int .i64 A.ep) = w11 at *
              obtain ⟨D, hD⟩ : ∃ D, D = wr.heap.size := ⟨_, rfl⟩
              rw [← hD] at KD h9w
              rw [← hD]
              clear hD
              have HD : Hid (B9 < D) := h9w
              clear h9w
              obtain ⟨d0, d1, d2⟩ := acc_three KD.out.bx
              obtain ⟨f0, f1, f2⟩ := acc_three XW.out.b9.bx
              have bf := XW.out.b9.fz
              have bl := XW.out.b9.lt
              have dl := KD.out.lt
              by_cases hF : F = 0
              · subst hF
                have X8 : Hid (Xs3 w (((w11.setCell ⟨B9, 0, none⟩ (.int .i64 A.rm)).setCell ⟨B9, 1, none⟩ (.int .i64 A.sp)).setCell ⟨B9, 2, none⟩ (.int .i64 A.ep)) c g B3 B9 v7 j true Bs (q + 1) (q + 1) 0) :=
                  ⟨((XW.out.s.set XW.out.b9 XW.out.h9 XW.out.ne).set (XW.out.b9.set 0 _) XW.out.h9 XW.out.ne).set ((XW.out.b9.set 0 _).set 1 _) XW.out.h9 XW.out.ne, HX.out.1 ▸ ((XW.out.b9.set 0 (.int .i64 A.rm)).set 1 (.int .i64 A.sp)).set 2 (.int .i64 A.ep), XW.out.h9, XW.out.ne, fun z hz => by
                    by_cases ez : z = q
                    · rw [ez]; exact HX.out.2
                    · exact XW.out.ok z (by omega), by omega, .inl ⟨rfl, rfl⟩⟩
                clear HX XW KD HC
                go_wp2_with fail
                go_roundw
                case rel => exact ⟨q + 1, q + 1, 0, by go_num, rfl, by go_num, by omega, X8⟩
                case measure => simp [intOf]; omega
              · have hF2 : (F == 0) = false := by simpa using hF
                have X8 : Hid (Xs3 w w11 c g B3 B9 v7 j true Bs q (q + 1) F) := ⟨XW.out.s, XW.out.b9, XW.out.h9, XW.out.ne, XW.out.ok, XW.out.le, .inr ⟨hF, HX.out.2.symm, rfl, hlt⟩⟩
                clear HX XW KD HC d0 d1 d2 f0 f1 f2 bf bl dl HD
                go_wp2_with fail
                go_roundw
                case rel => exact ⟨q, q + 1, F, rfl, rfl, by go_num, by omega, X8⟩
                case measure => simp [intOf]; omega
            · have hqj : q = j := by omega
              subst hqj
              have HS : Hid (Stp g c q q) := ⟨Nat.le_refl _, hX.out.ok, .inl rfl⟩
              have HF : Hid (erS g c q q true = 1) := by show _ = _; simp [erS]
              obtain ⟨ra, rc, hv, hrow⟩ := hX.out.s.row
              have hrun := xrun_any c g ra q true rc (fun i => Bs.getD i 0) wr (by omega) hrow hX.out.s.bx
              simp only [Bool.toNat_true] at hv hrun
              have HS3 : Hid (Bk wr B9 38 (acL (acN g c q)) ∧ Bk wr B3 38 (acL c) ∧ Below w.heap.size w wr ∧ w.heap.size ≤ B9) := ⟨hX.out.b9, hX.out.s.b3, hX.out.s.bel, hX.out.h9⟩
              subst hv
              obtain ⟨c30, c31, c32⟩ := acc_three HS3.out.2.1.bx
              have c3l := HS3.out.2.1.lt
              clear hrow hX HS2
              go_wp2_with fail
              refine hrun.mono ?_
              rintro e w9 ⟨i9, hst, rfl, hb9⟩
              obtain rfl : i9 = q := hst.uniq HS.out
              rw [HF.out]
              clear hst hrun c30 c31 c32 c3l HF HS
              have H9 : Hid (Bk w9 B9 38 (acL (acN g c i9)) ∧ Below w.heap.size w w9) := ⟨HS3.out.1.below hb9, Below.onto HS3.out.2.2.1 hb9⟩
              clear hb9 HS3
              generalize acN g c i9 = A at *
              have H10 : Hid (Below w.heap.size w (w9.alloc (.cells (acL A).toArray 38))) := Below.onto H9.out.2 (below_new _ _)
              obtain ⟨f0, f1, f2⟩ := acc_three H9.out.1.bx
              have fl := H9.out.1.lt
              go_wp2_with fail
              refine (hO _).mono ?_
              rintro e w11 ⟨rfl, hb⟩
              go_wp2_with fail
              go_ret
              exact ⟨rfl, Below.onto H10.out hb⟩
          · have HS : Hid (Stp g c j k) := ⟨by omega, hX.out.ok, .inr (hE1 ▸ hE)⟩
            have HF : Hid (erS g c j k true = E) := by show _ = _; unfold erS; rw [if_neg (by omega)]; exact hE1.symm
            have hE2 : (E == 0) = false := by simpa using hE
            clear hE hE1
            by_cases hqj : q < j
            · clear hq1 hkj
              obtain ⟨ra, rc, hv, hrow⟩ := hX.out.s.row
              have hrun := xrun_any c g ra j true rc (fun i => Bs.getD i 0) wr (by omega) hrow hX.out.s.bx
              simp only [Bool.toNat_true] at hv hrun
              have HS3 : Hid (Bk wr B9 38 (acL (acN g c k)) ∧ Bk wr B3 38 (acL c) ∧ Below w.heap.size w wr ∧ w.heap.size ≤ B9) := ⟨hX.out.b9, hX.out.s.b3, hX.out.s.bel, hX.out.h9⟩
              subst hv
              obtain ⟨c30, c31, c32⟩ := acc_three HS3.out.2.1.bx
              have c3l := HS3.out.2.1.lt
              clear hrow hX HS2
              go_wp2_with fail
              refine hrun.mono ?_
              rintro e w9 ⟨i9, hst, rfl, hb9⟩
              obtain rfl : i9 = k := hst.uniq HS.out
              rw [HF.out]
              clear hst hrun c30 c31 c32 c3l HF HS
              have H9 : Hid (Bk w9 B9 38 (acL (acN g c i9)) ∧ Below w.heap.size w w9) := ⟨HS3.out.1.below hb9, Below.onto HS3.out.2.2.1 hb9⟩
              clear hb9 HS3
              generalize acN g c i9 = A at *
              have H10 : Hid (Below w.heap.size w (w9.alloc (.cells (acL A).toArray 38))) := Below.onto H9.out.2 (below_new _ _)
              obtain ⟨f0, f1, f2⟩ := acc_three H9.out.1.bx
              have fl := H9.out.1.lt
              go_wp2_with fail
              refine (hO _).mono ?_
              rintro e w11 ⟨rfl, hb⟩
              go_wp2_with fail
              go_ret
              exact ⟨rfl, Below.onto H10.out hb⟩
            · clear hq1 hkj
              obtain ⟨ra, rc, hv, hrow⟩ := hX.out.s.row
              have hrun := xrun_any c g ra j true rc (fun i => Bs.getD i 0) wr (by omega) hrow hX.out.s.bx
              simp only [Bool.toNat_true] at hv hrun
              have HS3 : Hid (Bk wr B9 38 (acL (acN g c k)) ∧ Bk wr B3 38 (acL c) ∧ Below w.heap.size w wr ∧ w.heap.size ≤ B9) := ⟨hX.out.b9, hX.out.s.b3, hX.out.s.bel, hX.out.h9⟩
              subst hv
              obtain ⟨c30, c31, c32⟩ := acc_three HS3.out.2.1.bx
              have c3l := HS3.out.2.1.lt
              clear hrow hX HS2
              go_wp2_with fail
              refine hrun.mono ?_
              rintro e w9 ⟨i9, hst, rfl, hb9⟩
              obtain rfl : i9 = k := hst.uniq HS.out
              rw [HF.out]
              clear hst hrun c30 c31 c32 c3l HF HS
              have H9 : Hid (Bk w9 B9 38 (acL (acN g c i9)) ∧ Below w.heap.size w w9) := ⟨HS3.out.1.below hb9, Below.onto HS3.out.2.2.1 hb9⟩
              clear hb9 HS3
              generalize acN g c i9 = A at *
              have H10 : Hid (Below w.heap.size w (w9.alloc (.cells (acL A).toArray 38))) := Below.onto H9.out.2 (below_new _ _)
              obtain ⟨f0, f1, f2⟩ := acc_three H9.out.1.bx
              have fl := H9.out.1.lt
              go_wp2_with fail
              refine (hO _).mono ?_
              rintro e w11 ⟨rfl, hb⟩
              go_wp2_with fail
              go_ret
              exact ⟨rfl, Below.onto H10.out hb⟩
end Go.Proofs.Ytopjidlhhamjhab
