/- The document's Sorted, and Same. -/
import Derived.Test.YtlcljchpljeonaaOSorted
import Derived.Test.YtlcljchpljeonaaOReg
namespace Go.Proofs.Ytlcljchpljeonaa
open Go.RowKit
open Go.Sort hiding Below
set_option maxRecDepth 100000

theorem cmp_not {x y : St} (h : ¬ ltS x y) : decide (cmpI x.1 x.2 y.1 y.2 < 0) = false := by
  have := cfS_lt x y
  unfold ltOf cfS at this
  rw [this]
  simp [h]
theorem run_low {o : Oper} {s t g m cap k : Nat} (hop : o.op = .slice 35 (.tmp s) none (some (.tmp t)) none) (hk : k ≤ m) (hm : m ≤ cap) (b : Act) (W : World) (h1 : b.tmps[s]? = some (.slice (some ⟨g, 0, none⟩) m cap)) (h2 : b.tmps[t]? = some (.int .i64 (k : Int))) :
    (execOp b.eval o).run Try.prog W = .ok (.value (.slice (some ⟨g, 0, none⟩) k cap)) W := by
  obtain ⟨d, op, ty, pos, aft, gd⟩ := o
  simp only at hop
  subst hop
  have j1 : (0 : Int) ≤ (k : Int) := by omega
  have j2 : (k : Int) ≤ (cap : Int) := by omega
  go_simp
theorem run_high {o : Oper} {s t g m cap k : Nat} (hop : o.op = .slice 35 (.tmp s) (some (.tmp t)) none none) (hk : k ≤ m) (b : Act) (W : World) (h1 : b.tmps[s]? = some (.slice (some ⟨g, 0, none⟩) m cap)) (h2 : b.tmps[t]? = some (.int .i64 (k : Int))) :
    (execOp b.eval o).run Try.prog W = .ok (.value (.slice (some ⟨g, if cap = k then 0 else k * 2, none⟩) (m - k) (cap - k))) W := by
  obtain ⟨d, op, ty, pos, aft, gd⟩ := o
  simp only at hop
  subst hop
  have j1 : (0 : Int) ≤ (k : Int) := by omega
  have j2 : (k : Int) ≤ (m : Int) := by omega
  by_cases e : cap = k
  · rw [if_pos e]
    go_simp
  · rw [if_neg e]
    go_simp
theorem run_low0 {o : Oper} {s t : Nat} (hop : o.op = .slice 35 (.tmp s) none (some (.tmp t)) none) (b : Act) (W : World) (h1 : b.tmps[s]? = some (.slice none 0 0)) (h2 : b.tmps[t]? = some (.int .i64 0)) :
    (execOp b.eval o).run Try.prog W = .ok (.value (.slice none 0 0)) W := by
  obtain ⟨d, op, ty, pos, aft, gd⟩ := o
  simp only at hop
  subst hop
  go_simp
theorem run_high0 {o : Oper} {s t : Nat} (hop : o.op = .slice 35 (.tmp s) (some (.tmp t)) none none) (b : Act) (W : World) (h1 : b.tmps[s]? = some (.slice none 0 0)) (h2 : b.tmps[t]? = some (.int .i64 0)) :
    (execOp b.eval o).run Try.prog W = .ok (.value (.slice none 0 0)) W := by
  obtain ⟨d, op, ty, pos, aft, gd⟩ := o
  simp only at hop
  subst hop
  go_simp

theorem src_low {w : World} {b g M cp : Nat} {O : List St} (h : w.ownsRow b 37 2 (.slice (some ⟨g, 0, none⟩) M cp) M (encS O)) {k : Nat} (hk : k ≤ M) : Src w (.slice (some ⟨g, 0, none⟩) k cp) k (encS (O.take k)) := by
  refine .inr ⟨g, 0, cp, rfl, fun j y hj => ?_⟩
  rw [encS_take] at hj
  have hjl := (List.getElem?_eq_some_iff.1 hj).1
  rw [List.length_take] at hjl
  rw [List.getElem?_take_of_lt (by omega)] at hj
  rw [Nat.zero_add, h.cellAt j (by omega)]
  exact hj
theorem src_high {w : World} {b g M cp : Nat} {O : List St} (h : w.ownsRow b 37 2 (.slice (some ⟨g, 0, none⟩) M cp) M (encS O)) (hM : O.length = M) (hc : M ≤ cp) {k : Nat} (hk : k ≤ M) : Src w (.slice (some ⟨g, if cp = k then 0 else k * 2, none⟩) (M - k) (cp - k)) (M - k) (encS (O.drop k)) := by
  refine .inr ⟨g, _, _, rfl, fun j y hj => ?_⟩
  have hjl := (List.getElem?_eq_some_iff.1 hj).1
  rw [encS_len, List.length_drop] at hjl
  rw [encS_drop, List.getElem?_drop] at hj
  rw [if_neg (by omega), h.cellAt (k * 2 + j) (by omega)]
  exact hj
theorem row_at {w : World} {b g M cp : Nat} {O : List St} (h : w.ownsRow b 37 2 (.slice (some ⟨g, 0, none⟩) M cp) M (encS O)) (hM : O.length = M) {k : Nat} (hk : k < O.length) {y1 y2 : Int} (hy : O[k] = (y1, y2)) :
    w.cell? ⟨g, k * 2, none⟩ = some (.int .i64 y1) ∧ w.cell? ⟨g, k * 2 + 1, none⟩ = some (.int .i64 y2) := by
  obtain ⟨h0, h1⟩ := encS_at O hk
  rw [hy] at h0 h1
  exact ⟨by rw [h.cellAt (k * 2) (by omega)]; exact h0, by rw [h.cellAt (k * 2 + 1) (by omega)]; exact h1⟩

set_option maxHeartbeats 8000000 in
theorem rsorted_any (a : Option Addr) (n cap : Nat) (z : Nat → St) (w : World) (hn : n ≤ 100) (hz : Sts w a n z) :
    Calls Try.prog 24 #[.slice a n cap] w fun e w' => ∃ v, e = .returned v ∧ w'.ownsRow w.heap.size 37 2 v (docTo z n).length (encS (docTo z n)) ∧ Below w.heap.size w w' := by
  have HZ : Hid (Sts w a n z) := hz
  clear hz
  go_enter Try.func24, Try.ntmps24
  go_wp2
  go_loopw [3, 4] (fun v i wr => ∃ k : Nat, k ≤ n ∧ i = .int .i64 k ∧ Hid (wr.ownsRow w.heap.size 37 2 v (docTo z k).length (encS (docTo z k))) ∧ Below w.heap.size w wr) (fun _ i _ => n - (intOf i).toNat)
  case atStart => exact ⟨0, by omega, rfl, World.ownsRow_nil _ _ _ _, Below.refl _ _⟩
  case round =>
    obtain ⟨i, hi, rfl, HR, hb⟩ := hrel
    by_cases hlt : i < n
    · obtain ⟨wx, hwx⟩ : ∃ x, x = wr := ⟨wr, rfl⟩
      subst hwx
      have HL : Hid (Sts wx a n z) := HZ.out.below hb
      obtain ⟨bl, ol, ea, _, _⟩ := HL.out i hlt
      subst ea
      obtain ⟨x1, x2, hzi⟩ : ∃ x1 x2, z i = (x1, x2) := ⟨_, _, rfl⟩
      have HZi : Hid (z i = (x1, x2)) := hzi
      clear hzi
      have hrise := docTo_rise z i
      have hlen := docTo_len z i
      obtain ⟨O, hO⟩ : ∃ O, docTo z i = O := ⟨_, rfl⟩
      have HR2 : Hid (wx.ownsRow w.heap.size 37 2 u3 O.length (encS O)) := by rw [← hO]; exact HR.out
      rw [hO] at hrise hlen
      have HO : Hid (docTo z i = O) := hO
      have HRise : Hid (Rise O) := hrise
      clear HR hO hrise
      rcases HR2.out.2 with ⟨hv, h0⟩ | ⟨g, cp, cur, hv, _, _, hMc, _⟩
      · have hOn : O = [] := List.length_eq_zero_iff.1 h0
        subst hv hOn
        have HNI : Hid (¬ (x1, x2) ∈ ([] : List St)) := by show ¬ _; simp
        clear h0 hlen
        go_wp2_with fail
        go_loopw [5] (fun kk wr => kk = .int .i64 0 ∧ Below wx.heap.size wx wr) (fun _ _ => 0)
        case atStart => exact ⟨rfl, Below.refl _ _⟩
        case round =>
          obtain ⟨rfl, hb2⟩ := hrel
          go_wp2_with fail
          refine wp_region_quiet_below (by kernel_rfl) (by kernel_rfl) ?_
          repeat (go_big_quiet_step (fail))
          refine wpQuiet_nil ?_
          intro _ hw'
          obtain ⟨⟨dq, osq⟩, hw''⟩ := hw'
          subst hw''
          have hbP := Below.onto hb2 (below_regrown wr dq osq)
          clear hb2
          generalize grow (redrawn wr dq) osq = w5 at *
          go_wp2_with fail
          refine wp_region_quiet_below (by kernel_rfl) (by kernel_rfl) ?_
          repeat (go_big_quiet_step (fail))
          refine wpQuiet_nil ?_
          intro _ hw'
          obtain ⟨⟨dq, osq⟩, hw''⟩ := hw'
          subst hw''
          have hbR := Below.onto hbP (below_regrown w5 dq osq)
          clear hbP
          generalize grow (redrawn w5 dq) osq = w6 at *
          have HI : Hid (insS [] (x1, x2) = ([] : List St).take 0 ++ [(x1, x2)] ++ ([] : List St).drop 0) := by show _ = _; unfold insS; rw [if_neg HNI.out, show posS (x1, x2) ([] : List St) = 0 from rfl]
          obtain ⟨bl', ol', el, c0, c1⟩ := HL.out.below hbR i hlt
          obtain ⟨rfl, rfl⟩ : bl' = bl ∧ ol' = ol := by simp at el; exact ⟨el.1.symm, el.2.symm⟩
          rw [HZi.out] at c0 c1
          simp only at c0 c1
          have HRq : Hid (World.ownsRow _ _ _ _ _ _ _) := own_stay HR2.out hbR
          go_wp2_with fail
          refine ins_region (bl := bl') (ol := ol') (ln := n) (lc := cap) (i := i) (k := 0) (m := 0 - 0) (x1 := x1) (x2 := x2) (A := .slice none 0 0) (S1 := .slice none 0 0) (S2 := .slice none 0 0) (xs1 := encS (([] : List St).take 0)) (xs2 := encS (([] : List St).drop 0)) (by simp) rfl rfl (by kernel_rfl) (by kernel_rfl) (by kernel_rfl) rfl rfl rfl rfl rfl rfl rfl rfl rfl rfl rfl rfl rfl rfl rfl rfl rfl rfl rfl rfl rfl rfl rfl rfl rfl rfl rfl rfl rfl rfl rfl rfl rfl rfl rfl rfl rfl rfl rfl rfl hlt c0 c1 (run_low0 rfl) (run_high0 rfl) (.inl ⟨rfl, rfl⟩) (rfl) (encS_one _) (.inl ⟨rfl, rfl⟩) (rfl) (encS_one _) (by omega) (by kernel_rfl) (by kernel_rfl) (by kernel_rfl) (by kernel_rfl) (by kernel_rfl) (by kernel_rfl) (by kernel_rfl) (by kernel_rfl) (by kernel_rfl) (fun _ _ d _ _ h => by cases d <;> exact h) ?_
          intro vA vB vC vD vE W9 hown9 hb9
          simp only [Act.put, List.setIfInBounds_toArray, List.set_cons_zero, List.set_cons_succ]
          go_wp2_with fail
          go_roundw
          case rel =>
            refine ⟨i + 1, by omega, by go_num, ?_, Below.onto (Below.onto hb hbR) hb9⟩
            show World.ownsRow _ _ _ _ _ _ _
            have e : docTo z (i + 1) = ([] : List St).take 0 ++ [(x1, x2)] ++ ([] : List St).drop 0 := by rw [← HI.out]; show insS (docTo z i) (z i) = _; rw [HO.out, HZi.out]
            have e2 : encS (([] : List St).take 0 ++ [(x1, x2)] ++ ([] : List St).drop 0) = encS (([] : List St).take 0) ++ [.int .i64 x1, .int .i64 x2] ++ encS (([] : List St).drop 0) := by rw [encS_app, encS_app]; rfl
            have e3 : (([] : List St).take 0 ++ [(x1, x2)] ++ ([] : List St).drop 0).length = 0 + 1 + (0 - 0) := rfl
            rw [e, e2, e3]
            exact own_lower hown9 (Below.onto hb hbR).size
          case measure => simp [intOf]; omega
      · obtain ⟨M, hM⟩ : ∃ M, O.length = M := ⟨_, rfl⟩
        rw [hM] at hv hMc hlen
        subst hv
        have HRm : Hid (wx.ownsRow w.heap.size 37 2 (.slice (some ⟨g, 0, none⟩) M cp) M (encS O)) := by have := HR2.out; rw [hM] at this; exact this
        have HM : Hid (O.length = M) := hM
        clear hM HR2
        have HR2 := HRm
        have hple := posS_le (x1, x2) O
        rw [HM.out] at hple
        go_wp2_with fail
        go_loopw [5] (fun kk wr => ∃ k : Nat, k ≤ posS (x1, x2) O ∧ kk = .int .i64 k ∧ Below wx.heap.size wx wr) (fun kk _ => M - (intOf kk).toNat)
        case atStart => exact ⟨0, by omega, rfl, Below.refl _ _⟩
        case round =>
          obtain ⟨k, hk, rfl, hb2⟩ := hrel
          obtain ⟨bl1, ol1, el, c0, c1⟩ := HL.out.below hb2 i hlt
          obtain ⟨rfl, rfl⟩ : bl1 = bl ∧ ol1 = ol := by simp at el; exact ⟨el.1.symm, el.2.symm⟩
          rw [HZi.out] at c0 c1
          simp only at c0 c1
          clear el
          have HRw : Hid (World.ownsRow _ _ _ _ _ _ _) := own_stay HR2.out hb2
          have r0 := cell_regrown c0
          have r1 := cell_regrown c1
          by_cases hkp : k < posS (x1, x2) O
          · obtain ⟨_, hlt2⟩ := posS_lt (x1, x2) O hkp
            have hkO : k < O.length := by rw [HM.out]; omega
            obtain ⟨y1, y2, hy⟩ : ∃ y1 y2, O[k] = (y1, y2) := ⟨_, _, rfl⟩
            obtain ⟨o0, o1⟩ := row_at HRw.out HM.out hkO hy
            have r2 := cell_regrown o0
            have r3 := cell_regrown o1
            have dk : decide ((k : Int) < (M : Int)) = true := by rw [decide_eq_true_eq]; omega
            have cR := oregrown (w := wr) fun W _ => rcmp_any y1 y2 x1 x2 W
            rw [hy] at hlt2
            rw [cmpI_lt hlt2] at cR
            have hkM : k < M := by have := HM.out; omega
            clear hy hlt2
            go_wp2_with fail
            refine wp_region_quiet_below (by kernel_rfl) (by kernel_rfl) ?_
            repeat (go_big_quiet_step (first | with_reducible exact cR _ _))
            refine wpQuiet_nil ?_
            intro _ hw'
            obtain ⟨⟨dq, osq⟩, hw''⟩ := hw'
            subst hw''
            have hbP := Below.onto hb2 (below_regrown wr dq osq)
            clear r0 r1 r2 r3 c0 c1 o0 o1 cR HRw hb2
            generalize grow (redrawn wr dq) osq = w5 at *
            go_wp2_with fail
            go_roundw
            case rel => exact ⟨k + 1, by omega, by go_num, hbP⟩
            case measure => simp [intOf]; omega
          · obtain rfl : k = posS (x1, x2) O := by omega
            generalize hkK : posS (x1, x2) O = K at *
            by_cases hKM : K < M
            · have hKO : K < O.length := by rw [HM.out]; exact hKM
              have HPK : Hid (posS (x1, x2) O = K) := hkK
              have hge : ¬ ltS (O[K]'hKO) (x1, x2) := by have := posS_ge (x1, x2) O (by rw [hkK]; exact hKO); simpa only [hkK] using this
              have hin : (x1, x2) ∈ O ↔ O[K]'hKO = (x1, x2) := by have := ins_at HRise.out (x1, x2); simp only [hkK] at this; exact ⟨fun h => (this.1 h).2, fun e => this.2 ⟨hKO, e⟩⟩
              clear hkK
              obtain ⟨y1, y2, hy⟩ : ∃ y1 y2, O[K] = (y1, y2) := ⟨_, _, rfl⟩
              obtain ⟨o0, o1⟩ := row_at HRw.out HM.out hKO hy
              rw [hy] at hge
              have hnl := cmp_not hge
              simp only at hnl
              have r2 := cell_regrown o0
              have r3 := cell_regrown o1
              have dk : decide ((K : Int) < (M : Int)) = true := by rw [decide_eq_true_eq]; omega
              have de : ((K : Int) == (M : Int)) = false := by rw [beq_eq_false_iff_ne]; omega
              have cR := oregrown (w := wr) fun W _ => rcmp_any y1 y2 x1 x2 W
              generalize cmpI y1 y2 x1 x2 = r at *
              by_cases e1 : y1 = x1
              · by_cases e2 : y2 = x2
                · subst e1
                  subst e2
                  have HIN : Hid ((y1, y2) ∈ O) := hin.2 hy
                  clear hin hy hge
                  go_wp2_with fail
                  refine wp_region_quiet_below (by kernel_rfl) (by kernel_rfl) ?_
                  repeat (go_big_quiet_step (first | with_reducible exact cR _ _))
                  refine wpQuiet_nil ?_
                  intro _ hw'
                  obtain ⟨⟨dq, osq⟩, hw''⟩ := hw'
                  subst hw''
                  have hbP := Below.onto hb2 (below_regrown wr dq osq)
                  clear cR
                  have n0 := r0 dq osq
                  have n1 := r1 dq osq
                  have n2 := r2 dq osq
                  have n3 := r3 dq osq
                  clear r0 r1 r2 r3 c0 c1 o0 o1 HRw hb2
                  generalize grow (redrawn wr dq) osq = w5 at *
                  have r0 := cell_regrown n0
                  have r1 := cell_regrown n1
                  have r2 := cell_regrown n2
                  have r3 := cell_regrown n3
                  go_wp2_with fail
                  refine wp_region_quiet_below (by kernel_rfl) (by kernel_rfl) ?_
                  repeat (go_big_quiet_step (fail))
                  refine wpQuiet_nil ?_
                  intro _ hw'
                  obtain ⟨⟨dq, osq⟩, hw''⟩ := hw'
                  subst hw''
                  have hbR := Below.onto hbP (below_regrown w5 dq osq)
                  clear r0 r1 r2 r3 n0 n1 n2 n3 hbP
                  generalize grow (redrawn w5 dq) osq = w6 at *
                  have HI : Hid (insS O (y1, y2) = O) := by show _ = _; unfold insS; rw [if_pos HIN.out]
                  go_wp2_with fail
                  go_roundw
                  case rel =>
                    refine ⟨i + 1, by omega, by go_num, ?_, Below.onto hb hbR⟩
                    show World.ownsRow _ _ _ _ _ _ _
                    have e : docTo z (i + 1) = O := by rw [← HI.out]; show insS (docTo z i) (z i) = _; rw [HO.out, HZi.out, HI.out]
                    rw [e, HM.out]
                    exact own_stay HR2.out hbR
                  case measure => simp [intOf]; omega
                · subst e1
                  have HNI : Hid (¬ (y1, x2) ∈ O) := fun hm => by have e := hin.1 hm; rw [hy] at e; injection e with e1' e2'; exact e2 e2'
                  clear hin hy hge
                  go_wp2_with fail
                  refine wp_region_quiet_below (by kernel_rfl) (by kernel_rfl) ?_
                  repeat (go_big_quiet_step (first | with_reducible exact cR _ _))
                  refine wpQuiet_nil ?_
                  intro _ hw'
                  obtain ⟨⟨dq, osq⟩, hw''⟩ := hw'
                  subst hw''
                  have hbP := Below.onto hb2 (below_regrown wr dq osq)
                  clear cR
                  have n0 := r0 dq osq
                  have n1 := r1 dq osq
                  have n2 := r2 dq osq
                  have n3 := r3 dq osq
                  clear r0 r1 r2 r3 c0 c1 o0 o1 HRw hb2
                  generalize grow (redrawn wr dq) osq = w5 at *
                  have r0 := cell_regrown n0
                  have r1 := cell_regrown n1
                  have r2 := cell_regrown n2
                  have r3 := cell_regrown n3
                  go_wp2_with fail
                  refine wp_region_quiet_below (by kernel_rfl) (by kernel_rfl) ?_
                  repeat (go_big_quiet_step (fail))
                  refine wpQuiet_nil ?_
                  intro _ hw'
                  obtain ⟨⟨dq, osq⟩, hw''⟩ := hw'
                  subst hw''
                  have hbR := Below.onto hbP (below_regrown w5 dq osq)
                  clear r0 r1 r2 r3 n0 n1 n2 n3 hbP
                  generalize grow (redrawn w5 dq) osq = w6 at *
                  have HI : Hid (insS O (y1, x2) = O.take K ++ [(y1, x2)] ++ O.drop K) := by show _ = _; unfold insS; rw [if_neg HNI.out, HPK.out]
                  obtain ⟨bl', ol', el, c0, c1⟩ := HL.out.below hbR i hlt
                  obtain ⟨rfl, rfl⟩ : bl' = bl1 ∧ ol' = ol1 := by simp at el; exact ⟨el.1.symm, el.2.symm⟩
                  rw [HZi.out] at c0 c1
                  simp only at c0 c1
                  have HRq : Hid (World.ownsRow _ _ _ _ _ _ _) := own_stay HR2.out hbR
                  go_wp2_with fail
                  refine ins_region (bl := bl') (ol := ol') (ln := n) (lc := cap) (i := i) (k := K) (m := M - K) (x1 := y1) (x2 := x2) (A := .slice (some ⟨g, 0, none⟩) M cp) (S1 := .slice (some ⟨g, 0, none⟩) K cp) (S2 := .slice (some ⟨g, if cp = K then 0 else K * 2, none⟩) (M - K) (cp - K)) (xs1 := encS (O.take K)) (xs2 := encS (O.drop K)) (by simp) rfl rfl (by kernel_rfl) (by kernel_rfl) (by kernel_rfl) rfl rfl rfl rfl rfl rfl rfl rfl rfl rfl rfl rfl rfl rfl rfl rfl rfl rfl rfl rfl rfl rfl rfl rfl rfl rfl rfl rfl rfl rfl rfl rfl rfl rfl rfl rfl rfl rfl rfl rfl hlt c0 c1 (run_low rfl hple hMc) (run_high rfl hple) (src_low HRq.out hple) (by rw [encS_len, List.length_take, HM.out]; omega) (encS_one _) (src_high HRq.out HM.out hMc hple) (by rw [encS_len, List.length_drop, HM.out]) (encS_one _) (by omega) (by kernel_rfl) (by kernel_rfl) (by kernel_rfl) (by kernel_rfl) (by kernel_rfl) (by kernel_rfl) (by kernel_rfl) (by kernel_rfl) (by kernel_rfl) (fun _ _ d _ _ h => by cases d <;> exact h) ?_
                  intro vA vB vC vD vE W9 hown9 hb9
                  simp only [Act.put, List.setIfInBounds_toArray, List.set_cons_zero, List.set_cons_succ]
                  go_wp2_with fail
                  go_roundw
                  case rel =>
                    refine ⟨i + 1, by omega, by go_num, ?_, Below.onto (Below.onto hb hbR) hb9⟩
                    show World.ownsRow _ _ _ _ _ _ _
                    have e : docTo z (i + 1) = O.take K ++ [(y1, x2)] ++ O.drop K := by rw [← HI.out]; show insS (docTo z i) (z i) = _; rw [HO.out, HZi.out]
                    have e2 : encS (O.take K ++ [(y1, x2)] ++ O.drop K) = encS (O.take K) ++ [.int .i64 y1, .int .i64 x2] ++ encS (O.drop K) := by rw [encS_app, encS_app]; rfl
                    have e3 : (O.take K ++ [(y1, x2)] ++ O.drop K).length = K + 1 + (M - K) := by simp only [List.length_append, List.length_take, List.length_drop, List.length_singleton, HM.out]; omega
                    rw [e, e2, e3]
                    exact own_lower hown9 (Below.onto hb hbR).size
                  case measure => simp [intOf]; omega
              · have HNI : Hid (¬ (x1, x2) ∈ O) := fun hm => by have e := hin.1 hm; rw [hy] at e; injection e with e1' e2'; exact e1 e1'
                clear hin hy hge
                go_wp2_with fail
                refine wp_region_quiet_below (by kernel_rfl) (by kernel_rfl) ?_
                repeat (go_big_quiet_step (first | with_reducible exact cR _ _))
                refine wpQuiet_nil ?_
                intro _ hw'
                obtain ⟨⟨dq, osq⟩, hw''⟩ := hw'
                subst hw''
                have hbP := Below.onto hb2 (below_regrown wr dq osq)
                clear cR
                have n0 := r0 dq osq
                have n1 := r1 dq osq
                have n2 := r2 dq osq
                have n3 := r3 dq osq
                clear r0 r1 r2 r3 c0 c1 o0 o1 HRw hb2
                generalize grow (redrawn wr dq) osq = w5 at *
                have r0 := cell_regrown n0
                have r1 := cell_regrown n1
                have r2 := cell_regrown n2
                have r3 := cell_regrown n3
                go_wp2_with fail
                refine wp_region_quiet_below (by kernel_rfl) (by kernel_rfl) ?_
                repeat (go_big_quiet_step (fail))
                refine wpQuiet_nil ?_
                intro _ hw'
                obtain ⟨⟨dq, osq⟩, hw''⟩ := hw'
                subst hw''
                have hbR := Below.onto hbP (below_regrown w5 dq osq)
                clear r0 r1 r2 r3 n0 n1 n2 n3 hbP
                generalize grow (redrawn w5 dq) osq = w6 at *
                have HI : Hid (insS O (x1, x2) = O.take K ++ [(x1, x2)] ++ O.drop K) := by show _ = _; unfold insS; rw [if_neg HNI.out, HPK.out]
                obtain ⟨bl', ol', el, c0, c1⟩ := HL.out.below hbR i hlt
                obtain ⟨rfl, rfl⟩ : bl' = bl1 ∧ ol' = ol1 := by simp at el; exact ⟨el.1.symm, el.2.symm⟩
                rw [HZi.out] at c0 c1
                simp only at c0 c1
                have HRq : Hid (World.ownsRow _ _ _ _ _ _ _) := own_stay HR2.out hbR
                go_wp2_with fail
                refine ins_region (bl := bl') (ol := ol') (ln := n) (lc := cap) (i := i) (k := K) (m := M - K) (x1 := x1) (x2 := x2) (A := .slice (some ⟨g, 0, none⟩) M cp) (S1 := .slice (some ⟨g, 0, none⟩) K cp) (S2 := .slice (some ⟨g, if cp = K then 0 else K * 2, none⟩) (M - K) (cp - K)) (xs1 := encS (O.take K)) (xs2 := encS (O.drop K)) (by simp) rfl rfl (by kernel_rfl) (by kernel_rfl) (by kernel_rfl) rfl rfl rfl rfl rfl rfl rfl rfl rfl rfl rfl rfl rfl rfl rfl rfl rfl rfl rfl rfl rfl rfl rfl rfl rfl rfl rfl rfl rfl rfl rfl rfl rfl rfl rfl rfl rfl rfl rfl rfl hlt c0 c1 (run_low rfl hple hMc) (run_high rfl hple) (src_low HRq.out hple) (by rw [encS_len, List.length_take, HM.out]; omega) (encS_one _) (src_high HRq.out HM.out hMc hple) (by rw [encS_len, List.length_drop, HM.out]) (encS_one _) (by omega) (by kernel_rfl) (by kernel_rfl) (by kernel_rfl) (by kernel_rfl) (by kernel_rfl) (by kernel_rfl) (by kernel_rfl) (by kernel_rfl) (by kernel_rfl) (fun _ _ d _ _ h => by cases d <;> exact h) ?_
                intro vA vB vC vD vE W9 hown9 hb9
                simp only [Act.put, List.setIfInBounds_toArray, List.set_cons_zero, List.set_cons_succ]
                go_wp2_with fail
                go_roundw
                case rel =>
                  refine ⟨i + 1, by omega, by go_num, ?_, Below.onto (Below.onto hb hbR) hb9⟩
                  show World.ownsRow _ _ _ _ _ _ _
                  have e : docTo z (i + 1) = O.take K ++ [(x1, x2)] ++ O.drop K := by rw [← HI.out]; show insS (docTo z i) (z i) = _; rw [HO.out, HZi.out]
                  have e2 : encS (O.take K ++ [(x1, x2)] ++ O.drop K) = encS (O.take K) ++ [.int .i64 x1, .int .i64 x2] ++ encS (O.drop K) := by rw [encS_app, encS_app]; rfl
                  have e3 : (O.take K ++ [(x1, x2)] ++ O.drop K).length = K + 1 + (M - K) := by simp only [List.length_append, List.length_take, List.length_drop, List.length_singleton, HM.out]; omega
                  rw [e, e2, e3]
                  exact own_lower hown9 (Below.onto hb hbR).size
                case measure => simp [intOf]; omega
            · obtain rfl : K = M := by omega
              have HPK : Hid (posS (x1, x2) O = K) := hkK
              have HNI : Hid (¬ (x1, x2) ∈ O) := fun hm => by obtain ⟨h1, _⟩ := pos_in HRise.out hm; rw [hkK, HM.out] at h1; omega
              clear hkK
              have dk : decide ((K : Int) < (K : Int)) = false := by rw [decide_eq_false_iff_not]; omega
              have de : ((K : Int) == (K : Int)) = true := by simp
              go_wp2_with fail
              refine wp_region_quiet_below (by kernel_rfl) (by kernel_rfl) ?_
              repeat (go_big_quiet_step (fail))
              refine wpQuiet_nil ?_
              intro _ hw'
              obtain ⟨⟨dq, osq⟩, hw''⟩ := hw'
              subst hw''
              have hbP := Below.onto hb2 (below_regrown wr dq osq)
              clear r0 r1 c0 c1 HRw hb2
              generalize grow (redrawn wr dq) osq = w5 at *
              go_wp2_with fail
              refine wp_region_quiet_below (by kernel_rfl) (by kernel_rfl) ?_
              repeat (go_big_quiet_step (fail))
              refine wpQuiet_nil ?_
              intro _ hw'
              obtain ⟨⟨dq, osq⟩, hw''⟩ := hw'
              subst hw''
              have hbR := Below.onto hbP (below_regrown w5 dq osq)
              clear hbP
              generalize grow (redrawn w5 dq) osq = w6 at *
              have HI : Hid (insS O (x1, x2) = O.take K ++ [(x1, x2)] ++ O.drop K) := by show _ = _; unfold insS; rw [if_neg HNI.out, HPK.out]
              obtain ⟨bl', ol', el, c0, c1⟩ := HL.out.below hbR i hlt
              obtain ⟨rfl, rfl⟩ : bl' = bl1 ∧ ol' = ol1 := by simp at el; exact ⟨el.1.symm, el.2.symm⟩
              rw [HZi.out] at c0 c1
              simp only at c0 c1
              have HRq : Hid (World.ownsRow _ _ _ _ _ _ _) := own_stay HR2.out hbR
              go_wp2_with fail
              refine ins_region (bl := bl') (ol := ol') (ln := n) (lc := cap) (i := i) (k := K) (m := K - K) (x1 := x1) (x2 := x2) (A := .slice (some ⟨g, 0, none⟩) K cp) (S1 := .slice (some ⟨g, 0, none⟩) K cp) (S2 := .slice (some ⟨g, if cp = K then 0 else K * 2, none⟩) (K - K) (cp - K)) (xs1 := encS (O.take K)) (xs2 := encS (O.drop K)) (by simp) rfl rfl (by kernel_rfl) (by kernel_rfl) (by kernel_rfl) rfl rfl rfl rfl rfl rfl rfl rfl rfl rfl rfl rfl rfl rfl rfl rfl rfl rfl rfl rfl rfl rfl rfl rfl rfl rfl rfl rfl rfl rfl rfl rfl rfl rfl rfl rfl rfl rfl rfl rfl hlt c0 c1 (run_low rfl hple hMc) (run_high rfl hple) (src_low HRq.out hple) (by rw [encS_len, List.length_take, HM.out]; omega) (encS_one _) (src_high HRq.out HM.out hMc hple) (by rw [encS_len, List.length_drop, HM.out]) (encS_one _) (by omega) (by kernel_rfl) (by kernel_rfl) (by kernel_rfl) (by kernel_rfl) (by kernel_rfl) (by kernel_rfl) (by kernel_rfl) (by kernel_rfl) (by kernel_rfl) (fun _ _ d _ _ h => by cases d <;> exact h) ?_
              intro vA vB vC vD vE W9 hown9 hb9
              simp only [Act.put, List.setIfInBounds_toArray, List.set_cons_zero, List.set_cons_succ]
              go_wp2_with fail
              go_roundw
              case rel =>
                refine ⟨i + 1, by omega, by go_num, ?_, Below.onto (Below.onto hb hbR) hb9⟩
                show World.ownsRow _ _ _ _ _ _ _
                have e : docTo z (i + 1) = O.take K ++ [(x1, x2)] ++ O.drop K := by rw [← HI.out]; show insS (docTo z i) (z i) = _; rw [HO.out, HZi.out]
                have e2 : encS (O.take K ++ [(x1, x2)] ++ O.drop K) = encS (O.take K) ++ [.int .i64 x1, .int .i64 x2] ++ encS (O.drop K) := by rw [encS_app, encS_app]; rfl
                have e3 : (O.take K ++ [(x1, x2)] ++ O.drop K).length = K + 1 + (K - K) := by simp only [List.length_append, List.length_take, List.length_drop, List.length_singleton, HM.out]; omega
                rw [e, e2, e3]
                exact own_lower hown9 (Below.onto hb hbR).size
              case measure => simp [intOf]; omega
    · obtain rfl : i = n := by omega
      go_wp2
      go_ret
      exact ⟨_, rfl, HR.out, hb⟩

end Go.Proofs.Ytlcljchpljeonaa
