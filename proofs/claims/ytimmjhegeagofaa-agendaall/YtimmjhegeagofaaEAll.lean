/- AgendaAll's walk. -/
import Derived.Test.YtimmjhegeagofaaEAllM
import Derived.Test.YtimmjhegeagofaaEReg2
import Derived.Test.YtimmjhegeagofaaERuns
namespace Go.Proofs.Ytimmjhegeagofaa
open Go.RowKit Go.Sort
set_option maxRecDepth 100000

/-- what the second loop keeps -/
structure Lk (w wr : World) (v : Value) (L : List En) (a : Option Addr) (n : Nat) (T : List En) : Prop where
  bl : Below w.heap.size w wr
  ow : wr.ownsRow 0 50 3 v L.length (encE L)
  tr : Tr wr a n T
theorem Lk.below {w wr w' : World} {v : Value} {L : List En} {a : Option Addr} {n : Nat} {T : List En} (k : Lk w wr v L a n T) (h : Below wr.heap.size wr w') : Lk w w' v L a n T :=
  ⟨Below.onto k.bl h, eown_block k.ow fun b hb => h.block b (k.ow.lt b hb).2, k.tr.below h⟩
theorem own_cells3 {W : World} {v : Value} {L : List En} (h : W.ownsRow 0 50 3 v L.length (encE L)) {j : Nat} {e : En} (hj : L[j]? = some e) : ∃ g cap, v = .slice (some ⟨g, 0, none⟩) L.length cap ∧ L.length ≤ cap ∧ cap ≤ maxLen ∧ W.cell? ⟨g, j * 3, none⟩ = some (.int .i8 e.k) ∧ W.cell? ⟨g, j * 3 + 1, none⟩ = some (.int .i64 e.m) := by
  have hjl := (List.getElem?_eq_some_iff.1 hj).1
  obtain ⟨h1, h2, _⟩ := encE_at hj
  rcases h.2 with ⟨_, h0⟩ | ⟨g, cap, cur, hv, _, _, hc1, hc2, _⟩
  · omega
  · subst hv
    refine ⟨g, cap, rfl, hc1, hc2, ?_, ?_⟩
    · have := h.cells (g := g) rfl _ _ h1; rwa [Go.WideShapes.add_plain, Nat.zero_add] at this
    · have := h.cells (g := g) rfl _ _ h2; rwa [Go.WideShapes.add_plain, Nat.zero_add] at this
set_option maxHeartbeats 4000000 in
theorem eall (a : Option Addr) (len cap : Nat) (f : Nat → Eo) (w : World) (hops : EoS w a len cap f) :
    Calls Try.prog 5 #[.slice a len cap] w fun e w' => e = .returned (.bool true) ∧ Below w.heap.size w w' := by
  have hlc : len ≤ 9223372036854775807 := by have h1 := hops.2.1; have h2 := hops.2.2; unfold maxLen at h2; omega
  have cN := newA lessL w lessOk trivial
  change Calls Try.prog _ #[.func (.func 10) #[] #[]] w _ at cN
  have hnf := nilA
  have HOps : Hid (EoS w a len cap f) := hops
  clear hops
  go_enter Try.func5, Try.ntmps5
  go_wp2_with fail
  refine cN.mono ?_
  rintro v w1 ⟨p, rfl, a1, _, b1⟩
  have P0 : Hid (Pr (agZ w1) p w1.heap.size [] 0 [] 0 (fun b => b < w.heap.size)) := pr_new a1 b1
  have B0 : Hid (Below w.heap.size w (agZ w1)) := Below.onto b1 ((Below.refl _ w1).alloc (Nat.le_refl _) _)
  clear cN a1 b1
  go_wp2_with fail
  unfold agZ at *
  generalize w1.alloc (.cells #[.slice none 0 0, .int .i64 0] 32) = w2 at *
  generalize w1.heap.size = r at *
  go_loopw [5] (fun vi wr => ∃ (D : List En) (last i : Nat), vi = .int .i64 (i : Int) ∧ i ≤ 60 ∧ last ≤ i ∧ Hid (Pr wr p r D last D last (fun b => b < w.heap.size)) ∧ Hid (Below w.heap.size w wr)) (fun vi _ => 60 - (intOf vi).toNat)
  case atStart => exact ⟨[], 0, 0, rfl, by omega, Nat.le_refl _, P0, B0⟩
  case round =>
    obtain ⟨D, last, i, rfl, hi, hla, HP, HB⟩ := hrel
    by_cases hgo : i < 60 ∧ i < len
    · obtain ⟨h60, hlt⟩ := hgo
      obtain ⟨b, off, rfl, hJ, hok⟩ := HOps.out.1 i hlt
      obtain ⟨j0, j1, j2, j3, j4⟩ := hJ.below HB.out
      have cO := edo D last p r _ wr HP.out (by omega) (f i) hok
      clear hok
      generalize f i = o at *
      unfold eoV at cO
      go_wp2_with fail
      refine cO.mono ?_
      rintro v w5 ⟨rfl, ⟨D5, l5, hl5, t5⟩, e5⟩
      have P5 : Hid (Pr w5 p r D5 l5 D5 l5 (fun b => b < w.heap.size)) := t5
      have B5 : Hid (Below w.heap.size w w5) := eels HB.out e5 fun _ h => h
      clear cO t5 e5 j0 j1 j2 j3 j4
      go_wp2_with fail
      go_roundw
      case rel => exact ⟨D5, l5, i + 1, by go_num, by omega, by omega, P5, B5⟩
      case measure => simp [intOf]; omega
    · -- the loop is over
      obtain ⟨rv, sE, xE, aE, hyE⟩ := HP.out
      have c0 := xE.bl.cell (i := 0) rfl
      obtain ⟨v3, w3, hrun, own3, hb3⟩ := eappE xE
      obtain ⟨ar, cr, hrv, _⟩ := xE.form
      subst hrv
      have c0a := (((Below.refl _ wr).alloc (Nat.le_refl _) (.cells #[] 50)).cell (p := ⟨r, 0, none⟩) (cell_lt c0)).trans c0
      have hDl : D.length ≤ last := HP.out.ag.len.1
      have hsD : Hid (Srt D) := HP.out.ag.srt
      have t3 := (HP.out.grow (But.of (S := fun _ => False) hb3) fun _ h => h.elim).less (Z := fun b => b < w.heap.size ∨ v3.ownBlock = some b) fun b hb => hb.elim .inl fun h => .inr ⟨(own3.lt b h).1, (own3.lt b h).2⟩
      have cD := t3.drain 0
      have O3 : Hid (w3.ownsRow 0 50 3 v3 D.length (encE D)) := eown_mono own3 (Nat.zero_le _)
      have B3 : Hid (Below w.heap.size w w3) := Below.onto HB.out hb3
      obtain ⟨a3, cp3, hv3⟩ := eown_form own3
      subst hv3
      clear sE xE aE hyE own3 hb3 t3
      generalize hDn : D.length = nD at *
      have key : (¬ i < len) ∨ (i < len ∧ ¬ i < 60) := by omega
      rcases key with hlt | ⟨hlt, h60⟩
      · go_wp2_with (at_builtin; refine wpList_append_run rfl (.tmp 33) (.tmp 37) 30 rfl _ _ _ rfl rfl hrun ?_)
        (with_reducible refine cD.mono ?_)
        rintro v w5 ⟨v5, T, D', ⟨rfl, o5, dr5, l5, m5⟩, t5, b5⟩
        clear cD hrun c0 c0a
        have hsl := dr5.len hsD.out
        have hD0 : D' = [] := by
          rcases m5 with h | h
          · have : moI 0 = 120 := rfl
            omega
          · exact h
        subst hD0
        have hTn : T.length = nD := by simp at hsl; omega
        have HPm : Hid ((D.map thP).Perm (T.map thP)) := ((dr5.perm hsD.out).map thP).symm.trans (by simp)
        have hL5 : Hid (w5.ownsRow 0 30 3 (.slice a3 nD cp3) nD (encE D) ∨ True) := .inr trivial
        have O5 := eown_block (w' := w5) O3.out fun b hb => b5.block b (O3.out.lt b hb).2 fun h => h (.inr hb)
        have B5 : Below w.heap.size w w5 := eels B3.out b5 fun _ h => .inl h
        obtain ⟨a5, cp5, hv5⟩ := eown_form o5
        subst hv5
        have tr5 := tr_own o5 rfl
        rw [hTn] at tr5
        have K5 : Hid (Lk w w5 (.slice a3 nD cp3) D a5 nD T) := ⟨B5, by rw [hDn]; exact O5, tr5⟩
        have cL := lenA t5.ag
        have hzero : (([] : List En).length : Int) = 0 := rfl
        rw [hzero] at cL
        have HTn : Hid (T.length = nD) := hTn
        rw [hTn]
        clear o5 dr5 l5 m5 t5 b5 hsl O5 B5 tr5 O3 B3 HB HP hL5 hTn hzero hsD
        have HDn : Hid (D.length = nD) := hDn
        clear hDn
        go_wp2_with fail
        (with_reducible refine cL.mono ?_)
        rintro v w6 ⟨rfl, hw6⟩
        subst hw6
        clear cL
        go_wp2_with fail
        go_loopw [6, 8] (fun vl vi wr => ∃ (L : List En) (i2 : Nat), vi = .int .i64 (i2 : Int) ∧ i2 ≤ nD ∧ Hid (L.length + i2 = nD) ∧ Hid ((L.map thP).Perm ((T.drop i2).map thP)) ∧ Hid (Lk w wr vl L a5 nD T)) (fun _ vi _ => nD - (intOf vi).toNat)
        case atStart => exact ⟨D, 0, rfl, Nat.zero_le _, HDn.out, by rw [List.drop_zero]; exact HPm.out, K5⟩
        case round =>
          obtain ⟨L, i2, rfl, hi2, HL2, HP2, K2⟩ := hrel
          by_cases hin : i2 < nD
          · obtain ⟨e, he⟩ : ∃ e, T[i2]? = some e := ⟨T[i2]'(by rw [HTn.out]; exact hin), List.getElem?_eq_getElem _⟩
            have hdrop : T.drop i2 = e :: T.drop (i2 + 1) := by
              have h := List.drop_eq_getElem_cons (l := T) (i := i2) (by rw [HTn.out]; exact hin)
              rw [h, (List.getElem?_eq_some_iff.1 he).2]
            have HPe : Hid ((L.map thP).Perm ((e :: T.drop (i2 + 1)).map thP)) := by rw [← hdrop]; exact HP2.out
            clear hdrop HP2
            obtain ⟨y0, hy0, _⟩ := left_in HPe.out
            obtain ⟨j0, hj0⟩ := List.getElem?_of_mem hy0
            obtain ⟨g, cpL, hvL, hcL1, hcL2, _, _⟩ := own_cells3 K2.out.ow hj0
            subst hvL
            clear hy0 hj0
            generalize hLn : L.length = nL at *
            have HLn : Hid (L.length = nL) := hLn
            clear hLn
            have hb60 : nL ≤ 60 := by have := HL2.out; omega
            go_wp2_with fail
            go_loopw [9] (fun vk wk => ∃ k : Nat, vk = .int .i64 (k : Int) ∧ k ≤ nL ∧ Hid (∀ j y, j < k → L[j]? = some y → thP y ≠ thP e) ∧ Hid (Lk w wk (.slice (some ⟨g, 0, none⟩) nL cpL) L a5 nD T)) (fun vk _ => nL - (intOf vk).toNat)
            case atStart => exact ⟨0, rfl, Nat.zero_le _, fun j y h => absurd h (by omega), K2⟩
            case round =>
              obtain ⟨k, rfl, hk, HN, K3⟩ := hrel
              by_cases hkL : k < nL
              · obtain ⟨y, hy⟩ : ∃ y, L[k]? = some y := ⟨L[k]'(by rw [HLn.out]; exact hkL), List.getElem?_eq_getElem _⟩
                obtain ⟨g', cp', hv', _, _, c0, c1⟩ := own_cells3 K3.out.ow hy
                rw [HLn.out] at hv'
                injection hv' with hv1 _ hv2
                injection hv1 with hv1
                injection hv1 with hv1
                subst hv1 hv2
                obtain ⟨b5, o5, ha5, d0, d1⟩ := K3.out.tr.at_ i2 e he
                subst ha5
                have r0 := cell_regrown c0
                have r1 := cell_regrown c1
                have q0 := cell_regrown d0
                have q1 := cell_regrown d1
                have h1 : decide ((k : Int) < (nL : Int)) = true := by simpa using hkL
                have h2 : (0 : Int) ≤ (k : Int) := by omega
                have h3 : (k : Int) < (nL : Int) := by omega
                have h4 : (0 : Int) ≤ (i2 : Int) := by omega
                have h5 : (i2 : Int) < (nD : Int) := by omega
                clear c0 c1 d0 d1
                have hsplit : L = L.take k ++ y :: L.drop (k + 1) := by
                  have h := List.drop_eq_getElem_cons (l := L) (i := k) (by rw [HLn.out]; exact hkL)
                  rw [(List.getElem?_eq_some_iff.1 hy).2] at h
                  rw [← h, List.take_append_drop]
                have HSp : Hid (L = L.take k ++ y :: L.drop (k + 1)) := hsplit
                clear hsplit
                by_cases hyk : y.k = e.k
                · by_cases hym : y.m = e.m
                  · rw [hyk] at r0
                    rw [hym] at r1
                    have HTh : Hid (thP y = thP e) := by show (y.k, y.m) = (e.k, e.m); rw [hyk, hym]
                    clear hyk hym
                    go_wp2_with fail
                    refine wp_region_quiet_below (by kernel_rfl) (by kernel_rfl) ?_
                    repeat (go_big_quiet_step (fail))
                    refine wpQuiet_nil ?_
                    intro _ hw'
                    obtain ⟨⟨dq, osq⟩, hw''⟩ := hw'
                    subst hw''
                    have K4 : Hid (Lk w (grow (redrawn wr dq) osq) (.slice (some ⟨g, 0, none⟩) nL cpL) L (some ⟨b5, o5, none⟩) nD T) := K3.out.below (below_regrown wr dq osq)
                    clear r0 r1 q0 q1
                    generalize grow (redrawn wr dq) osq = w7 at *
                    have hkn : ¬ (k : Int) = (nL : Int) := by omega
                    have hkn2 : ¬ k = nL := by omega
                    go_wp2_with fail
                    have hcell : ∀ j z, (encE L)[j]? = some z → w7.cell? ⟨g, j, none⟩ = some z := fun j z hj => by
                      have := K4.out.ow.cells (g := g) rfl j z hj
                      rwa [Go.WideShapes.add_plain, Nat.zero_add] at this
                    have hU : (L.take k).length = k := by rw [List.length_take, HLn.out]; omega
                    have hV : (L.drop (k + 1)).length = nL - (k + 1) := by rw [List.length_drop, HLn.out]
                    have henc : encE L = encE (L.take k) ++ ([.int .i8 y.k, .int .i64 y.m, .int .i64 (y.n : Int)] ++ encE (L.drop (k + 1))) := by
                      have h : encE (L.take k ++ y :: L.drop (k + 1)) = encE (L.take k) ++ ([.int .i8 y.k, .int .i64 y.m, .int .i64 (y.n : Int)] ++ encE (L.drop (k + 1))) := by rw [encE_app]; simp [encE]
                      rw [← HSp.out] at h
                      exact h
                    have hsrc1 : Src w7 (.slice (some ⟨g, 0, none⟩) k cpL) k (encE (L.take k)) := by
                      refine .inr ⟨g, 0, cpL, rfl, fun j z hj => ?_⟩
                      have hjl := (List.getElem?_eq_some_iff.1 hj).1
                      rw [Nat.zero_add]
                      refine hcell j z ?_
                      rw [henc, List.getElem?_append_left hjl]
                      exact hj
                    have hsrc2 : Src w7 (.slice (some ⟨g, if cpL = k + 1 then 0 else (k + 1) * 3, none⟩) (nL - (k + 1)) (cpL - (k + 1))) (nL - (k + 1)) (encE (L.drop (k + 1))) := by
                      refine .inr ⟨g, _, _, rfl, fun j z hj => ?_⟩
                      have hjl := (List.getElem?_eq_some_iff.1 hj).1
                      rw [encE_len, hV] at hjl
                      rw [if_neg (by omega)]
                      refine hcell _ z ?_
                      rw [henc, List.getElem?_append_right (by rw [encE_len, hU]; omega), List.getElem?_append_right (by rw [encE_len, hU]; simp; omega), encE_len, hU, ← hj]
                      congr 1
                      simp
                      omega
                    refine eall_region (k := k) (m1 := k) (m2 := nL - (k + 1)) (A := .slice (some ⟨g, 0, none⟩) nL cpL) (S1 := .slice (some ⟨g, 0, none⟩) k cpL) (S2 := .slice (some ⟨g, if cpL = k + 1 then 0 else (k + 1) * 3, none⟩) (nL - (k + 1)) (cpL - (k + 1))) (xs1 := encE (L.take k)) (xs2 := encE (L.drop (k + 1))) (by simp) rfl rfl (by kernel_rfl) (by kernel_rfl) (by kernel_rfl) rfl rfl rfl rfl rfl rfl rfl rfl rfl rfl rfl rfl rfl rfl rfl rfl rfl rfl rfl rfl rfl rfl rfl rfl rfl rfl (by omega) (erun_low rfl (by omega) (by omega)) (erun_high rfl (by omega)) hsrc1 (by rw [encE_len, hU]) (encE_one _) hsrc2 (by rw [encE_len, hV]) (encE_one _) (by omega) (by kernel_rfl) (by kernel_rfl) (by kernel_rfl) (by kernel_rfl) (fun _ _ d _ _ h => by cases d <;> exact h) ?_
                    intro vA vB vC W9 hown9 hb9
                    simp only [Act.put, List.setIfInBounds_toArray, List.set_cons_zero, List.set_cons_succ]
                    have K9 : Hid (Lk w W9 vC (L.take k ++ L.drop (k + 1)) (some ⟨b5, o5, none⟩) nD T) := ⟨Below.onto K4.out.bl hb9, by rw [List.length_append, hU, hV, encE_app]; exact eown_mono hown9 (Nat.zero_le _), K4.out.tr.below hb9⟩
                    have HP9 : Hid (((L.take k ++ L.drop (k + 1)).map thP).Perm ((T.drop (i2 + 1)).map thP)) := left_out HPe.out HSp.out HTh.out
                    have HL9 : Hid ((L.take k ++ L.drop (k + 1)).length + (i2 + 1) = nD) := by show _ = _; rw [List.length_append, hU, hV]; have := HL2.out; have := HLn.out; omega
                    clear hown9 hb9 hsrc1 hsrc2 henc hU hV hcell K4
                    go_wp2_with fail
                    all_goals
                      go_roundw
                      case rel => exact ⟨L.take k ++ L.drop (k + 1), i2 + 1, by go_num, by omega, HL9, HP9, K9⟩
                      case measure => simp [intOf]; omega
                  · rw [hyk] at r0
                    have hne : ¬ y.m = e.m := hym
                    go_wp2_with fail
                    refine wp_region_quiet_below (by kernel_rfl) (by kernel_rfl) ?_
                    repeat (go_big_quiet_step (fail))
                    refine wpQuiet_nil ?_
                    intro _ hw'
                    obtain ⟨⟨dq, osq⟩, hw''⟩ := hw'
                    subst hw''
                    have K4 : Hid (Lk w (grow (redrawn wr dq) osq) (.slice (some ⟨g, 0, none⟩) nL cpL) L (some ⟨b5, o5, none⟩) nD T) := K3.out.below (below_regrown wr dq osq)
                    clear r0 r1 q0 q1
                    generalize grow (redrawn wr dq) osq = w7 at *
                    go_wp2_with fail
                    go_roundw
                    case rel => exact ⟨k + 1, by go_num, by omega, fun j z hj hz => by
                      by_cases hjk : j = k
                      · subst hjk; rw [hy] at hz; cases hz; intro h; injection h with h1 h2; exact hne h2
                      · exact HN.out j z (by omega) hz, K4⟩
                    case measure => simp [intOf]; omega
                · have hne : ¬ y.k = e.k := hyk
                  go_wp2_with fail
                  refine wp_region_quiet_below (by kernel_rfl) (by kernel_rfl) ?_
                  repeat (go_big_quiet_step (fail))
                  refine wpQuiet_nil ?_
                  intro _ hw'
                  obtain ⟨⟨dq, osq⟩, hw''⟩ := hw'
                  subst hw''
                  have K4 : Hid (Lk w (grow (redrawn wr dq) osq) (.slice (some ⟨g, 0, none⟩) nL cpL) L (some ⟨b5, o5, none⟩) nD T) := K3.out.below (below_regrown wr dq osq)
                  clear r0 r1 q0 q1
                  generalize grow (redrawn wr dq) osq = w7 at *
                  go_wp2_with fail
                  go_roundw
                  case rel => exact ⟨k + 1, by go_num, by omega, fun j z hj hz => by
                    by_cases hjk : j = k
                    · subst hjk; rw [hy] at hz; cases hz; intro h; injection h with h1 h2; exact hne h1
                    · exact HN.out j z (by omega) hz, K4⟩
                  case measure => simp [intOf]; omega
              · exfalso
                obtain ⟨y, hy, hye⟩ := left_in HPe.out
                obtain ⟨j, hj⟩ := List.getElem?_of_mem hy
                have hjl := (List.getElem?_eq_some_iff.1 hj).1
                rw [HLn.out] at hjl
                exact HN.out j y (by omega) hj hye
          · have cA := ealive wr
            have K6 := K2
            go_wp2_with fail
            (with_reducible refine cA.mono ?_)
            rintro v w9 ⟨rfl, b9⟩
            have HB9 : Hid (Below w.heap.size w w9) := Below.onto K6.out.bl b9
            clear cA b9
            go_wp2_with fail
            go_ret
            exact ⟨rfl, HB9.out⟩
      · go_wp2_with (at_builtin; refine wpList_append_run rfl (.tmp 33) (.tmp 37) 30 rfl _ _ _ rfl rfl hrun ?_)
        (with_reducible refine cD.mono ?_)
        rintro v w5 ⟨v5, T, D', ⟨rfl, o5, dr5, l5, m5⟩, t5, b5⟩
        clear cD hrun c0 c0a
        have hsl := dr5.len hsD.out
        have hD0 : D' = [] := by
          rcases m5 with h | h
          · have : moI 0 = 120 := rfl
            omega
          · exact h
        subst hD0
        have hTn : T.length = nD := by simp at hsl; omega
        have HPm : Hid ((D.map thP).Perm (T.map thP)) := ((dr5.perm hsD.out).map thP).symm.trans (by simp)
        have hL5 : Hid (w5.ownsRow 0 30 3 (.slice a3 nD cp3) nD (encE D) ∨ True) := .inr trivial
        have O5 := eown_block (w' := w5) O3.out fun b hb => b5.block b (O3.out.lt b hb).2 fun h => h (.inr hb)
        have B5 : Below w.heap.size w w5 := eels B3.out b5 fun _ h => .inl h
        obtain ⟨a5, cp5, hv5⟩ := eown_form o5
        subst hv5
        have tr5 := tr_own o5 rfl
        rw [hTn] at tr5
        have K5 : Hid (Lk w w5 (.slice a3 nD cp3) D a5 nD T) := ⟨B5, by rw [hDn]; exact O5, tr5⟩
        have cL := lenA t5.ag
        have hzero : (([] : List En).length : Int) = 0 := rfl
        rw [hzero] at cL
        have HTn : Hid (T.length = nD) := hTn
        rw [hTn]
        clear o5 dr5 l5 m5 t5 b5 hsl O5 B5 tr5 O3 B3 HB HP hL5 hTn hzero hsD
        have HDn : Hid (D.length = nD) := hDn
        clear hDn
        go_wp2_with fail
        (with_reducible refine cL.mono ?_)
        rintro v w6 ⟨rfl, hw6⟩
        subst hw6
        clear cL
        go_wp2_with fail
        go_loopw [6, 8] (fun vl vi wr => ∃ (L : List En) (i2 : Nat), vi = .int .i64 (i2 : Int) ∧ i2 ≤ nD ∧ Hid (L.length + i2 = nD) ∧ Hid ((L.map thP).Perm ((T.drop i2).map thP)) ∧ Hid (Lk w wr vl L a5 nD T)) (fun _ vi _ => nD - (intOf vi).toNat)
        case atStart => exact ⟨D, 0, rfl, Nat.zero_le _, HDn.out, by rw [List.drop_zero]; exact HPm.out, K5⟩
        case round =>
          obtain ⟨L, i2, rfl, hi2, HL2, HP2, K2⟩ := hrel
          by_cases hin : i2 < nD
          · obtain ⟨e, he⟩ : ∃ e, T[i2]? = some e := ⟨T[i2]'(by rw [HTn.out]; exact hin), List.getElem?_eq_getElem _⟩
            have hdrop : T.drop i2 = e :: T.drop (i2 + 1) := by
              have h := List.drop_eq_getElem_cons (l := T) (i := i2) (by rw [HTn.out]; exact hin)
              rw [h, (List.getElem?_eq_some_iff.1 he).2]
            have HPe : Hid ((L.map thP).Perm ((e :: T.drop (i2 + 1)).map thP)) := by rw [← hdrop]; exact HP2.out
            clear hdrop HP2
            obtain ⟨y0, hy0, _⟩ := left_in HPe.out
            obtain ⟨j0, hj0⟩ := List.getElem?_of_mem hy0
            obtain ⟨g, cpL, hvL, hcL1, hcL2, _, _⟩ := own_cells3 K2.out.ow hj0
            subst hvL
            clear hy0 hj0
            generalize hLn : L.length = nL at *
            have HLn : Hid (L.length = nL) := hLn
            clear hLn
            have hb60 : nL ≤ 60 := by have := HL2.out; omega
            go_wp2_with fail
            go_loopw [9] (fun vk wk => ∃ k : Nat, vk = .int .i64 (k : Int) ∧ k ≤ nL ∧ Hid (∀ j y, j < k → L[j]? = some y → thP y ≠ thP e) ∧ Hid (Lk w wk (.slice (some ⟨g, 0, none⟩) nL cpL) L a5 nD T)) (fun vk _ => nL - (intOf vk).toNat)
            case atStart => exact ⟨0, rfl, Nat.zero_le _, fun j y h => absurd h (by omega), K2⟩
            case round =>
              obtain ⟨k, rfl, hk, HN, K3⟩ := hrel
              by_cases hkL : k < nL
              · obtain ⟨y, hy⟩ : ∃ y, L[k]? = some y := ⟨L[k]'(by rw [HLn.out]; exact hkL), List.getElem?_eq_getElem _⟩
                obtain ⟨g', cp', hv', _, _, c0, c1⟩ := own_cells3 K3.out.ow hy
                rw [HLn.out] at hv'
                injection hv' with hv1 _ hv2
                injection hv1 with hv1
                injection hv1 with hv1
                subst hv1 hv2
                obtain ⟨b5, o5, ha5, d0, d1⟩ := K3.out.tr.at_ i2 e he
                subst ha5
                have r0 := cell_regrown c0
                have r1 := cell_regrown c1
                have q0 := cell_regrown d0
                have q1 := cell_regrown d1
                have h1 : decide ((k : Int) < (nL : Int)) = true := by simpa using hkL
                have h2 : (0 : Int) ≤ (k : Int) := by omega
                have h3 : (k : Int) < (nL : Int) := by omega
                have h4 : (0 : Int) ≤ (i2 : Int) := by omega
                have h5 : (i2 : Int) < (nD : Int) := by omega
                clear c0 c1 d0 d1
                have hsplit : L = L.take k ++ y :: L.drop (k + 1) := by
                  have h := List.drop_eq_getElem_cons (l := L) (i := k) (by rw [HLn.out]; exact hkL)
                  rw [(List.getElem?_eq_some_iff.1 hy).2] at h
                  rw [← h, List.take_append_drop]
                have HSp : Hid (L = L.take k ++ y :: L.drop (k + 1)) := hsplit
                clear hsplit
                by_cases hyk : y.k = e.k
                · by_cases hym : y.m = e.m
                  · rw [hyk] at r0
                    rw [hym] at r1
                    have HTh : Hid (thP y = thP e) := by show (y.k, y.m) = (e.k, e.m); rw [hyk, hym]
                    clear hyk hym
                    go_wp2_with fail
                    refine wp_region_quiet_below (by kernel_rfl) (by kernel_rfl) ?_
                    repeat (go_big_quiet_step (fail))
                    refine wpQuiet_nil ?_
                    intro _ hw'
                    obtain ⟨⟨dq, osq⟩, hw''⟩ := hw'
                    subst hw''
                    have K4 : Hid (Lk w (grow (redrawn wr dq) osq) (.slice (some ⟨g, 0, none⟩) nL cpL) L (some ⟨b5, o5, none⟩) nD T) := K3.out.below (below_regrown wr dq osq)
                    clear r0 r1 q0 q1
                    generalize grow (redrawn wr dq) osq = w7 at *
                    have hkn : ¬ (k : Int) = (nL : Int) := by omega
                    have hkn2 : ¬ k = nL := by omega
                    go_wp2_with fail
                    have hcell : ∀ j z, (encE L)[j]? = some z → w7.cell? ⟨g, j, none⟩ = some z := fun j z hj => by
                      have := K4.out.ow.cells (g := g) rfl j z hj
                      rwa [Go.WideShapes.add_plain, Nat.zero_add] at this
                    have hU : (L.take k).length = k := by rw [List.length_take, HLn.out]; omega
                    have hV : (L.drop (k + 1)).length = nL - (k + 1) := by rw [List.length_drop, HLn.out]
                    have henc : encE L = encE (L.take k) ++ ([.int .i8 y.k, .int .i64 y.m, .int .i64 (y.n : Int)] ++ encE (L.drop (k + 1))) := by
                      have h : encE (L.take k ++ y :: L.drop (k + 1)) = encE (L.take k) ++ ([.int .i8 y.k, .int .i64 y.m, .int .i64 (y.n : Int)] ++ encE (L.drop (k + 1))) := by rw [encE_app]; simp [encE]
                      rw [← HSp.out] at h
                      exact h
                    have hsrc1 : Src w7 (.slice (some ⟨g, 0, none⟩) k cpL) k (encE (L.take k)) := by
                      refine .inr ⟨g, 0, cpL, rfl, fun j z hj => ?_⟩
                      have hjl := (List.getElem?_eq_some_iff.1 hj).1
                      rw [Nat.zero_add]
                      refine hcell j z ?_
                      rw [henc, List.getElem?_append_left hjl]
                      exact hj
                    have hsrc2 : Src w7 (.slice (some ⟨g, if cpL = k + 1 then 0 else (k + 1) * 3, none⟩) (nL - (k + 1)) (cpL - (k + 1))) (nL - (k + 1)) (encE (L.drop (k + 1))) := by
                      refine .inr ⟨g, _, _, rfl, fun j z hj => ?_⟩
                      have hjl := (List.getElem?_eq_some_iff.1 hj).1
                      rw [encE_len, hV] at hjl
                      rw [if_neg (by omega)]
                      refine hcell _ z ?_
                      rw [henc, List.getElem?_append_right (by rw [encE_len, hU]; omega), List.getElem?_append_right (by rw [encE_len, hU]; simp; omega), encE_len, hU, ← hj]
                      congr 1
                      simp
                      omega
                    refine eall_region (k := k) (m1 := k) (m2 := nL - (k + 1)) (A := .slice (some ⟨g, 0, none⟩) nL cpL) (S1 := .slice (some ⟨g, 0, none⟩) k cpL) (S2 := .slice (some ⟨g, if cpL = k + 1 then 0 else (k + 1) * 3, none⟩) (nL - (k + 1)) (cpL - (k + 1))) (xs1 := encE (L.take k)) (xs2 := encE (L.drop (k + 1))) (by simp) rfl rfl (by kernel_rfl) (by kernel_rfl) (by kernel_rfl) rfl rfl rfl rfl rfl rfl rfl rfl rfl rfl rfl rfl rfl rfl rfl rfl rfl rfl rfl rfl rfl rfl rfl rfl rfl rfl (by omega) (erun_low rfl (by omega) (by omega)) (erun_high rfl (by omega)) hsrc1 (by rw [encE_len, hU]) (encE_one _) hsrc2 (by rw [encE_len, hV]) (encE_one _) (by omega) (by kernel_rfl) (by kernel_rfl) (by kernel_rfl) (by kernel_rfl) (fun _ _ d _ _ h => by cases d <;> exact h) ?_
                    intro vA vB vC W9 hown9 hb9
                    simp only [Act.put, List.setIfInBounds_toArray, List.set_cons_zero, List.set_cons_succ]
                    have K9 : Hid (Lk w W9 vC (L.take k ++ L.drop (k + 1)) (some ⟨b5, o5, none⟩) nD T) := ⟨Below.onto K4.out.bl hb9, by rw [List.length_append, hU, hV, encE_app]; exact eown_mono hown9 (Nat.zero_le _), K4.out.tr.below hb9⟩
                    have HP9 : Hid (((L.take k ++ L.drop (k + 1)).map thP).Perm ((T.drop (i2 + 1)).map thP)) := left_out HPe.out HSp.out HTh.out
                    have HL9 : Hid ((L.take k ++ L.drop (k + 1)).length + (i2 + 1) = nD) := by show _ = _; rw [List.length_append, hU, hV]; have := HL2.out; have := HLn.out; omega
                    clear hown9 hb9 hsrc1 hsrc2 henc hU hV hcell K4
                    go_wp2_with fail
                    all_goals
                      go_roundw
                      case rel => exact ⟨L.take k ++ L.drop (k + 1), i2 + 1, by go_num, by omega, HL9, HP9, K9⟩
                      case measure => simp [intOf]; omega
                  · rw [hyk] at r0
                    have hne : ¬ y.m = e.m := hym
                    go_wp2_with fail
                    refine wp_region_quiet_below (by kernel_rfl) (by kernel_rfl) ?_
                    repeat (go_big_quiet_step (fail))
                    refine wpQuiet_nil ?_
                    intro _ hw'
                    obtain ⟨⟨dq, osq⟩, hw''⟩ := hw'
                    subst hw''
                    have K4 : Hid (Lk w (grow (redrawn wr dq) osq) (.slice (some ⟨g, 0, none⟩) nL cpL) L (some ⟨b5, o5, none⟩) nD T) := K3.out.below (below_regrown wr dq osq)
                    clear r0 r1 q0 q1
                    generalize grow (redrawn wr dq) osq = w7 at *
                    go_wp2_with fail
                    go_roundw
                    case rel => exact ⟨k + 1, by go_num, by omega, fun j z hj hz => by
                      by_cases hjk : j = k
                      · subst hjk; rw [hy] at hz; cases hz; intro h; injection h with h1 h2; exact hne h2
                      · exact HN.out j z (by omega) hz, K4⟩
                    case measure => simp [intOf]; omega
                · have hne : ¬ y.k = e.k := hyk
                  go_wp2_with fail
                  refine wp_region_quiet_below (by kernel_rfl) (by kernel_rfl) ?_
                  repeat (go_big_quiet_step (fail))
                  refine wpQuiet_nil ?_
                  intro _ hw'
                  obtain ⟨⟨dq, osq⟩, hw''⟩ := hw'
                  subst hw''
                  have K4 : Hid (Lk w (grow (redrawn wr dq) osq) (.slice (some ⟨g, 0, none⟩) nL cpL) L (some ⟨b5, o5, none⟩) nD T) := K3.out.below (below_regrown wr dq osq)
                  clear r0 r1 q0 q1
                  generalize grow (redrawn wr dq) osq = w7 at *
                  go_wp2_with fail
                  go_roundw
                  case rel => exact ⟨k + 1, by go_num, by omega, fun j z hj hz => by
                    by_cases hjk : j = k
                    · subst hjk; rw [hy] at hz; cases hz; intro h; injection h with h1 h2; exact hne h1
                    · exact HN.out j z (by omega) hz, K4⟩
                  case measure => simp [intOf]; omega
              · exfalso
                obtain ⟨y, hy, hye⟩ := left_in HPe.out
                obtain ⟨j, hj⟩ := List.getElem?_of_mem hy
                have hjl := (List.getElem?_eq_some_iff.1 hj).1
                rw [HLn.out] at hjl
                exact HN.out j y (by omega) hj hye
          · have cA := ealive wr
            have K6 := K2
            go_wp2_with fail
            (with_reducible refine cA.mono ?_)
            rintro v w9 ⟨rfl, b9⟩
            have HB9 : Hid (Below w.heap.size w w9) := Below.onto K6.out.bl b9
            clear cA b9
            go_wp2_with fail
            go_ret
            exact ⟨rfl, HB9.out⟩
end Go.Proofs.Ytimmjhegeagofaa
