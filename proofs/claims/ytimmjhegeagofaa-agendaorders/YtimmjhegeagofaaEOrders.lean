/- AgendaOrders: things are put in order. -/
import Derived.Test.YtimmjhegeagofaaEOrd4
import Derived.Lib.QuietBelow
import Derived.Lib.SmallJoins
namespace Go.Proofs.Ytimmjhegeagofaa
open Go.RowKit Go.Sort Go.Shelf
set_option maxRecDepth 100000

set_option maxHeartbeats 2000000 in
theorem eorders (a : Option Addr) (len cap : Nat) (f : Nat → Et) (w : World) (hops : EtS w a len cap f) :
    Calls Try.prog 4 #[.slice a len cap] w fun e w' => e = .returned (.bool true) ∧ Below w.heap.size w w' := by
  have hlc : len ≤ 9223372036854775807 := by have h1 := hops.2.1; have h2 := hops.2.2; unfold maxLen at h2; omega
  by_cases h60 : 60 < len
  · have hcap : (60 : Int) ≤ (cap : Int) := by have h1 := hops.2.1; omega
    have hle : (60 : Int) < (len : Int) := by omega
    obtain ⟨n, hn⟩ : ∃ n : Nat, n = 60 := ⟨_, rfl⟩
    obtain ⟨g, cp, w3, hrun, hc1, hc2, t3, f3, hg, b3⟩ := copy_row a n cap f w (hops.cut (by omega)) (by omega)
    have HF : Hid (∀ j, j < n → (f j).okk) := fun j hj => by obtain ⟨_, _, _, _, h⟩ := hops.1 j (by omega); exact h
    have HT : Hid (Tr w3 (some ⟨g, 0, none⟩) n (EM f n 0) ∧ (∀ j, w3.frozen? ⟨g, j, none⟩ = false) ∧ w.heap.size ≤ g ∧ Below w.heap.size w w3) := ⟨t3, f3, hg, b3⟩
    have hrun2 := hrun
    conv at hrun2 => lhs; rw [hn]
    have h60' : ¬ 60 < n := by omega
    have hn2 : n ≤ 9223372036854775807 := by omega
    clear hops t3 f3 hg b3 hn hrun h60 hlc
    go_enter Try.func4, Try.ntmps4
    go_wp2_with (at_builtin; refine wpList_append_run rfl (.tmp 12) (.tmp 13) 43 rfl _ _ _ rfl rfl hrun2 ?_)
    clear hrun2
    go_loopw [4] (fun v wr => ∃ i : Nat, v = .int .i64 (i : Int) ∧ i ≤ n ∧ Hid (Tr wr (some ⟨g, 0, none⟩) n (EM f n i) ∧ (∀ j, wr.frozen? ⟨g, j, none⟩ = false) ∧ Below w.heap.size w wr)) (fun v _ => n - (intOf v).toNat)
    case atStart => exact ⟨0, rfl, Nat.zero_le _, HT.out.1, HT.out.2.1, HT.out.2.2.2⟩
    case round =>
      obtain ⟨i, rfl, hi, HR⟩ := hrel
      by_cases hlt : i < n
      · obtain ⟨en, hen⟩ : ∃ en, (EM f n i)[i]? = some en := ⟨(EM f n i)[i]'(by rw [EM_len]; exact hlt), List.getElem?_eq_getElem _⟩
        obtain ⟨b, off, ha, c1, c2⟩ := HR.out.1.at_ i en hen
        injection ha with ha
        injection ha with hb ho
        subst hb ho
        have fz := HR.out.2.1
        rw [Nat.zero_add] at c2
        generalize en.m = mm at *
        clear c1
        have HR2 : Hid (Tr (wr.setCell ⟨g, i * 2 + 1, none⟩ (.int .i64 (i : Int))) (some ⟨g, 0, none⟩) n (EM f n (i + 1)) ∧ (∀ j, (wr.setCell ⟨g, i * 2 + 1, none⟩ (.int .i64 (i : Int))).frozen? ⟨g, j, none⟩ = false) ∧ Below w.heap.size w (wr.setCell ⟨g, i * 2 + 1, none⟩ (.int .i64 (i : Int)))) :=
          ⟨mark_tr HR.out.1 hlt, fun j => by simp [fz], HR.out.2.2.setCell HT.out.2.2.1 _⟩
        clear hen
        go_wp2_with fail
        go_roundw
        case rel => exact ⟨i + 1, by simp, hlt, HR2.out⟩
        case measure => simp only [intOf]; omega
      · obtain rfl : i = n := by omega
        have cO := eorder (some ⟨g, 0, none⟩) i cp (EM f i i) wr HR.out.1 (EM_num HF.out) (by omega)
        go_wp2_with fail
        refine cO.mono ?_
        rintro e w4 ⟨v, T, rfl, o4, d4, b4, vb4⟩
        have hT : T.length = i := by have := d4.len EM_srt; rw [EM_len] at this; simpa using this
        have cR := rorder (some ⟨g, 0, none⟩) i cp (EM f i i) w4 (HR.out.1.below b4) (EM_num HF.out) (by omega)
        have H4 : Hid (w4.ownsRow 0 27 2 v T.length (encT T) ∧ Dr True (EM f i i) T [] ∧ Below w.heap.size w w4 ∧ T.length = i) := ⟨o4, d4, Below.onto HR.out.2.2 b4, hT⟩
        obtain ⟨a4, cp4, hv4⟩ := eown_form o4
        rw [hT] at hv4
        subst hv4
        clear cO o4 d4 b4 vb4 hT HR HT
        go_wp2_with fail
        refine cR.mono ?_
        rintro e w5 ⟨v2, T2, rfl, o5, d5, b5, vb5⟩
        have hT2 : T2.length = i := by have := d5.len EM_srt; rw [EM_len] at this; simpa using this
        obtain ⟨rfl, _⟩ := H4.out.2.1.uniq d5 EM_srt (H4.out.2.2.2.trans hT2.symm)
        have r1 := eown_block (w' := w5) H4.out.1 fun b hb => b5.block b (H4.out.1.lt b hb).2
        obtain ⟨a5, cp5, hv5⟩ := eown_form o5
        rw [hT2] at hv5
        subst hv5
        have t1 : Tr w5 a4 i T := tr_own (by have h := r1; rw [hT2] at h; exact h) hT2
        have t2 : Tr w5 a5 i T := tr_own (by have h := o5; rw [hT2] at h; exact h) hT2
        have cS := esame w5 a4 a5 i cp4 cp5 T t1 t2 (by omega)
        have H5 : Hid (Tr w5 a4 i T ∧ Dr True (EM f i i) T [] ∧ Below w.heap.size w w5 ∧ T.length = i) := ⟨t1, d5, Below.onto H4.out.2.2.1 b5, hT2⟩
        clear cR r1 o5 d5 b5 vb5 hT2 t1 t2 H4
        go_wp2_with fail
        refine cS.mono ?_
        rintro e w6 ⟨rfl, b6⟩
        have H6 : Hid (Tr w6 a4 i T ∧ Dr True (EM f i i) T [] ∧ Below w.heap.size w w6 ∧ T.length = i) := ⟨H5.out.1.below b6, H5.out.2.1, Below.onto H5.out.2.2.1 b6, H5.out.2.2.2⟩
        clear cS b6 H5
        go_wp2_with fail
        go_loopw [6] (fun v wr => ∃ q : Nat, v = .int .i64 ((q : Int) + 1) ∧ (q < i ∨ q = 0) ∧ Hid (Tr wr a4 i T ∧ Below w.heap.size w wr)) (fun v _ => i - (intOf v).toNat)
        case atStart => exact ⟨0, rfl, .inr rfl, H6.out.1, H6.out.2.2.1⟩
        case round =>
          obtain ⟨q, rfl, hq, HQ⟩ := hrel
          by_cases hlt : q + 1 < i
          · have hTl := H6.out.2.2.2
            obtain ⟨x, hx⟩ : ∃ x, T[q]? = some x := ⟨T[q]'(by omega), List.getElem?_eq_getElem _⟩
            obtain ⟨y, hy⟩ : ∃ y, T[q + 1]? = some y := ⟨T[q + 1]'(by omega), List.getElem?_eq_getElem _⟩
            obtain ⟨b, off, ha4, c1, c2⟩ := HQ.out.1.at_ q x hx
            obtain ⟨b', off', ha5, c3, c4⟩ := HQ.out.1.at_ (q + 1) y hy
            rw [ha4] at ha5
            injection ha5 with ha5
            injection ha5 with hb' ho'
            subst hb' ho'
            subst ha4
            have hasc := asc_at H6.out.2.1 hx hy
            generalize x.k = k1 at *
            generalize x.m = m1 at *
            generalize y.k = k2 at *
            generalize y.m = m2 at *
            clear hx hy hTl
            have cL : ∀ d os, Calls Try.prog 10 #[thV k2 m2, thV k1 m1] (grow (redrawn wr d) os) fun e w'' => e = .returned (.bool false) ∧ ∃ p : Regrown, w'' = grow (redrawn wr p.d) p.os := fun d os =>
              Calls.regrown_of ((rless k2 m2 k1 m1 _).mono fun _ _ h => ⟨h.1.trans (by rw [decide_eq_false (by omega)]), h.2⟩)
            have r1 := cell_regrown c1
            have r2 := cell_regrown c2
            have r3 := cell_regrown c3
            have r4 := cell_regrown c4
            clear c1 c2 c3 c4
            unfold thV at cL
            have hlt2 : (q : Int) + 1 < (i : Int) := by omega
            go_wp2_with fail
            rcases hasc with hk | ⟨hk, hm⟩
            · have hne : ¬ k2 = k1 := by omega
              clear hk
              refine wp_region_quiet_below (by kernel_rfl) (by kernel_rfl) ?_
              repeat (go_big_quiet_step (with_reducible exact cL _ _))
              rw [show (k2 == k1) = false from by simp [hne]]
              repeat (go_big_quiet_step (with_reducible exact cL _ _))
              refine wpQuiet_nil ?_
              intro _ hw'
              obtain ⟨⟨dq, osq⟩, hw''⟩ := hw'
              subst hw''
              have HQ2 : Hid (Tr (grow (redrawn wr dq) osq) (some ⟨b, off, none⟩) i T ∧ Below w.heap.size w (grow (redrawn wr dq) osq)) := ⟨HQ.out.1.below (below_regrown wr dq osq), Below.onto HQ.out.2 (below_regrown wr dq osq)⟩
              go_wp2_with fail
              go_roundw
              case rel => exact ⟨q + 1, by simp, .inl hlt, HQ2.out⟩
              case measure => simp only [intOf]; omega
            · subst hk
              have hmm : ¬ m2 ≤ m1 := by omega
              clear hm
              refine wp_region_quiet_below (by kernel_rfl) (by kernel_rfl) ?_
              repeat (go_big_quiet_step (with_reducible exact cL _ _))
              refine wpQuiet_nil ?_
              intro _ hw'
              obtain ⟨⟨dq, osq⟩, hw''⟩ := hw'
              subst hw''
              have HQ2 : Hid (Tr (grow (redrawn wr dq) osq) (some ⟨b, off, none⟩) i T ∧ Below w.heap.size w (grow (redrawn wr dq) osq)) := ⟨HQ.out.1.below (below_regrown wr dq osq), Below.onto HQ.out.2 (below_regrown wr dq osq)⟩
              go_wp2_with fail
              go_roundw
              case rel => exact ⟨q + 1, by simp, .inl hlt, HQ2.out⟩
              case measure => simp only [intOf]; omega
          · have hge : ¬ (q : Int) + 1 < (i : Int) := by omega
            go_wp2_with fail
            refine (ealive wr).mono ?_
            rintro e w7 ⟨rfl, h7⟩
            have HB7 : Hid (Below w.heap.size w w7) := Below.onto HQ.out.2 h7
            clear h7
            go_wp2_with fail
            go_ret
            exact ⟨rfl, HB7.out⟩
  · obtain ⟨g, cp, w3, hrun, hc1, hc2, t3, f3, hg, b3⟩ := copy_row a len cap f w hops (by omega)
    have HF : Hid (∀ j, j < len → (f j).okk) := fun j hj => by obtain ⟨_, _, _, _, h⟩ := hops.1 j hj; exact h
    have HT : Hid (Tr w3 (some ⟨g, 0, none⟩) len (EM f len 0) ∧ (∀ j, w3.frozen? ⟨g, j, none⟩ = false) ∧ w.heap.size ≤ g ∧ Below w.heap.size w w3) := ⟨t3, f3, hg, b3⟩
    clear hops t3 f3 hg b3
    go_enter Try.func4, Try.ntmps4
    go_wp2_with (at_builtin; refine wpList_append_run rfl (.tmp 12) (.tmp 13) 43 rfl _ _ _ rfl rfl hrun ?_)
    clear hrun
    go_loopw [4] (fun v wr => ∃ i : Nat, v = .int .i64 (i : Int) ∧ i ≤ len ∧ Hid (Tr wr (some ⟨g, 0, none⟩) len (EM f len i) ∧ (∀ j, wr.frozen? ⟨g, j, none⟩ = false) ∧ Below w.heap.size w wr)) (fun v _ => len - (intOf v).toNat)
    case atStart => exact ⟨0, rfl, Nat.zero_le _, HT.out.1, HT.out.2.1, HT.out.2.2.2⟩
    case round =>
      obtain ⟨i, rfl, hi, HR⟩ := hrel
      by_cases hlt : i < len
      · obtain ⟨en, hen⟩ : ∃ en, (EM f len i)[i]? = some en := ⟨(EM f len i)[i]'(by rw [EM_len]; exact hlt), List.getElem?_eq_getElem _⟩
        obtain ⟨b, off, ha, c1, c2⟩ := HR.out.1.at_ i en hen
        injection ha with ha
        injection ha with hb ho
        subst hb ho
        have fz := HR.out.2.1
        rw [Nat.zero_add] at c2
        generalize en.m = mm at *
        clear c1
        have HR2 : Hid (Tr (wr.setCell ⟨g, i * 2 + 1, none⟩ (.int .i64 (i : Int))) (some ⟨g, 0, none⟩) len (EM f len (i + 1)) ∧ (∀ j, (wr.setCell ⟨g, i * 2 + 1, none⟩ (.int .i64 (i : Int))).frozen? ⟨g, j, none⟩ = false) ∧ Below w.heap.size w (wr.setCell ⟨g, i * 2 + 1, none⟩ (.int .i64 (i : Int)))) :=
          ⟨mark_tr HR.out.1 hlt, fun j => by simp [fz], HR.out.2.2.setCell HT.out.2.2.1 _⟩
        clear hen
        go_wp2_with fail
        go_roundw
        case rel => exact ⟨i + 1, by simp, hlt, HR2.out⟩
        case measure => simp only [intOf]; omega
      · obtain rfl : i = len := by omega
        have cO := eorder (some ⟨g, 0, none⟩) i cp (EM f i i) wr HR.out.1 (EM_num HF.out) (by omega)
        go_wp2_with fail
        refine cO.mono ?_
        rintro e w4 ⟨v, T, rfl, o4, d4, b4, vb4⟩
        have hT : T.length = i := by have := d4.len EM_srt; rw [EM_len] at this; simpa using this
        have cR := rorder (some ⟨g, 0, none⟩) i cp (EM f i i) w4 (HR.out.1.below b4) (EM_num HF.out) (by omega)
        have H4 : Hid (w4.ownsRow 0 27 2 v T.length (encT T) ∧ Dr True (EM f i i) T [] ∧ Below w.heap.size w w4 ∧ T.length = i) := ⟨o4, d4, Below.onto HR.out.2.2 b4, hT⟩
        obtain ⟨a4, cp4, hv4⟩ := eown_form o4
        rw [hT] at hv4
        subst hv4
        clear cO o4 d4 b4 vb4 hT HR HT
        go_wp2_with fail
        refine cR.mono ?_
        rintro e w5 ⟨v2, T2, rfl, o5, d5, b5, vb5⟩
        have hT2 : T2.length = i := by have := d5.len EM_srt; rw [EM_len] at this; simpa using this
        obtain ⟨rfl, _⟩ := H4.out.2.1.uniq d5 EM_srt (H4.out.2.2.2.trans hT2.symm)
        have r1 := eown_block (w' := w5) H4.out.1 fun b hb => b5.block b (H4.out.1.lt b hb).2
        obtain ⟨a5, cp5, hv5⟩ := eown_form o5
        rw [hT2] at hv5
        subst hv5
        have t1 : Tr w5 a4 i T := tr_own (by have h := r1; rw [hT2] at h; exact h) hT2
        have t2 : Tr w5 a5 i T := tr_own (by have h := o5; rw [hT2] at h; exact h) hT2
        have cS := esame w5 a4 a5 i cp4 cp5 T t1 t2 (by omega)
        have H5 : Hid (Tr w5 a4 i T ∧ Dr True (EM f i i) T [] ∧ Below w.heap.size w w5 ∧ T.length = i) := ⟨t1, d5, Below.onto H4.out.2.2.1 b5, hT2⟩
        clear cR r1 o5 d5 b5 vb5 hT2 t1 t2 H4
        go_wp2_with fail
        refine cS.mono ?_
        rintro e w6 ⟨rfl, b6⟩
        have H6 : Hid (Tr w6 a4 i T ∧ Dr True (EM f i i) T [] ∧ Below w.heap.size w w6 ∧ T.length = i) := ⟨H5.out.1.below b6, H5.out.2.1, Below.onto H5.out.2.2.1 b6, H5.out.2.2.2⟩
        clear cS b6 H5
        go_wp2_with fail
        go_loopw [6] (fun v wr => ∃ q : Nat, v = .int .i64 ((q : Int) + 1) ∧ (q < i ∨ q = 0) ∧ Hid (Tr wr a4 i T ∧ Below w.heap.size w wr)) (fun v _ => i - (intOf v).toNat)
        case atStart => exact ⟨0, rfl, .inr rfl, H6.out.1, H6.out.2.2.1⟩
        case round =>
          obtain ⟨q, rfl, hq, HQ⟩ := hrel
          by_cases hlt : q + 1 < i
          · have hTl := H6.out.2.2.2
            obtain ⟨x, hx⟩ : ∃ x, T[q]? = some x := ⟨T[q]'(by omega), List.getElem?_eq_getElem _⟩
            obtain ⟨y, hy⟩ : ∃ y, T[q + 1]? = some y := ⟨T[q + 1]'(by omega), List.getElem?_eq_getElem _⟩
            obtain ⟨b, off, ha4, c1, c2⟩ := HQ.out.1.at_ q x hx
            obtain ⟨b', off', ha5, c3, c4⟩ := HQ.out.1.at_ (q + 1) y hy
            rw [ha4] at ha5
            injection ha5 with ha5
            injection ha5 with hb' ho'
            subst hb' ho'
            subst ha4
            have hasc := asc_at H6.out.2.1 hx hy
            generalize x.k = k1 at *
            generalize x.m = m1 at *
            generalize y.k = k2 at *
            generalize y.m = m2 at *
            clear hx hy hTl
            have cL : ∀ d os, Calls Try.prog 10 #[thV k2 m2, thV k1 m1] (grow (redrawn wr d) os) fun e w'' => e = .returned (.bool false) ∧ ∃ p : Regrown, w'' = grow (redrawn wr p.d) p.os := fun d os =>
              Calls.regrown_of ((rless k2 m2 k1 m1 _).mono fun _ _ h => ⟨h.1.trans (by rw [decide_eq_false (by omega)]), h.2⟩)
            have r1 := cell_regrown c1
            have r2 := cell_regrown c2
            have r3 := cell_regrown c3
            have r4 := cell_regrown c4
            clear c1 c2 c3 c4
            unfold thV at cL
            have hlt2 : (q : Int) + 1 < (i : Int) := by omega
            go_wp2_with fail
            rcases hasc with hk | ⟨hk, hm⟩
            · have hne : ¬ k2 = k1 := by omega
              clear hk
              refine wp_region_quiet_below (by kernel_rfl) (by kernel_rfl) ?_
              repeat (go_big_quiet_step (with_reducible exact cL _ _))
              rw [show (k2 == k1) = false from by simp [hne]]
              repeat (go_big_quiet_step (with_reducible exact cL _ _))
              refine wpQuiet_nil ?_
              intro _ hw'
              obtain ⟨⟨dq, osq⟩, hw''⟩ := hw'
              subst hw''
              have HQ2 : Hid (Tr (grow (redrawn wr dq) osq) (some ⟨b, off, none⟩) i T ∧ Below w.heap.size w (grow (redrawn wr dq) osq)) := ⟨HQ.out.1.below (below_regrown wr dq osq), Below.onto HQ.out.2 (below_regrown wr dq osq)⟩
              go_wp2_with fail
              go_roundw
              case rel => exact ⟨q + 1, by simp, .inl hlt, HQ2.out⟩
              case measure => simp only [intOf]; omega
            · subst hk
              have hmm : ¬ m2 ≤ m1 := by omega
              clear hm
              refine wp_region_quiet_below (by kernel_rfl) (by kernel_rfl) ?_
              repeat (go_big_quiet_step (with_reducible exact cL _ _))
              refine wpQuiet_nil ?_
              intro _ hw'
              obtain ⟨⟨dq, osq⟩, hw''⟩ := hw'
              subst hw''
              have HQ2 : Hid (Tr (grow (redrawn wr dq) osq) (some ⟨b, off, none⟩) i T ∧ Below w.heap.size w (grow (redrawn wr dq) osq)) := ⟨HQ.out.1.below (below_regrown wr dq osq), Below.onto HQ.out.2 (below_regrown wr dq osq)⟩
              go_wp2_with fail
              go_roundw
              case rel => exact ⟨q + 1, by simp, .inl hlt, HQ2.out⟩
              case measure => simp only [intOf]; omega
          · have hge : ¬ (q : Int) + 1 < (i : Int) := by omega
            go_wp2_with fail
            refine (ealive wr).mono ?_
            rintro e w7 ⟨rfl, h7⟩
            have HB7 : Hid (Below w.heap.size w w7) := Below.onto HQ.out.2 h7
            clear h7
            go_wp2_with fail
            go_ret
            exact ⟨rfl, HB7.out⟩
end Go.Proofs.Ytimmjhegeagofaa
