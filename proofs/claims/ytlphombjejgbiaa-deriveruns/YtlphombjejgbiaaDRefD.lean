/- The document's drop, Prune, Cut, Under. -/
import Derived.Test.YtlphombjejgbiaaDRefB
namespace Go.Proofs.Ytlphombjejgbiaa
open Go.RowKit Go.Sort Go.Shelf
set_option maxRecDepth 100000

theorem wout_take {L : List Fe} {G : List Nat} {i : Nat} {e : Fe} (h : L[i]? = some e) : wout (L.take (i + 1)) G = if e.n ∈ G then wout (L.take i) G else wout (L.take i) G ++ [e] := by
  rw [ftake_at h]
  by_cases hg : e.n ∈ G <;> simp [wout, hg]
theorem keep_step (n : Nat) (T : List Nat) (y : Nat) : (!decide (n ∈ T) && decide (¬ (y : Int) = (n : Int))) = !decide (n ∈ T ++ [y]) := by
  by_cases h3 : y = n
  · subst h3; simp
  · have h4 : ¬ (y : Int) = (n : Int) := by omega
    have h5 : ¬ n = y := fun e => h3 e.symm
    simp [h4, h5]
section
variable {w : World} {r : Nat} {rv : Value} {N : Nat} {L : List Fe}
set_option maxHeartbeats 4000000 in
theorem rdrop12 (x : Rf w r rv N L) (G : List Nat) (hG : Fok N (wout L G)) (ad : Option Addr) (cap : Nat) (hc : Cells w .i64 ad G.length (atL G)) (hlg : G.length ≤ 100000) :
    Calls Try.prog 64 #[.pointer (some ⟨r, 0, none⟩), .slice ad G.length cap] w fun e w' => e = .returned (.tuple #[]) ∧ RfGo w r rv w' N (wout L G) := by
  have hlen : L.length ≤ 1024 := Nat.le_trans x.ok.len x.hN
  obtain ⟨av, cv, hv⟩ := x.form
  subst hv
  have HX : Hid (Rf w r (.slice av L.length cv) N L ∧ Fok N (wout L G)) := ⟨x, hG⟩
  have HC : Hid (Cells w .i64 ad G.length (atL G)) := hc
  have c1 := x.c1
  have fz := x.fz 1
  have hr := x.lt
  clear x hG hc
  obtain ⟨M, hM⟩ : ∃ M, L.length = M := ⟨_, rfl⟩
  obtain ⟨MG, hMG⟩ : ∃ M, G.length = M := ⟨_, rfl⟩
  rw [hM] at c1 hlen
  rw [hMG] at HC hlg ⊢
  rw [hM] at HX ⊢
  have HMM : Hid (L.length = M ∧ G.length = MG) := ⟨hM, hMG⟩
  clear hM hMG
  go_enter Try.func64, Try.ntmps64
  go_wp2_with fail
  go_loopw [4, 5] (fun vl vi wr => ∃ (i : Nat) (v : Value), i ≤ M ∧ vi = .int .i64 i ∧ vl = v ∧ Hid (wr.ownsRow w.heap.size 81 2 v (wout (L.take i) G).length (encF (wout (L.take i) G)) ∧ Below w.heap.size w wr)) (fun _ vi _ => M - (intOf vi).toNat)
  case atStart => exact ⟨0, _, Nat.zero_le _, rfl, rfl, World.ownsRow_nil _ _ _ _, Below.refl _ _⟩
  case round =>
    obtain ⟨i, v, hi, rfl, rfl, HR⟩ := hrel
    obtain ⟨va, vcap, hvf, hv1, hv2⟩ := fown_form HR.out.1
    subst hvf
    clear hv1 hv2
    have d1 := (HX.out.1.below HR.out.2).c1
    by_cases hlt : i < M
    · obtain ⟨m, hm⟩ : ∃ m, L[i]? = some m := ⟨L[i]'(by have := HMM.out.1; omega), List.getElem?_eq_getElem (by have := HMM.out.1; omega)⟩
      obtain ⟨g, rfl, _⟩ := HX.out.1.at_ HMM.out.1.symm hm
      have HM : Hid (L[i]? = some m) := hm
      clear hm
      go_wp2_with fail
      obtain ⟨wx, hwx⟩ : ∃ x, x = wr := ⟨wr, rfl⟩
      subst hwx
      clear d1
      go_loopw [6, 7] (fun vb vk wr => ∃ (j : Nat) (b : Bool), j ≤ MG ∧ vk = .int .i64 j ∧ vb = .bool b ∧ Hid (b = !decide (m.n ∈ G.take j)) ∧ Hid (Below wx.heap.size wx wr)) (fun _ vk _ => MG - (intOf vk).toNat)
      case atStart => exact ⟨0, true, Nat.zero_le _, rfl, rfl, by show _ = _; simp, Below.refl _ _⟩
      case round =>
        obtain ⟨j, b, hj, rfl, rfl, HB, HW⟩ := hrel
        by_cases hjl : j < MG
        · obtain ⟨b1, o1, hb1, hg1⟩ := HC.out j hjl
          subst hb1
          have xw := HX.out.1.below (Below.onto HR.out.2 HW.out)
          have d1 := xw.c1
          obtain ⟨g', hg', n0, n1⟩ := xw.at_ HMM.out.1.symm HM.out
          obtain rfl : g = g' := by cases hg'; rfl
          have g1 := ((Below.onto HR.out.2 HW.out).cell (p := ⟨b1, o1 + j, none⟩) (cell_lt hg1)).trans hg1
          clear hg' xw n1 hg1
          have HB2 : Hid ((b && decide (¬ atL G j = m.n)) = !decide (m.n ∈ G.take (j + 1))) := by
            show _ = _
            have h1 := HB.out
            rw [take_at (G := G) (j := j) (by have := HMM.out.2; omega), h1]
            show (!decide (m.n ∈ G.take j) && decide (¬ ((G.getD j 0 : Nat) : Int) = m.n)) = _
            exact keep_step _ _ _
          have r0 := cell_regrown d1
          have r1 := cell_regrown n0
          have r2 := cell_regrown g1
          clear d1 n0 g1 HB
          generalize atL G j = gj at *
          obtain ⟨mn, hmn⟩ : ∃ mn : Int, (m.n : Int) = mn := ⟨_, rfl⟩
          rw [hmn] at r1 HB2
          have HMN : Hid ((m.n : Int) = mn) := hmn
          clear hmn
          have i1 : (0 : Int) ≤ (j : Int) := by omega
          have i2 : (j : Int) < (MG : Int) := by omega
          have i3 : (0 : Int) ≤ (i : Int) := by omega
          have i4 : (i : Int) < (M : Int) := by omega
          cases b
          · go_wp2_with fail
            refine wp_region_quiet_below (by kernel_rfl) (by kernel_rfl) ?_
            repeat (go_big_quiet_step (fail))
            refine wpQuiet_nil ?_
            intro _ hw'
            obtain ⟨⟨dq, osq⟩, hw''⟩ := hw'
            subst hw''
            have HW3 : Hid (Below wx.heap.size wx (grow (redrawn wr dq) osq)) := Below.onto HW.out (below_regrown wr dq osq)
            clear r0 r1 r2
            generalize grow (redrawn wr dq) osq = w3 at *
            go_wp2_with fail
            go_roundw
            case rel => exact ⟨j + 1, false, by omega, by go_num, rfl, HB2, HW3⟩
            case measure => simp [intOf]; omega
          · by_cases hne : gj = mn
            · have hne2 : (gj != mn) = false := by simp [hne]
              have HB3 : Hid (false = !decide (m.n ∈ G.take (j + 1))) := by
                show _ = _
                rw [← HB2.out]; simp [hne]
              clear hne
              go_wp2_with fail
              refine wp_region_quiet_below (by kernel_rfl) (by kernel_rfl) ?_
              repeat (go_big_quiet_step (fail))
              refine wpQuiet_nil ?_
              intro _ hw'
              obtain ⟨⟨dq, osq⟩, hw''⟩ := hw'
              subst hw''
              have HW3 : Hid (Below wx.heap.size wx (grow (redrawn wr dq) osq)) := Below.onto HW.out (below_regrown wr dq osq)
              clear r0 r1 r2
              generalize grow (redrawn wr dq) osq = w3 at *
              go_wp2_with fail
              go_roundw
              case rel => exact ⟨j + 1, false, by omega, by go_num, rfl, HB3, HW3⟩
              case measure => simp [intOf]; omega
            · have hne2 : (gj != mn) = true := by simp [hne]
              have HB3 : Hid (true = !decide (m.n ∈ G.take (j + 1))) := by
                show _ = _
                rw [← HB2.out]; simp [hne]
              go_wp2_with fail
              refine wp_region_quiet_below (by kernel_rfl) (by kernel_rfl) ?_
              repeat (go_big_quiet_step (fail))
              refine wpQuiet_nil ?_
              intro _ hw'
              obtain ⟨⟨dq, osq⟩, hw''⟩ := hw'
              subst hw''
              have HW3 : Hid (Below wx.heap.size wx (grow (redrawn wr dq) osq)) := Below.onto HW.out (below_regrown wr dq osq)
              clear r0 r1 r2
              generalize grow (redrawn wr dq) osq = w3 at *
              go_wp2_with fail
              go_roundw
              case rel => exact ⟨j + 1, true, by omega, by go_num, rfl, HB3, HW3⟩
              case measure => simp [intOf]; omega
        · obtain rfl : j = MG := by omega
          have xw := HX.out.1.below (Below.onto HR.out.2 HW.out)
          have d1 := xw.c1
          obtain ⟨g', hg', n0, n1⟩ := xw.at_ HMM.out.1.symm HM.out
          obtain rfl : g = g' := by cases hg'; rfl
          clear hg' xw
          have hb : b = !decide (m.n ∈ G) := by
            have := HB.out
            rwa [show G.take j = G by rw [← HMM.out.2, List.take_length]] at this
          have HRw : Hid (wr.ownsRow w.heap.size 81 2 (.slice va (wout (L.take i) G).length vcap) (wout (L.take i) G).length (encF (wout (L.take i) G)) ∧ Below w.heap.size w wr) := ⟨down_stay HR.out.1 HW.out, Below.onto HR.out.2 HW.out⟩
          by_cases hg : m.n ∈ G
          · obtain rfl : b = false := by simp [hb, hg]
            have HE : Hid (wr.ownsRow w.heap.size 81 2 (.slice va (wout (L.take i) G).length vcap) (wout (L.take (i + 1)) G).length (encF (wout (L.take (i + 1)) G)) ∧ Below w.heap.size w wr) := by
              rw [wout_take HM.out, if_pos hg]
              exact HRw.out
            clear hb hg n0 n1
            generalize (wout (L.take i) G).length = bl at *
            go_wp2_with fail
            go_roundw
            case rel => exact ⟨i + 1, _, by omega, by go_num, rfl, HE⟩
            case measure => simp [intOf]; omega
          · obtain rfl : b = true := by simp [hb, hg]
            have hwl : (wout (L.take i) G).length ≤ 1024 := by
              have h1 := List.length_filter_le (fun e : Fe => !decide (e.n ∈ G)) (L.take i)
              have h2 := List.length_take_le i L
              unfold wout
              omega
            have hb4 : Below wr.heap.size wr (wr.alloc (.cells #[.int .i64 (m.n : Int), .int .i64 m.p] 81)) := (Below.refl _ wr).alloc (Nat.le_refl _) _
            have sr : Src (wr.alloc (.cells #[.int .i64 (m.n : Int), .int .i64 m.p] 81)) (.slice (some ⟨wr.heap.size, 0, none⟩) 1 1) 1 [.int .i64 (m.n : Int), .int .i64 m.p] := gsrc_own (gown_1 wr 0 81 2 [.int .i64 (m.n : Int), .int .i64 m.p] rfl (Nat.zero_le _))
            have hbb := Below.onto HRw.out.2 hb4
            obtain ⟨v2, w4, hr2, ow2, gr2⟩ := fappend_src eltEn 70 w.heap.size _ _ _ 1 _ [.int .i64 (m.n : Int), .int .i64 m.p] (down_stay HRw.out.1 hb4) sr rfl (by simp [Value.oneCell']) (by omega) hbb.size
            have hB9 := gown_below hbb hbb.size (down_stay HRw.out.1 hb4) gr2
            have HE : Hid (w4.ownsRow w.heap.size 81 2 v2 (wout (L.take (i + 1)) G).length (encF (wout (L.take (i + 1)) G)) ∧ Below w.heap.size w w4) := by
              rw [wout_take HM.out, if_neg hg, List.length_append, encF_app]
              exact ⟨ow2, hB9⟩
            obtain ⟨va2, vcap2, rfl, hx1, hx2⟩ := fown_form HE.out.1
            clear hx1 hx2 ow2 gr2 hB9 hbb sr hb4 hwl hb hg
            generalize (wout (L.take i) G).length = bl at *
            generalize hbl : (wout (L.take (i + 1)) G).length = bl2 at *
            have HBL : Hid ((wout (L.take (i + 1)) G).length = bl2) := hbl
            clear hbl
            generalize (m.n : Int) = mn at *
            generalize m.p = mp at *
            go_wp2_with (at_builtin; refine wpList_append_run rfl _ _ _ rfl _ _ _ rfl rfl hr2 ?_)
            go_roundw
            case rel => exact ⟨i + 1, _, by omega, by go_num, rfl, by rw [HBL.out]; exact HE⟩
            case measure => simp [intOf]; omega
    · obtain rfl : i = M := by omega
      have HF : Hid (RfGo w r (.slice av i cv) (wr.setCell ⟨r, 1, none⟩ (.slice va (wout (L.take i) G).length vcap)) N (wout L G)) := by
        refine HX.out.1.store HR.out.2 ?_ HX.out.2 rfl
        have := HR.out.1
        rw [show L.take i = L by rw [← HMM.out.1, List.take_length]] at this ⊢
        exact this
      have f1 : wr.frozen? ⟨r, 1, none⟩ = false := (HX.out.1.below HR.out.2).fz 1
      generalize (wout (L.take i) G).length = bl at *
      go_wp2_with fail
      exact bodyPost_end (results_none rfl _ _ _) rfl ⟨rfl, HF.out⟩
end
end Go.Proofs.Ytlphombjejgbiaa
