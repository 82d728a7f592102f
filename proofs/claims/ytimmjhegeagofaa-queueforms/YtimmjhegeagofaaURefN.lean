/- The document's New. -/
import Derived.Test.YtimmjhegeagofaaURefR
import Derived.Test.YtimmjhegeagofaaUNew
namespace Go.Proofs.Ytimmjhegeagofaa
open Go.RowKit
set_option maxRecDepth 100000

theorem rnl_at {cs : List Int} {tw : List Bool} (h : cs.length = tw.length) {j : Nat} (hj : j < cs.length) : atP (newL cs tw) j = ⟨atI cs j, tw.getD j false, atI cs j, [], 0, 0⟩ := by
  have h1 : j < (newL cs tw).length := by simp [newL]; omega
  have h2 : j < tw.length := by omega
  rw [atP_eq h1, atI_eq hj]
  simp [newL, h2]
theorem rnl_len {cs : List Int} {tw : List Bool} (h : cs.length = tw.length) : (newL cs tw).length = cs.length := by simp [newL]; omega
set_option maxHeartbeats 8000000 in
theorem rnew_any (vc vt : Value) (cs : List Int) (tw : List Bool) (w : World) (hnc : cs.length ≤ 1000) (hc : Sl w 1 cs.length (encI cs) vc) (ht : Sl w 1 tw.length (encB tw) vt) : Calls Try.prog 29 #[vc, vt] w fun e w' =>
    ∃ ul um V', e = .returned (.tuple #[quV ul um, .int .i64 (newE cs tw)]) ∧ QIs w' ul um (newQ cs tw) V' ∧ Below w.heap.size w w' := by
  have HC : Hid (Sl w 1 cs.length (encI cs) vc) := hc
  have HT : Hid (Sl w 1 tw.length (encB tw) vt) := ht
  obtain ⟨ca, cc, rfl, _⟩ := hc
  obtain ⟨ta, tc, rfl, _⟩ := ht
  obtain ⟨k1, b1, s1⟩ := alloc1 w [.slice none 0 0, .slice none 0 0] 67
  have K1 : Hid (Blk _ _ _ _) := k1
  have B1 : Hid (Below _ _ _) := b1
  clear k1 b1 s1
  by_cases hll : cs.length = tw.length
  case neg =>
    have HE : Hid (newE cs tw = 1) := by show _ = _; rw [newE, if_neg hll]
    have HP : Hid (newQ cs tw = qu0) := by show _ = _; rw [newQ, HE.out, if_neg (by decide)]
    have hl2 : ¬ (cs.length : Int) = (tw.length : Int) := by omega
    rw [HE.out, HP.out]
    clear hll HE HP
    go_enter Try.func29, Try.ntmps29
    go_wp2_with fail
    refine bodyPost_ret (v := .tuple #[quV (.slice none 0 0) (.slice none 0 0), .int .i64 1]) (by simp [results, Try.results29, go_sem]) rfl ⟨_, _, fun _ => .slice none 0 0, rfl, qis0 _, ?_⟩
    exact B1.out
  case pos =>
  have HLL : Hid (cs.length = tw.length) := hll
  have HT2 : Hid (Sl w 1 cs.length (encB tw) (.slice ta cs.length tc)) := by have := HT.out; rw [← hll] at this; exact this
  rw [← hll]
  by_cases h16 : 16 < cs.length
  · have HE : Hid (newE cs tw = 100) := by show _ = _; rw [newE, if_pos hll, if_neg (by rintro ⟨h, _⟩; omega)]
    have HP : Hid (newQ cs tw = qu0) := by show _ = _; rw [newQ, HE.out, if_neg (by decide)]
    have hl2 : (16 : Int) < (cs.length : Int) := by omega
    rw [HE.out, HP.out]
    clear hll HE HP h16
    go_enter Try.func29, Try.ntmps29
    go_wp2_with fail
    refine bodyPost_ret (v := .tuple #[quV (.slice none 0 0) (.slice none 0 0), .int .i64 100]) (by simp [results, Try.results29, go_sem]) rfl ⟨_, _, fun _ => .slice none 0 0, rfl, qis0 _, ?_⟩
    exact B1.out
  · have hl2 : ¬ (16 : Int) < (cs.length : Int) := by omega
    have HE0 : Hid ((∀ j, j < cs.length → 1 ≤ atI cs j ∧ atI cs j ≤ 64) → newE cs tw = 0) := fun h => by
      have hh : ∀ c ∈ cs, 1 ≤ c ∧ c ≤ 64 := fun c hc => by
        obtain ⟨j, hj, rfl⟩ := List.mem_iff_getElem.1 hc
        have := h j hj
        rwa [atI_eq hj] at this
      rw [newE, if_pos hll, if_pos ⟨by omega, hh⟩]
    have HE1 : Hid (∀ j, j < cs.length → ¬ (1 ≤ atI cs j ∧ atI cs j ≤ 64) → newE cs tw = 100) := fun j hj h => by
      rw [newE, if_pos hll, if_neg]
      rintro ⟨_, h2⟩
      refine h ?_
      rw [atI_eq hj]
      exact h2 _ (List.getElem_mem hj)
    clear hll h16
    go_enter Try.func29, Try.ntmps29
    go_wp2_with fail
    clear K1 B1 hl2
    obtain ⟨k1, k2, b2, s2⟩ := alloc2 w [.slice none 0 0, .slice none 0 0] 67 [.slice none 0 0, .slice none 0 0] 67
    have K1 : Hid (Blk _ _ _ _) := k1
    have K2 : Hid (Blk _ _ _ _) := k2
    have B2 : Hid (Below _ _ _) := b2
    have S2 : Hid (_ = _) := s2
    clear k1 k2 b2 s2
    generalize (w.alloc (.cells #[.slice none 0 0, .slice none 0 0] 67)).alloc (.cells #[.slice none 0 0, .slice none 0 0] 67) = w2 at *
    go_loopw [7] (fun i wr => ∃ (k : Nat) (al : Option Addr) (cl : Nat) (xs : List Value), k ≤ cs.length ∧ i = .int .i64 k ∧ Hid (wr.ownsRow (w.heap.size + 1 + 1) 94 6 (.slice al k cl) k xs) ∧ Hid (∀ j, j < k → ∀ f, f < 6 → xs[j * 6 + f]? = some (encLs (newL cs tw) (fun _ => .slice none 0 0) j f)) ∧ Hid (∀ j, j < k → 1 ≤ atI cs j ∧ atI cs j ≤ 64) ∧
        Hid (Blk wr w.heap.size 67 [.slice none 0 0, .slice none 0 0]) ∧ Hid (Blk wr (w.heap.size + 1) 67 [.slice al k cl, .slice none 0 0]) ∧ Hid (Below w.heap.size w wr) ∧ Hid (w.heap.size + 1 + 1 ≤ wr.heap.size)) (fun i _ => cs.length - (intOf i).toNat)
    case atStart => exact ⟨0, none, 0, [], Nat.zero_le _, rfl, World.ownsRow_nil _ _ _ _, fun j hj => absurd hj (by omega), fun j hj => absurd hj (by omega), K1.out, K2.out, B2.out, by show _ ≤ _; rw [S2.out]; exact Nat.le_refl _⟩
    case round =>
      obtain ⟨k, al, cl, xs, hk, rfl, hlan, hxs, hall, hq1, hq2, hbw, hsz⟩ := hrel
      obtain ⟨p0, p1⟩ := hq1.out.bx.two
      have p2 := hq1.out.fz
      obtain ⟨d0, d1⟩ := hq2.out.bx.two
      have d2 := hq2.out.fz
      by_cases hlt : k < cs.length
      · obtain ⟨_, _, ea, _, _, hra⟩ := HC.out.below hbw.out
        cases ea
        obtain ⟨_, _, eb, _, _, hrb⟩ := HT2.out.below hbw.out
        cases eb
        obtain ⟨bc, oc, rfl, hcc⟩ := hra k hlt
        obtain ⟨bt, ot, rfl, hct⟩ := hrb k hlt
        have c0 : wr.cell? ⟨bc, oc + k, none⟩ = some (.int .i64 (atI cs k)) := by have := hcc 0 (by omega); rwa [Nat.mul_one, Nat.add_zero] at this
        have t0 : wr.cell? ⟨bt, ot + k, none⟩ = some (.bool (tw.getD k false)) := by have := hct 0 (by omega); rwa [Nat.mul_one, Nat.add_zero] at this
        have i1 : (0 : Int) ≤ (k : Int) := by omega
        have i2 : (k : Int) < (cs.length : Int) := by omega
        have l1 := cell_lt c0
        have l2 := cell_lt t0
        have l3 := hq2.out.lt
        have HN1 : Hid (¬ (1 ≤ atI cs k ∧ atI cs k ≤ 64) → newE cs tw = 100) := HE1.out k hlt
        have HN2 : Hid ((1 ≤ atI cs k ∧ atI cs k ≤ 64) → ∀ j, j < k + 1 → 1 ≤ atI cs j ∧ atI cs j ≤ 64) := fun h j hj => by
          by_cases e : j = k
          · rw [e]; exact h
          · exact hall.out j (by omega)
        have HAT : Hid (atP (newL cs tw) k = ⟨atI cs k, tw.getD k false, atI cs k, [], 0, 0⟩) := rnl_at HLL.out hlt
        clear hra hrb hcc hct
        generalize hcx : atI cs k = c at *
        generalize tw.getD k false = t at *
        clear hcx
        by_cases g1 : c < 1
        · have HE : Hid (newE cs tw = 100) := HN1.out (by omega)
          have HP : Hid (newQ cs tw = qu0) := by show _ = _; rw [newQ, HE.out, if_neg (by decide)]
          have g1' : decide (c < 1) = true := by simp [g1]
          go_wp2_with fail
          refine bodyPost_ret (v := .tuple #[quV (.slice none 0 0) (.slice none 0 0), .int .i64 100]) (by simp [results, Try.results29, go_sem, p0, p1]) rfl ⟨_, _, fun _ => .slice none 0 0, by rw [HE.out], by rw [HP.out]; exact qis0 _, ?_⟩
          exact (hbw.out.setCell (Nat.le_refl _) _).setCell (Nat.le_refl _) _
        · have g1' : decide (c < 1) = false := by simp; omega
          have g1n : 1 ≤ c := by omega
          clear g1
          by_cases g2 : 64 < c
          · have g2' : decide (64 < c) = true := by simp [g2]
            have HE : Hid (newE cs tw = 100) := HN1.out (by omega)
            have HP : Hid (newQ cs tw = qu0) := by show _ = _; rw [newQ, HE.out, if_neg (by decide)]
            go_wp2_with fail
            refine bodyPost_ret (v := .tuple #[quV (.slice none 0 0) (.slice none 0 0), .int .i64 100]) (by simp [results, Try.results29, go_sem, p0, p1]) rfl ⟨_, _, fun _ => .slice none 0 0, by rw [HE.out], by rw [HP.out]; exact qis0 _, ?_⟩
            exact (hbw.out.setCell (Nat.le_refl _) _).setCell (Nat.le_refl _) _
          · have HNX : Hid (∀ j, j < k + 1 → 1 ≤ atI cs j ∧ atI cs j ≤ 64) := HN2.out ⟨by omega, by omega⟩
            have bd : Below wr.heap.size wr (wr.drew.alloc (.cells #[.int .i64 c, .bool t, .int .i64 c, .slice none 0 0, .int .i64 0, .int .i64 0] 94)) := Below.onto ((Below.refl _ _).drew) (below_new _ _)
            have hown : World.ownsRow (wr.drew.alloc (.cells #[.int .i64 c, .bool t, .int .i64 c, .slice none 0 0, .int .i64 0, .int .i64 0] 94)) (w.heap.size + 1 + 1) _ _ _ _ _ := own_below hlan.out bd
            have hy : Bx (wr.drew.alloc (.cells #[.int .i64 c, .bool t, .int .i64 c, .slice none 0 0, .int .i64 0, .int .i64 0] 94)) wr.heap.size _ := bx_at wr.drew wr.heap.size (by simp) [.int .i64 c, .bool t, .int .i64 c, .slice none 0 0, .int .i64 0, .int .i64 0] 94
            have hsl : Sl (wr.drew.alloc (.cells #[.int .i64 c, .bool t, .int .i64 c, .slice none 0 0, .int .i64 0, .int .i64 0] 94)) 6 1 (fun _ => encP ⟨c, t, c, [], 0, 0⟩ (.slice none 0 0)) (.slice (some ⟨wr.heap.size, 0, none⟩) 1 1) := ⟨_, _, rfl, Nat.le_refl _, (fun e => by cases e), fun i hi => ⟨wr.heap.size, 0, rfl, fun f hf => by
              obtain rfl : i = 0 := by omega
              rw [Nat.zero_mul, Nat.zero_add]
              match f, hf with
              | 0, _ => exact hy 0 _ rfl
              | 1, _ => exact hy 1 _ rfl
              | 2, _ => exact hy 2 _ rfl
              | 3, _ => exact hy 3 _ rfl
              | 4, _ => exact hy 4 _ rfl
              | 5, _ => exact hy 5 _ rfl⟩⟩
            have HSL : Hid (Sl _ _ _ _ _) := hsl
            have HOWN : Hid (World.ownsRow _ _ _ _ _ _ _) := hown
            have hbs : w.heap.size + 1 + 1 ≤ (wr.drew.alloc (.cells #[.int .i64 c, .bool t, .int .i64 c, .slice none 0 0, .int .i64 0, .int .i64 0] 94)).heap.size := Nat.le_trans hsz.out bd.size
            have HBS : Hid (_ ≤ _) := hbs
            have H1P : Hid (∀ i, i < 1 → ∀ f, f < 6 → (encP ⟨c, t, c, [], 0, 0⟩ (.slice none 0 0) f).oneCell' = true) := fun i _ f hf => by
              match f, hf with
              | 0, _ => rfl
              | 1, _ => rfl
              | 2, _ => rfl
              | 3, _ => rfl
              | 4, _ => rfl
              | 5, _ => rfl
            have hkk : k + 1 ≤ 1000000 := by omega
            have HGB : Hid (∀ w', World.grownBy (wr.drew.alloc (.cells #[.int .i64 c, .bool t, .int .i64 c, .slice none 0 0, .int .i64 0, .int .i64 0] 94)) w' (Value.slice al k cl).ownBlock → Below (w.heap.size + 1 + 1) wr w') := fun w' hg => (bd.mono hsz.out).trans (grown_below hg hbs fun g e => own_blk hlan.out g e)
            have g2' : decide (64 < c) = false := by simp; omega
            have g2n : c ≤ 64 := by omega
            clear bd hown hy hsl hbs p0 p1 p2 g2
            go_wp2_with fail
            go_region_law (refine step_app eltP rfl (.tmp 38) (.tmp 52) rfl (w.heap.size + 1 + 1) (.slice al k cl) k 1 xs (fun _ => encP ⟨c, t, c, [], 0, 0⟩ (.slice none 0 0)) ⟨wr.heap.size, 0, none⟩ 1 rfl rfl HOWN.out HSL.out H1P.out hkk HBS.out ?_; intro v' w' h1 h2; obtain ⟨va', vc', rfl⟩ := own_form2 h1; have hgb := HGB.out w' h2; have kd := hq2.out.upTo hgb (by omega); obtain ⟨u0, u1⟩ := kd.bx.two; have u2 := kd.fz)
            all_goals
              go_wp2_with fail
              go_round
              case measure => simp [intOf]; omega
              case rel =>
                refine ⟨k + 1, va', vc', xs ++ cellsL 1 6 (fun _ => encP ⟨c, t, c, [], 0, 0⟩ (.slice none 0 0)), by omega, by go_num, ?_, ?_, HNX.out, (hq1.out.upTo hgb (by omega)).setO (by omega) _, kd.set 0 _, (hbw.out.trans (hgb.mono (by omega))).setCell (Nat.le_succ _) _, ?_⟩
                · exact own_set h1 fun e => by have := own_blk h1 _ e; omega
                · intro i hi f hf
                  have hxl := hlan.out.1
                  by_cases ei : i = k
                  · subst ei
                    rw [List.getElem?_append_right (by omega), hxl, Nat.add_sub_cancel_left]
                    have := cellsL_at (n := 1) (s := 6) (c := fun _ => encP ⟨c, t, c, [], 0, 0⟩ (.slice none 0 0)) (j := 0) (f := f) (by omega) hf
                    rw [Nat.zero_mul, Nat.zero_add] at this
                    rw [this]
                    unfold encLs
                    rw [HAT.out]
                  · rw [List.getElem?_append_left (by rw [hxl]; exact mul_lt_of (by omega) hf)]
                    exact hxs.out i (by omega) f hf
                · show _ ≤ _
                  have h3 : (w'.setCell ⟨w.heap.size + 1, 0, none⟩ (.slice va' (k + 1) vc')).heap.size = w'.heap.size := by simp [World.setCell]
                  rw [h3]
                  exact Nat.le_trans hsz.out hgb.size
      · obtain rfl : k = cs.length := by omega
        have HE : Hid (newE cs tw = 0) := HE0.out hall.out
        have HP : Hid (newQ cs tw = ⟨newL cs tw, []⟩) := by show _ = _; rw [newQ, HE.out, if_pos rfl]
        have hne : ¬ w.heap.size + 1 = w.heap.size := by omega
        go_wp2_with fail
        refine bodyPost_ret (v := .tuple #[quV (.slice al cs.length cl) (.slice none 0 0), .int .i64 0]) (by simp [results, Try.results29, go_sem, p0, p1]) rfl ⟨_, _, fun _ => .slice none 0 0, by rw [HE.out], ?_, (hbw.out.setCell (Nat.le_refl _) _).setCell (Nat.le_refl _) _⟩
        rw [HP.out]
        have hL := rnl_len HLL.out
        refine ⟨?_, fun j hj => ?_, sl_nil _ _ _⟩
        · show Sl _ 6 (newL cs tw).length _ _
          rw [hL]
          exact sl_own (own_set (own_set hlan.out fun e => by have := own_blk hlan.out _ e; omega) fun e => by have := own_blk hlan.out _ e; omega) hxs.out
        · have hj' : j < cs.length := by have : j < (newL cs tw).length := hj; omega
          show Cl _ _ (atP (newL cs tw) j).cl
          rw [rnl_at HLL.out hj']
          exact sl_nil _ _ _

end Go.Proofs.Ytimmjhegeagofaa
