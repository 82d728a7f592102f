/- queue.New. -/
import Derived.Test.YtkgehbonijpdnaaUChk
namespace Go.Proofs.Ytkgehbonijpdnaa
open Go.RowKit
set_option maxRecDepth 100000

theorem Rw.drew {w : World} {g n s : Nat} {T : TypeId} {c : Nat → Nat → Value} (h : Rw w g T n s c) : Rw w.drew g T n s c := h.same rfl
theorem Blk.drew {w : World} {b : Nat} {T : TypeId} {l : List Value} (h : Blk w b T l) : Blk w.drew b T l := h.same rfl
def atB (l : List Bool) (j : Nat) : Bool := l.getD j false
theorem atB_eq {l : List Bool} {j : Nat} (h : j < l.length) : atB l j = l[j] := by simp [atB, h]
def encB (l : List Bool) (j _ : Nat) : Value := .bool (atB l j)
def neL (c : Int) (t : Bool) : PLn := ⟨c, t, c, [], 0, 0⟩
theorem newL_len {cs : List Int} {tw : List Bool} (h : cs.length = tw.length) : (newL cs tw).length = cs.length := by simp [newL, h]
theorem newL_at {cs : List Int} {tw : List Bool} (h : cs.length = tw.length) {j : Nat} (hj : j < cs.length) : atP (newL cs tw) j = neL (atI cs j) (atB tw j) := by
  rw [atP_eq (by rw [newL_len h]; exact hj), atI_eq hj, atB_eq (by omega)]
  simp [newL, neL]
theorem new_ok {cs : List Int} {tw : List Bool} (h : cs.length = tw.length) : (⟨newL cs tw, []⟩ : Qu).ok = true ↔ cs.length ≤ 16 ∧ ∀ c ∈ cs, 1 ≤ c ∧ c ≤ 64 := by
  rw [ok_iff]
  show (newL cs tw).length ≤ 16 ∧ _ ∧ (∀ j, j < (newL cs tw).length → _) ↔ _
  rw [newL_len h]
  constructor
  · rintro ⟨h1, _, h3⟩
    refine ⟨h1, fun c hc => ?_⟩
    obtain ⟨j, hj, e⟩ := List.mem_iff_getElem.1 hc
    have h4 := h3 j hj
    simp only [newL_at h hj] at h4
    have h5 : hasCr (neL (atI cs j) (atB tw j)) = true := by simp only [okL, Bool.and_eq_true] at h4; exact h4.1
    have h6 := (hasCr_iff.1 h5).1
    rw [atI_eq hj, e] at h6
    exact h6
  · rintro ⟨h1, h2⟩
    refine ⟨h1, fun m hm => (by cases hm), fun j hj => ?_⟩
    have h4 := h2 (atI cs j) (by rw [atI_eq hj]; exact List.getElem_mem hj)
    simp only [newL_at h hj]
    have h5 : hasCr (neL (atI cs j) (atB tw j)) = true := hasCr_iff.2 ⟨h4, by show 0 ≤ atI cs j; omega, Int.le_refl _⟩
    have h6 : hasNo (neL (atI cs j) (atB tw j)) = true := hasNo_iff.2 ⟨⟨Int.le_refl 0, show (0 : Int) ≤ _ by decide⟩, Int.le_refl 0, show (0 : Int) ≤ _ by decide⟩
    simp only [okL, h5, h6, Bool.and_eq_true, true_and]
    refine ⟨?_, rfl⟩
    simp [covB, tkn, neL, cnt]
def newC (cs : List Int) (tw : List Bool) (k j : Nat) : Nat → Value := encP (if j < k then neL (atI cs j) (atB tw j) else pl0) (.slice none 0 0)
theorem newC_step {cs : List Int} {tw : List Bool} {k : Nat} (j f : Nat) (hf : f < 6) :
    set6 (newC cs tw k) k (.int .i64 (atI cs k)) (.bool (atB tw k)) (.int .i64 (atI cs k)) (.slice none 0 0) (.int .i64 0) (.int .i64 0) j f = newC cs tw (k + 1) j f := by
  unfold newC
  by_cases h : j = k
  · subst h
    rw [if_pos (Nat.lt_succ_self _)]
    match f, hf with
    | 0, _ => simp [set6, encP, neL]
    | 1, _ => simp [set6, encP, neL]
    | 2, _ => simp [set6, encP, neL]
    | 3, _ => simp [set6, encP]
    | 4, _ => simp [set6, encP, neL]
    | 5, _ => simp [set6, encP, neL]
  · have e : (if j < k + 1 then neL (atI cs j) (atB tw j) else pl0) = if j < k then neL (atI cs j) (atB tw j) else pl0 := by
      by_cases hl : j < k
      · rw [if_pos hl, if_pos (by omega)]
      · rw [if_neg hl, if_neg (by omega)]
    rw [e]
    simp [set6, h]
set_option maxHeartbeats 4000000 in
theorem new_any (vc vt : Value) (cs : List Int) (tw : List Bool) (w : World) (hnc : cs.length ≤ 1000) (hc : Sl w 1 cs.length (encI cs) vc) (ht : Sl w 1 tw.length (encB tw) vt) : Calls Try.prog 6 #[vc, vt] w fun e w' =>
    ∃ ul um V', e = .returned (.tuple #[quV ul um, .int .i64 (newE cs tw)]) ∧ QIs w' ul um (newQ cs tw) V' ∧ Below w.heap.size w w' ∧ QNew w.heap.size ul um (newQ cs tw) V' := by
  obtain ⟨ca, cc, rfl, hcc, _, hcr⟩ := hc
  obtain ⟨ta, tc, rfl, htc, _, htr⟩ := ht
  have HCR : Hid (Rd w ca cs.length 1 (encI cs)) := hcr
  have HTR : Hid (Rd w ta tw.length 1 (encB tw)) := htr
  obtain ⟨k1, b1, s1⟩ := alloc1 w [.slice none 0 0, .slice none 0 0] 30
  have K1 : Hid (Blk _ _ _ _) := k1
  have B1 : Hid (Below _ _ _) := b1
  have S1 : Hid (_ = _) := s1
  clear hcr htr k1 b1 s1
  by_cases hl : cs.length = tw.length
  · by_cases h16 : cs.length ≤ 16
    · have HL : Hid (cs.length = tw.length) := hl
      have hl1 : ((cs.length : Int) == (tw.length : Int)) = true := by simp [hl]
      have h161 : ¬ (16 : Int) < (cs.length : Int) := by omega
      obtain ⟨W2, hmk, hrw, hb2, hs2⟩ := make_rw eltP (w.alloc (.cells #[.slice none 0 0, .slice none 0 0] 30)) cs.length (by omega)
      rw [S1.out] at hmk hrw
      have HRW : Hid (Rw W2 (w.heap.size + 1) _ _ _ _) := hrw
      have HB2 : Hid (Below w.heap.size w W2) := Below.onto B1.out hb2
      have K1b : Hid (Blk W2 w.heap.size _ _) := K1.out.below hb2
      obtain ⟨k3, b3, s3⟩ := alloc1 W2 [.slice (some ⟨w.heap.size + 1, 0, none⟩) cs.length cs.length, .slice none 0 0] 30
      have K3 : Hid (Blk _ _ _ _) := k3
      have B3 : Hid (Below _ _ _) := b3
      clear hrw hb2 hs2 k3 b3 s3 hl h16
      go_enter Try.func6, Try.ntmps6
      go_wp2_with fail
      generalize W2.alloc (.cells #[.slice (some ⟨w.heap.size + 1, 0, none⟩) cs.length cs.length, .slice none 0 0] 30) = w3 at *
      have HRW3 : Hid (Rw w3 (w.heap.size + 1) _ _ _ _) := HRW.out.below B3.out
      have HB3 : Hid (Below w.heap.size w w3) := Below.onto HB2.out B3.out
      have K1c : Hid (Blk w3 w.heap.size _ _) := K1b.out.below B3.out
      have HGD : Hid (w.heap.size + 1 < W2.heap.size) := HRW.out.lt
      have HG : Hid (w.heap.size < w.heap.size + 1) := Nat.lt_succ_self _
      have hgd : ¬ W2.heap.size = w.heap.size + 1 := by have := HGD.out; omega
      generalize w.heap.size + 1 = g at *
      generalize W2.heap.size = D at *
      clear hmk
      go_loopw [26] (fun i wr => ∃ k : Nat, k ≤ cs.length ∧ i = .int .i64 k ∧ Rw wr g 57 cs.length 6 (newC cs tw k) ∧ Hid (Blk wr D 30 [.slice (some ⟨g, 0, none⟩) cs.length cs.length, .slice none 0 0]) ∧ Hid (Below g w3 wr)) (fun i _ => cs.length - (intOf i).toNat)
      case atStart =>
        refine ⟨0, Nat.zero_le _, rfl, HRW3.out.congr fun j _ f hf => ?_, K3.out, Below.refl _ _⟩
        match f, hf with
        | 0, _ => rfl
        | 1, _ => rfl
        | 2, _ => rfl
        | 3, _ => rfl
        | 4, _ => rfl
        | 5, _ => rfl
      case round =>
        obtain ⟨k, hk, rfl, hrw, hblk, hbel⟩ := hrel
        by_cases hlt : k < cs.length
        · have HBW : Hid (Below w.heap.size w wr) := HB3.out.trans (hbel.out.mono (Nat.le_of_lt HG.out))
          obtain ⟨b, off, rfl, hcc⟩ := HCR.out.below HBW.out k hlt
          obtain ⟨bt, ot, rfl, htt⟩ := HTR.out.below HBW.out k (by have := HL.out; omega)
          have c0 : wr.cell? ⟨b, off + k, none⟩ = some (.int .i64 (atI cs k)) := by have := hcc 0 (by omega); rwa [Nat.mul_one, Nat.add_zero] at this
          have t0 : wr.cell? ⟨bt, ot + k, none⟩ = some (.bool (atB tw k)) := by have := htt 0 (by omega); rwa [Nat.mul_one, Nat.add_zero] at this
          obtain ⟨d0, d1⟩ := hblk.out.bx.two
          have HW : Hid (Rw wr g 57 cs.length 6 (newC cs tw k)) := hrw
          have y0 : wr.cell? ⟨g, k * 6, none⟩ = _ := hrw.cell (f := 0) hlt (by omega)
          have y1 := hrw.cell (f := 1) hlt (by omega)
          have y2 := hrw.cell (f := 2) hlt (by omega)
          have y3 := hrw.cell (f := 3) hlt (by omega)
          have y4 := hrw.cell (f := 4) hlt (by omega)
          have y5 := hrw.cell (f := 5) hlt (by omega)
          have y6 := hrw.fz
          have j1 : (0 : Int) ≤ (k : Int) := by omega
          have j2 : (k : Int) < (cs.length : Int) := by omega
          have j3 : (k : Int) < (tw.length : Int) := by have := HL.out; omega
          clear hcc htt hrw
          go_wp2_with fail
          go_region
          go_wp2_with fail
          refine ⟨⟨k + 1, by omega, by go_num, ?_, ?_, ?_⟩, by simp [intOf]; omega⟩
          · refine Rw.drew (Rw.congr (c := set6 (newC cs tw k) k (.int .i64 (atI cs k)) (.bool (atB tw k)) (.int .i64 (atI cs k)) (.slice none 0 0) (.int .i64 0) (.int .i64 0)) ?_ fun j _ f hf => newC_step j f hf)
            exact HW.out.set6 hlt (by omega) _ _ _ _ _ _
          · exact Blk.drew ((((((hblk.out.setO hgd _).setO hgd _).setO hgd _).setO hgd _).setO hgd _).setO hgd _)
          · exact (below_set6 hbel.out (Nat.le_refl _) _ _ _ _ _ _).drew
        · obtain rfl : k = cs.length := by omega
          obtain ⟨wx, hwx⟩ : ∃ x, x = wr := ⟨wr, rfl⟩
          subst hwx
          have HBX : Hid (Below w.heap.size w wx) := HB3.out.trans (hbel.out.mono (Nat.le_of_lt HG.out))
          have K1x : Hid (Blk wx w.heap.size _ _) := K1c.out.upTo hbel.out HG.out
          have HLL : Hid ((newL cs tw).length = cs.length) := newL_len HL.out
          have HQX : Hid (QIs wx (.slice (some ⟨g, 0, none⟩) cs.length cs.length) (.slice none 0 0) ⟨newL cs tw, []⟩ (fun _ => .slice none 0 0)) := by
            refine ⟨?_, fun j hj => ?_, sl_nil _ _ _⟩
            · rw [HLL.out]
              refine (hrw.congr fun j hj f _ => ?_).sl
              unfold newC encLs
              rw [if_pos hj, newL_at HL.out hj]
            · have hj' : j < cs.length := by rw [← HLL.out]; exact hj
              show Cl wx (.slice none 0 0) (atP (newL cs tw) j).cl
              rw [newL_at HL.out hj']
              exact sl_nil _ _ _
          have HNX : Hid (QNew g (.slice (some ⟨g, 0, none⟩) cs.length cs.length) (.slice none 0 0) ⟨newL cs tw, []⟩ (fun _ => .slice none 0 0)) := ⟨fun b e => by (have e : g = b := by simpa [Value.ownBlock] using e); omega, fun b e => (by cases e), fun j hj h0 b e => (by cases e)⟩
          have HOX : Hid (OkQ ⟨newL cs tw, []⟩) := ⟨by show (newL cs tw).length ≤ 1000; rw [HLL.out]; omega, by simp, fun j hj => by
            have hj' : j < cs.length := by rw [← HLL.out]; exact hj
            show (atP (newL cs tw) j).cl.length ≤ 1000
            rw [newL_at HL.out hj']
            simp [neL]⟩
          have hck := check_any _ _ _ _ wx HOX.out HQX.out
          obtain ⟨d0, d1⟩ := hblk.out.bx.two
          cases hok : (⟨newL cs tw, []⟩ : Qu).ok
          · rw [chk_no hok] at hck
            have HE : Hid (newE cs tw = 100) := by
              show _ = _
              rw [newE, if_pos HL.out, if_neg (fun h => by rw [(new_ok HL.out).2 h] at hok; cases hok)]
            have HP : Hid (newQ cs tw = qu0) := by show _ = _; rw [newQ, HE.out, if_neg (by decide)]
            clear hok hrw
            go_wp2_with fail
            refine hck.mono ?_
            rintro e w4 ⟨rfl, hb4⟩
            obtain ⟨p0, p1⟩ := (K1x.out.below hb4).bx.two
            have p2 := (K1x.out.below hb4).fz
            have B4 : Hid (Below w.heap.size w w4) := Below.onto HBX.out hb4
            clear hb4
            go_wp2_with fail
            exact bodyPost_ret (v := .tuple #[quV (.slice none 0 0) (.slice none 0 0), .int .i64 100]) (by simp [results, Try.results6, go_sem, p0, p1]) rfl ⟨.slice none 0 0, .slice none 0 0, fun _ => .slice none 0 0, by rw [HE.out], by rw [HP.out]; exact qis0 _, (B4.out.setCell (Nat.le_refl _) _).setCell (Nat.le_refl _) _, by rw [HP.out]; exact qnew0 _⟩
          · rw [chk_ok hok] at hck
            have HE : Hid (newE cs tw = 0) := by
              show _ = _
              rw [newE, if_pos HL.out, if_pos ((new_ok HL.out).1 hok)]
            have HP : Hid (newQ cs tw = ⟨newL cs tw, []⟩) := by show _ = _; rw [newQ, HE.out, if_pos rfl]
            clear hok hrw
            go_wp2_with fail
            refine hck.mono ?_
            rintro e w4 ⟨rfl, hb4⟩
            obtain ⟨p0, p1⟩ := (K1x.out.below hb4).bx.two
            have p2 := (K1x.out.below hb4).fz
            obtain ⟨d0', d1'⟩ := (hblk.out.below hb4).bx.two
            have B4 : Hid (Below w.heap.size w w4) := Below.onto HBX.out hb4
            have HQ4 : Hid (QIs w4 _ _ _ _) := HQX.out.below hb4
            have hnd : ¬ D = w.heap.size := by have := HGD.out; have := HG.out; omega
            clear hb4
            go_wp2_with fail
            exact bodyPost_ret (v := .tuple #[quV (.slice (some ⟨g, 0, none⟩) cs.length cs.length) (.slice none 0 0), .int .i64 0]) (by simp [results, Try.results6, go_sem, p0, p1]) rfl ⟨.slice (some ⟨g, 0, none⟩) cs.length cs.length, .slice none 0 0, fun _ => .slice none 0 0, by rw [HE.out], by rw [HP.out]; exact (HQ4.out.setO HNX.out HG.out).setO HNX.out HG.out, (B4.out.setCell (Nat.le_refl _) _).setCell (Nat.le_refl _) _, by rw [HP.out]; exact HNX.out.mono (Nat.le_of_lt HG.out)⟩
    · have HE : Hid (newE cs tw = 100) := by show _ = _; rw [newE, if_pos hl, if_neg (fun h => h16 h.1)]
      have HP : Hid (newQ cs tw = qu0) := by show _ = _; rw [newQ, HE.out, if_neg (by decide)]
      have hl1 : ((cs.length : Int) == (tw.length : Int)) = true := by simp [hl]
      have h161 : (16 : Int) < (cs.length : Int) := by omega
      rw [HE.out, HP.out]
      clear hl h16 HE HP
      go_enter Try.func6, Try.ntmps6
      go_wp2_with fail
      refine bodyPost_ret (v := .tuple #[quV (.slice none 0 0) (.slice none 0 0), .int .i64 100]) (by simp [results, Try.results6, go_sem]) rfl ⟨_, _, fun _ => .slice none 0 0, rfl, qis0 _, ?_, qnew0 _⟩
      exact below_new _ _
  · have HE : Hid (newE cs tw = 1) := by show _ = _; rw [newE, if_neg hl]
    have HP : Hid (newQ cs tw = qu0) := by show _ = _; rw [newQ, HE.out, if_neg (by decide)]
    have hl1 : ((cs.length : Int) == (tw.length : Int)) = false := by simp; omega
    rw [HE.out, HP.out]
    clear hl HE HP
    go_enter Try.func6, Try.ntmps6
    go_wp2_with fail
    refine bodyPost_ret (v := .tuple #[quV (.slice none 0 0) (.slice none 0 0), .int .i64 1]) (by simp [results, Try.results6, go_sem]) rfl ⟨_, _, fun _ => .slice none 0 0, rfl, qis0 _, ?_, qnew0 _⟩
    exact below_new _ _

end Go.Proofs.Ytkgehbonijpdnaa
