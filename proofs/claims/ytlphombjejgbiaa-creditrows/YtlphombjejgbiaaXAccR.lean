/- The document's Accounts; SameRows. -/
import Derived.Test.YtlphombjejgbiaaXAcc
import Derived.Lib.QuietBelow
namespace Go.Proofs.Ytlphombjejgbiaa
open Go.RowKit Go.Sort Go.Shelf
set_option maxRecDepth 100000

/-- fresh accounts' cells; rows' values -/
def encFr (f : Nat → Xl) (k : Nat) : List Value := (List.range k).flatMap fun i => [.int .i64 (f i).c, .int .i64 0, .int .i64 0]
theorem encFr_succ (f : Nat → Xl) (k : Nat) : encFr f (k + 1) = encFr f k ++ [.int .i64 (f k).c, .int .i64 0, .int .i64 0] := by simp [encFr, List.range_succ]
theorem encFr_len (f : Nat → Xl) (k : Nat) : (encFr f k).length = k * 3 := by
  induction k with
  | zero => rfl
  | succ n ih => rw [encFr_succ, List.length_append, ih]; simp; omega
theorem encFr_at (f : Nat → Xl) : ∀ n j, j < n → ∀ q, q < 3 → (encFr f n)[j * 3 + q]? = some (encAc ⟨(f j).c, 0, 0⟩ q) := by
  intro n
  induction n with
  | zero => intro j hj; omega
  | succ n ih =>
    intro j hj q hq
    rw [encFr_succ]
    by_cases e : j < n
    · rw [List.getElem?_append_left (by rw [encFr_len]; omega)]
      exact ih j e q hq
    · obtain rfl : j = n := by omega
      rw [List.getElem?_append_right (by rw [encFr_len]; omega), encFr_len, show j * 3 + q - j * 3 = q by omega]
      rcases (show q = 0 ∨ q = 1 ∨ q = 2 by omega) with rfl | rfl | rfl <;> rfl
def encRo (A : Nat → Aw) (n : Nat) : List Value := (List.range n).map fun j => awV (A j)
theorem encRo_succ (A : Nat → Aw) (n : Nat) : encRo A (n + 1) = encRo A n ++ [awV (A n)] := by simp [encRo, List.range_succ]
theorem encRo_at (A : Nat → Aw) {n j : Nat} (hj : j < n) : (encRo A n)[j]? = some (awV (A j)) := by simp [encRo, hj]
/-- a fresh row that was appended -/
def FrOf (w : World) (c : Cw) (x : Aw) : Prop := x.n = c.ln ∧ (∀ i, i < c.ln → x.g i = ⟨(c.f i).c, 0, 0⟩) ∧ w.ownsRow 0 90 3 (awV x) c.ln (encFr c.f c.ln)
theorem FrOf.row {w : World} {c : Cw} {x : Aw} (h : FrOf w c x) : RowOf w c x := by
  obtain ⟨h1, h2, h3⟩ := h
  refine ⟨h1, h2, fun j hj => ?_⟩
  rw [h1] at hj
  have h4 : w.ownsRow 0 90 3 (.slice x.a c.ln x.c) c.ln (encFr c.f c.ln) := by rw [← h1]; rw [← h1] at h3; exact h3
  obtain ⟨g, e, hc⟩ := pown_at h4 (by omega)
  exact ⟨g, 0, e, fun q hq => by show _ = some (encAc (x.g j) q); rw [h2 j hj, Nat.zero_add]; exact hc _ _ (encFr_at c.f c.ln j hj q hq)⟩
set_option maxHeartbeats 8000000 in
theorem raccounts_any (a : Option Addr) (n cap : Nat) (C : Nat → Cw) (w : World) (hn : n ≤ 12) (h12 : ∀ j, j < n → (C j).ln ≤ 12) (hs : Chs w a n C) :
    Calls Try.prog 15 #[.slice a n cap] w fun e w' => ((∃ v, AccOk w' n C v ∧ e = .returned (.tuple #[v, .int .i64 0])) ∨ (badC n C ∧ e = .returned (.tuple #[.slice none 0 0, .int .i64 131]))) ∧ Below w.heap.size w w' := by
  have HS : Hid (Chs w a n C ∧ ∀ j, j < n → (C j).ln ≤ 12) := ⟨hs, h12⟩
  have hop := fun t W => xropen_any t W
  clear hs h12
  go_enter Try.func15, Try.ntmps15
  go_wp2_with fail
  go_loopw [4, 5] (fun vo vi wr => ∃ (j : Nat) (A : Nat → Aw) (v : Value), j ≤ n ∧ vi = .int .i64 j ∧ vo = v ∧ Hid (wr.ownsRow w.heap.size 86 1 v j (encRo A j)) ∧ Hid (∀ q, q < j → FrOf wr (C q) (A q)) ∧ Hid (∀ q, q < j → ∀ i, i < (C q).ln → opA0 ((C q).f i) = true) ∧ Hid (Below w.heap.size w wr)) (fun _ vi _ => n - (intOf vi).toNat)
  case atStart => exact ⟨0, fun _ => ⟨none, 0, 0, fun _ => ac0⟩, _, Nat.zero_le _, rfl, rfl, World.ownsRow_nil _ _ _ _, fun q hq => absurd hq (by omega), fun q hq => absurd hq (by omega), Below.refl _ _⟩
  case round =>
    obtain ⟨j, A, v, hj, rfl, rfl, hrow, hall, hok, hbel⟩ := hrel
    obtain ⟨va, vcap, hvf, hv1, hv2⟩ := pown_form hrow.out
    subst hvf
    clear hv1 hv2
    by_cases hlt : j < n
    · obtain ⟨b1, o1, rfl, c0, c1, c2⟩ := chs_at (HS.out.1.below hbel.out) hlt
      have HLA : Hid (Rd wr (C j).la (C j).ln 3 (fun i => encXl ((C j).f i)) ∧ wr.cell? ⟨b1, o1 + j * 3 + 1, none⟩ = some (.slice (C j).la (C j).ln (C j).lc)) := ⟨((HS.out.1.2 j hlt).1).below hbel.out, c1⟩
      have h12j := HS.out.2 j hlt
      have HBAD : Hid (∀ i, i < (C j).ln → opA0 ((C j).f i) = false → badC n C) := fun i hi h => ⟨j, hlt, i, hi, h⟩
      have HNEW : Hid ((∀ i, i < (C j).ln → opA0 ((C j).f i) = true) → ∀ q, q < j + 1 → ∀ i, i < (C q).ln → opA0 ((C q).f i) = true) := fun h q hq => by
        by_cases e : q = j
        · rw [e]; exact h
        · exact hok.out q (by omega)
      have HCJ : Hid (∀ x : Aw, x.n = (C j).ln → (∀ i, i < (C j).ln → x.g i = ⟨((C j).f i).c, 0, 0⟩) → ∀ W : World, W.ownsRow 0 90 3 (awV x) (C j).ln (encFr (C j).f (C j).ln) → FrOf W (C j) x) := fun x h1 h2 W h3 => ⟨h1, h2, h3⟩
      clear c0 c1 c2
      generalize (C j).la = la at *
      generalize (C j).ln = ln at *
      generalize (C j).lc = lc at *
      generalize (C j).f = ff at *
      go_wp2_with fail
      obtain ⟨wx, hwx⟩ : ∃ x, x = wr := ⟨wr, rfl⟩
      subst hwx
      go_loopw [6, 7] (fun vo vi wr => ∃ (k : Nat) (v : Value), k ≤ ln ∧ vi = .int .i64 k ∧ vo = v ∧ Hid (wr.ownsRow wx.heap.size 90 3 v k (encFr ff k)) ∧ Hid (∀ i, i < k → opA0 (ff i) = true) ∧ Hid (Below wx.heap.size wx wr)) (fun _ vi _ => ln - (intOf vi).toNat)
      case atStart => exact ⟨0, _, Nat.zero_le _, rfl, rfl, World.ownsRow_nil _ _ _ _, fun q hq => absurd hq (by omega), Below.refl _ _⟩
      case round =>
        obtain ⟨k, v, hk, rfl, rfl, hrow2, hok2, hb2⟩ := hrel
        obtain ⟨ua, ucap, hvf, hv1, hv2⟩ := pown_form hrow2.out
        subst hvf
        clear hv1 hv2
        have c1 := (hb2.out.cell (p := ⟨b1, o1 + j * 3 + 1, none⟩) (cell_lt HLA.out.2)).trans HLA.out.2
        by_cases hkl : k < ln
        · obtain ⟨b4, o4, rfl, f0, f1, f2⟩ := lan_at (HLA.out.1.below hb2.out) hkl
          have hcall := hop (ff k).c wr
          clear f0 f2
          cases hko : opA0 (ff k)
          · have HX : Hid (badC n C) := HBAD.out k hkl hko
            unfold opA0 at hko
            rw [show opA (ff k).c = ac0 by simp [opA, hko], show opE (ff k).c = 131 by simp [opE, ckE, hko]] at hcall
            clear hko
            generalize (ff k).c = fc at *
            go_wp2_with fail
            refine hcall.mono ?_
            rintro e w4 ⟨rfl, hb4⟩
            have HB4 : Hid (Below w.heap.size w (w4.alloc (.cells #[.int .i64 0, .int .i64 0, .int .i64 0] 90))) := Below.onto (Below.onto (Below.onto hbel.out hb2.out) hb4) (below_new _ _)
            clear hb4 hcall
            go_wp2_with fail
            go_ret2
            exact ⟨.inr ⟨HX.out, rfl⟩, HB4.out⟩
          · have HOK3 : Hid (∀ i, i < k + 1 → opA0 (ff i) = true) := fun i hi => by
              by_cases e : i = k
              · rw [e]; exact hko
              · exact hok2.out i (by omega)
            have HSU : Hid (encFr ff (k + 1) = encFr ff k ++ [.int .i64 (ff k).c, .int .i64 0, .int .i64 0]) := encFr_succ ff k
            unfold opA0 at hko
            rw [show opA (ff k).c = ⟨(ff k).c, 0, 0⟩ by simp [opA, hko], show opE (ff k).c = 0 by simp [opE, ckE, hko]] at hcall
            clear hko
            generalize (ff k).c = fc at *
            go_wp2_with fail
            refine hcall.mono ?_
            rintro e w4 ⟨rfl, hb4⟩
            have hb5 : Below w4.heap.size w4 (w4.alloc (.cells #[.int .i64 fc, .int .i64 0, .int .i64 0] 90)) := below_new _ _
            have hb25 := Below.onto hb2.out (Below.onto hb4 hb5)
            have hown5 := pown_below (pown_below hrow2.out hb4) hb5
            obtain ⟨v2, w6, hrun, ho6, _, hB6⟩ := psnoc eltAc 86 wx.heap.size _ k _ [.int .i64 fc, .int .i64 0, .int .i64 0] hown5 rfl (by simp [Value.oneCell']) (by omega) hb25.size
            rw [show (w4.alloc (.cells #[.int .i64 fc, .int .i64 0, .int .i64 0] 90)).heap.size = w4.heap.size + 1 by simp] at hrun
            obtain ⟨a2, c2, rfl, hx1, hx2⟩ := pown_form ho6
            have HO6 : Hid (w6.ownsRow wx.heap.size 90 3 (.slice a2 (k + 1) c2) (k + 1) (encFr ff (k + 1))) := by rw [HSU.out]; exact ho6
            have HB6 : Hid (Below wx.heap.size wx w6) := hB6 wx hb25
            clear hb4 hcall hb5 hb25 hown5 ho6 hB6 hx1 hx2
            go_wp2_with (at_builtin; refine wpList_append_run rfl _ _ _ rfl _ _ _ rfl rfl hrun ?_)
            go_roundw
            case rel => exact ⟨k + 1, _, by omega, by go_num, rfl, HO6, HOK3, HB6⟩
            case measure => simp [intOf]; omega
        · obtain rfl : k = ln := by omega
          have hB1 := Below.onto hbel.out hb2.out
          obtain ⟨v2, w6, hrun, ho6, hg6, hB6⟩ := psnoc eltRo 42 w.heap.size _ j _ [.slice ua k ucap] (pown_below hrow.out hb2.out) rfl (by simp [Value.oneCell']) (by omega) hB1.size
          obtain ⟨a2, c2, rfl, hx1, hx2⟩ := pown_form ho6
          have HO6 : Hid (w6.ownsRow w.heap.size 86 1 (.slice a2 (j + 1) c2) (j + 1) (encRo (fun q => if q = j then ⟨ua, k, ucap, fun i => ⟨(ff i).c, 0, 0⟩⟩ else A q) (j + 1))) := by
            have e1 : encRo (fun q => if q = j then (⟨ua, k, ucap, fun i => ⟨(ff i).c, 0, 0⟩⟩ : Aw) else A q) (j + 1) = encRo A j ++ [.slice ua k ucap] := by
              rw [encRo_succ]
              have : encRo (fun q => if q = j then (⟨ua, k, ucap, fun i => ⟨(ff i).c, 0, 0⟩⟩ : Aw) else A q) j = encRo A j := by
                unfold encRo
                apply List.map_congr_left
                intro q hq
                have := List.mem_range.1 hq
                simp [show ¬ q = j by omega]
              rw [this]
              simp [awV]
            rw [e1]
            exact ho6
          have hkeep : ∀ (x : Value) (m : Nat) (ys : List Value), wr.ownsRow 0 90 3 x m ys → w6.ownsRow 0 90 3 x m ys := fun x m ys h => by
            have h2 := pown_below h (below_new wr (.cells [.slice ua k ucap].toArray 86))
            refine pown_same h2 fun b hb => ?_
            have hap := pown_apart h2 (pown_below (pown_below hrow.out hb2.out) (below_new wr (.cells [.slice ua k ucap].toArray 86))) (by decide) hb
            exact hg6.block b (pown_lt h2 hb).2 (fun e => hap e.symm)
          have HALL : Hid (∀ q, q < j + 1 → FrOf w6 (C q) ((fun q => if q = j then ⟨ua, k, ucap, fun i => ⟨(ff i).c, 0, 0⟩⟩ else A q) q)) := by
            intro q hq
            by_cases e : q = j
            · subst e
              simp only [if_true]
              exact HCJ.out _ rfl (fun i hi => rfl) _ (hkeep _ _ _ (pown_mono hrow2.out (Nat.zero_le _)))
            · simp only [if_neg e]
              obtain ⟨h1, h2, h3⟩ := hall.out q (by omega)
              exact ⟨h1, h2, hkeep _ _ _ (pown_below h3 hb2.out)⟩
          have HOK2 : Hid (∀ q, q < j + 1 → ∀ i, i < (C q).ln → opA0 ((C q).f i) = true) := HNEW.out hok2.out
          have HB6 : Hid (Below w.heap.size w w6) := hB6 w hB1
          clear hall hrow hok hrow2 hok2 hkeep ho6 hg6 hB6 hx1 hx2 hB1 HCJ HNEW HBAD
          go_wp2_with (at_builtin; refine wpList_append_run rfl _ _ _ rfl _ _ _ rfl rfl hrun ?_)
          go_roundw
          case rel => exact ⟨j + 1, _, _, by omega, by go_num, rfl, HO6, HALL, HOK2, HB6⟩
          case measure => simp [intOf]; omega
    · obtain rfl : j = n := by omega
      have HF : Hid (AccOk wr j C (.slice va j vcap) ∧ Below w.heap.size w wr) := by
        refine ⟨⟨hok.out, _, _, A, rfl, fun q hq => ?_, fun q hq => (hall.out q hq).row⟩, hbel.out⟩
        obtain ⟨g, e, hc⟩ := pown_at hrow.out (by omega)
        exact ⟨g, 0, e, fun f hf => by
          obtain rfl : f = 0 := by omega
          rw [Nat.mul_one, Nat.add_zero, Nat.zero_add]
          exact hc q _ (encRo_at A hq)⟩
      clear hall hrow hok
      go_wp2_with fail
      go_ret2
      exact ⟨.inl ⟨_, HF.out.1, rfl⟩, HF.out.2⟩
end Go.Proofs.Ytlphombjejgbiaa
