/- credit.Accounts: fresh accounts of all lanes. -/
import Derived.Test.YtlphombjejgbiaaXHeld
namespace Go.Proofs.Ytlphombjejgbiaa
open Go.RowKit Go.Sort Go.Shelf
set_option maxRecDepth 100000

theorem eltRo : Elt 42 86 1 24 (.slice none 0 0) := ⟨Try.underlying42, by kernel_rfl, rfl, by decide, by decide⟩
def okC (n : Nat) (C : Nat → Cw) : Prop := ∀ j, j < n → ∀ i, i < (C j).ln → opA0 ((C j).f i) = true
def badC (n : Nat) (C : Nat → Cw) : Prop := ∃ j, j < n ∧ ∃ i, i < (C j).ln ∧ opA0 ((C j).f i) = false
/-- row j is that of channel j's lanes -/
def RowOf (w : World) (c : Cw) (x : Aw) : Prop := x.n = c.ln ∧ (∀ i, i < c.ln → x.g i = ⟨(c.f i).c, 0, 0⟩) ∧ Rd w x.a x.n 3 (fun i => encAc (x.g i))
theorem RowOf.same {w w' : World} {c : Cw} {x : Aw} (h : RowOf w c x) (hb : ∀ b off, x.a = some ⟨b, off, none⟩ → w'.heap[b]? = w.heap[b]?) : RowOf w' c x := ⟨h.1, h.2.1, h.2.2.same hb⟩
theorem RowOf.below {w w' : World} {c : Cw} {x : Aw} (h : RowOf w c x) (hb : Below w.heap.size w w') : RowOf w' c x := ⟨h.1, h.2.1, h.2.2.below hb⟩
theorem rw_rd {w : World} {g : Nat} {T : TypeId} {n s : Nat} {c : Nat → Nat → Value} (h : Rw w g T n s c) : Rd w (some ⟨g, 0, none⟩) n s c := fun j hj => ⟨g, 0, rfl, fun f hf => by rw [Nat.zero_add]; exact h.cell hj hf⟩
def AccOk (w' : World) (n : Nat) (C : Nat → Cw) (v : Value) : Prop := okC n C ∧ ∃ (a : Option Addr) (cap : Nat) (A : Nat → Aw), v = .slice a n cap ∧ Rd w' a n 1 (fun j _ => awV (A j)) ∧ ∀ j, j < n → RowOf w' (C j) (A j)
set_option maxHeartbeats 4000000 in
theorem accounts_any (a : Option Addr) (n cap : Nat) (C : Nat → Cw) (w : World) (hn : n ≤ 12) (h12 : ∀ j, j < n → (C j).ln ≤ 12) (hs : Chs w a n C) :
    Calls Try.prog 14 #[.slice a n cap] w fun e w' => ((∃ v, AccOk w' n C v ∧ e = .returned (.tuple #[v, .int .i64 0])) ∨ (badC n C ∧ e = .returned (.tuple #[.slice none 0 0, .int .i64 131]))) ∧ Below w.heap.size w w' := by
  have HS : Hid (Chs w a n C ∧ ∀ j, j < n → (C j).ln ≤ 12) := ⟨hs, h12⟩
  obtain ⟨W1, hmk, hrw, hb1, hs1⟩ := make_rw eltRo w n (by omega)
  have hop := fun a' n' cap' f' W h1 h2 => opened_any a' n' cap' f' W h1 h2
  obtain ⟨R, hR⟩ : ∃ R, w.heap.size = R := ⟨_, rfl⟩
  have HR : Hid (Rw W1 R 86 n 1 (fun _ _ => .slice none 0 0) ∧ Below R w W1 ∧ R < W1.heap.size) := by
    rw [← hR]
    exact ⟨hrw.congr fun j hj q hq => by (obtain rfl : q = 0 := by omega); rfl, hb1, by omega⟩
  clear hs h12 hrw hb1 hs1
  go_enter Try.func14, Try.ntmps14
  go_wp2_with fail
  have HRw : Hid (w.heap.size = R) := hR
  clear hR hmk
  go_loopw [14] (fun vi wr => ∃ (j : Nat) (A : Nat → Aw), j ≤ n ∧ vi = .int .i64 j ∧ Hid (Rw wr R 86 n 1 (fun q _ => if q < j then awV (A q) else .slice none 0 0)) ∧ Hid (∀ q, q < j → RowOf wr (C q) (A q) ∧ ∀ b off, (A q).a = some ⟨b, off, none⟩ → b ≠ R) ∧ Hid (∀ q, q < j → ∀ i, i < (C q).ln → opA0 ((C q).f i) = true) ∧ Hid (Below R w wr ∧ R < wr.heap.size)) (fun vi _ => n - (intOf vi).toNat)
  case atStart => exact ⟨0, fun _ => ⟨none, 0, 0, fun _ => ac0⟩, Nat.zero_le _, rfl, HR.out.1.congr fun q hq f hf => by rw [if_neg (by omega)], fun q hq => absurd hq (by omega), fun q hq => absurd hq (by omega), HR.out.2⟩
  case round =>
    obtain ⟨j, A, hj, rfl, hrow, hall, hok, hbel⟩ := hrel
    by_cases hlt : j < n
    · have hbw : Below w.heap.size w wr := by rw [HRw.out]; exact hbel.out.1
      obtain ⟨b1, o1, rfl, c0, c1, c2⟩ := chs_at (HS.out.1.below hbw) hlt
      have hb2 : Below wr.heap.size wr (wr.alloc (.cells #[.int .i64 (C j).lb, .slice (C j).la (C j).ln (C j).lc, .slice (C j).ra (C j).rn (C j).rc] 85)) := below_new _ _
      have hcall := hop (C j).la (C j).ln (C j).lc (C j).f (wr.alloc (.cells #[.int .i64 (C j).lb, .slice (C j).la (C j).ln (C j).lc, .slice (C j).ra (C j).rn (C j).rc] 85)) (by have := HS.out.2 j hlt; omega) (((HS.out.1.2 j hlt).1.below hbw).below hb2)
      have HB2 : Hid (Below wr.heap.size wr (wr.alloc (.cells #[.int .i64 (C j).lb, .slice (C j).la (C j).ln (C j).lc, .slice (C j).ra (C j).rn (C j).rc] 85))) := hb2
      have HBAD : Hid ((∃ i, i < (C j).ln ∧ opA0 ((C j).f i) = false) → badC n C) := fun h => ⟨j, hlt, h⟩
      have HNEW : Hid ((∀ i, i < (C j).ln → opA0 ((C j).f i) = true) → ∀ q, q < j + 1 → ∀ i, i < (C q).ln → opA0 ((C q).f i) = true) := fun h q hq => by
        by_cases e : q = j
        · rw [e]; exact h
        · exact hok.out q (by omega)
      have HCJ : Hid (∀ x : Aw, x.n = (C j).ln → (∀ i, i < (C j).ln → x.g i = ⟨((C j).f i).c, 0, 0⟩) → ∀ W, Rd W x.a x.n 3 (fun i => encAc (x.g i)) → RowOf W (C j) x) := fun x h1 h2 W h3 => ⟨h1, h2, h3⟩
      clear hb2 hbw
      generalize (C j).lb = lb at *
      generalize (C j).la = la at *
      generalize (C j).ln = ln at *
      generalize (C j).lc = lc at *
      generalize (C j).ra = ra at *
      generalize (C j).rn = rn at *
      generalize (C j).rc = rc at *
      generalize (C j).f = ff at *
      go_wp2_with fail
      generalize wr.alloc (.cells #[.int .i64 lb, .slice la ln lc, .slice ra rn rc] 85) = w2 at *
      refine hcall.mono ?_
      rintro e w4 ⟨⟨hgood, rfl, hnew⟩ | ⟨hbad, rfl⟩, hb4⟩
      · obtain ⟨G, hG⟩ : ∃ G, w2.heap.size = G := ⟨_, rfl⟩
        have hB24 : Below wr.heap.size wr w4 := Below.onto HB2.out hb4
        have hrow4 := hrow.out.below hB24
        have hGR : G ≠ R := by have := HB2.out.size; have := hbel.out.2; omega
        rw [hG] at hnew
        have k0 := hrow4.cell hlt (f := 0) (by omega)
        rw [if_neg (by omega), Nat.mul_one, Nat.add_zero] at k0
        have kf := hrow4.fz j
        have hset := hrow4.set hlt (e := 0) (by omega) (.slice (some ⟨G, 0, none⟩) ln ln)
        rw [Nat.mul_one, Nat.add_zero] at hset
        have HROW : Hid (Rw (w4.setCell ⟨R, j, none⟩ (.slice (some ⟨G, 0, none⟩) ln ln)) R 86 n 1 (fun q _ => if q < j + 1 then awV ((fun q => if q = j then ⟨some ⟨G, 0, none⟩, ln, ln, fun i => ⟨(ff i).c, 0, 0⟩⟩ else A q) q) else .slice none 0 0)) := hset.congr fun q hq f hf => by
          obtain rfl : f = 0 := by omega
          by_cases e : q = j
          · subst e; simp [awV]
          · by_cases e2 : q < j
            · simp [e, e2, show q < j + 1 by omega]
            · simp [e, e2, show ¬ q < j + 1 by omega]
        have HALL : Hid (∀ q, q < j + 1 → RowOf (w4.setCell ⟨R, j, none⟩ (.slice (some ⟨G, 0, none⟩) ln ln)) (C q) ((fun q => if q = j then ⟨some ⟨G, 0, none⟩, ln, ln, fun i => ⟨(ff i).c, 0, 0⟩⟩ else A q) q) ∧ ∀ b off, ((fun q => if q = j then (⟨some ⟨G, 0, none⟩, ln, ln, fun i => ⟨(ff i).c, 0, 0⟩⟩ : Aw) else A q) q).a = some ⟨b, off, none⟩ → b ≠ R) := by
          intro q hq
          by_cases e : q = j
          · subst e
            simp only [if_true]
            refine ⟨HCJ.out _ rfl (fun i hi => rfl) _ ?_, fun b off h => by cases h; exact hGR⟩
            exact (rw_rd hnew).same fun b off h => by cases h; exact Below.heap_setCell _ _ _ _ hGR
          · simp only [if_neg e]
            obtain ⟨h1, h2⟩ := hall.out q (by omega)
            exact ⟨(h1.below hB24).same fun b off h => Below.heap_setCell _ _ _ _ (h2 b off h), h2⟩
        have HOK2 : Hid (∀ q, q < j + 1 → ∀ i, i < (C q).ln → opA0 ((C q).f i) = true) := HNEW.out hgood
        have HBE : Hid (Below R w (w4.setCell ⟨R, j, none⟩ (.slice (some ⟨G, 0, none⟩) ln ln)) ∧ R < (w4.setCell ⟨R, j, none⟩ (.slice (some ⟨G, 0, none⟩) ln ln)).heap.size) := by
          have h1 := hbel.out.1
          rw [← HRw.out] at h1
          have h2 := Below.onto h1 hB24
          rw [HRw.out] at h2
          refine ⟨h2.setCell (Nat.le_refl _) _, ?_⟩
          have h3 := hB24.size
          have h4 := hbel.out.2
          simp [World.setCell]
          omega
        rw [hG]
        clear hgood hnew hB24 hrow4 hset hall hrow hok hcall hb4 HB2 HCJ HNEW HBAD c0 c1 c2
        go_wp2_with fail
        go_roundw
        case rel => exact ⟨j + 1, _, by omega, by go_num, HROW, HALL, HOK2, HBE⟩
        case measure => simp [intOf]; omega
      · have HX : Hid (badC n C ∧ Below w.heap.size w w4) := by
          refine ⟨HBAD.out hbad, ?_⟩
          have h1 := hbel.out.1
          rw [← HRw.out] at h1
          exact Below.onto h1 (Below.onto HB2.out hb4)
        clear hbad hb4 hcall hall hrow hok
        go_wp2_with fail
        go_ret2
        exact ⟨.inr ⟨HX.out.1, rfl⟩, HX.out.2⟩
    · obtain rfl : j = n := by omega
      have HF : Hid (AccOk wr j C (.slice (some ⟨R, 0, none⟩) j j) ∧ Below w.heap.size w wr) := by
        refine ⟨⟨hok.out, _, _, A, rfl, ?_, fun q hq => (hall.out q hq).1⟩, by rw [HRw.out]; exact hbel.out.1⟩
        exact (rw_rd hrow.out).congr fun q hq f hf => by rw [if_pos hq]
      clear hall hrow hok
      go_wp2_with fail
      go_ret2
      exact ⟨.inl ⟨_, HF.out.1, rfl⟩, HF.out.2⟩
end Go.Proofs.Ytlphombjejgbiaa
