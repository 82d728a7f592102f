/- CreditRows' walk. -/
import Derived.Test.YtlphombjejgbiaaXSame
import Derived.Test.YtlphombjejgbiaaXAlive
namespace Go.Proofs.Ytlphombjejgbiaa
open Go.RowKit Go.Sort Go.Shelf
set_option maxRecDepth 100000

theorem slice_rows (a : Option Addr) (n q cap : Nat) (hq : q ≤ cap) (W : World) : (Instr.slice 42 (.slice a n cap) none (some (.int .i64 (q : Int))) none).run Try.prog W = .ok (.slice a q cap) W := by
  have hs : ∀ w, (sizeOf (Try.prog.elem 42)).run Try.prog w = .ok 1 w := fun w => by kernel_rfl
  rw [run_slice_h _ 42 a n cap (by kernel_rfl) .i64 q (by omega) (by omega), hs]
  cases a with
  | none => simp [sliced, Result.andThen]
  | some x => simp only [sliced, Result.andThen, Option.map_some, Nat.zero_mul, Nat.sub_zero, Int.toNat_natCast]; split <;> rfl
theorem ok_bad {n : Nat} {C : Nat → Cw} (h : okC n C) (hb : badC n C) : False := by
  obtain ⟨j, hj, i, hi, e⟩ := hb
  have := h j hj i hi
  rw [this] at e
  cases e
theorem fresh_held {n : Nat} {C : Nat → Cw} {A : Nat → Aw} {t : Int} (ho : okC n C) (hl : ∀ j, j < n → (A j).n = (C j).ln) (hg : ∀ j, j < n → ∀ i, i < (C j).ln → (A j).g i = ⟨((C j).f i).c, 0, 0⟩) : heldE n n C A = 0 ∧ heldN n n C A t = 0 := by
  have hf : fitD n n C A = true := fitD_iff.2 ⟨rfl, fun j hj => (hl j hj).symm⟩
  have hb : badD n A = false := badD_no.2 fun j hj i hi => by
    rw [hl j hj] at hi
    rw [hg j hj i hi]
    exact ho j hj i hi
  have hrow : ∀ j, j < n → ∀ k, k ≤ (A j).n → rowS (C j) (A j) t k = 0 := by
    intro j hj k
    induction k with
    | zero => intro _; rfl
    | succ k ih =>
      intro hk
      rw [hl j hj] at hk
      simp only [rowS]
      rw [ih (by rw [hl j hj]; omega), hg j hj k (by omega)]
      simp
  have hall : ∀ j, j ≤ n → allS C A t j = 0 := by
    intro j
    induction j with
    | zero => intro _; rfl
    | succ j ih =>
      intro hj
      simp only [allS]
      rw [ih (by omega), hrow j (by omega) _ (Nat.le_refl _)]
      rfl
  exact ⟨(held_ok (t := t) hf hb).1, by rw [(held_ok (t := t) hf hb).2]; exact hall n (Nat.le_refl _)⟩
theorem AccOk.rws {w : World} {n : Nat} {C : Nat → Cw} {v : Value} (h : AccOk w n C v) : ∃ a cap A, v = .slice a n cap ∧ Rws w a n A ∧ (∀ j, j < n → (A j).n = (C j).ln) ∧ (∀ j, j < n → ∀ i, i < (C j).ln → (A j).g i = ⟨((C j).f i).c, 0, 0⟩) ∧ okC n C := by
  obtain ⟨ho, a, cap, A, rfl, h1, h2⟩ := h
  exact ⟨a, cap, A, rfl, ⟨h1, fun j hj => (h2 j hj).2.2⟩, fun j hj => (h2 j hj).1, fun j hj => (h2 j hj).2.1, ho⟩
theorem rws_nil (w : World) (A : Nat → Aw) : Rws w none 0 A := ⟨fun j hj => absurd hj (by omega), fun j hj => absurd hj (by omega)⟩
set_option maxHeartbeats 8000000 in
/-- behind the cut -/
theorem rows_in (a b : Option Addr) (n m cap cap2 : Nat) (C : Nat → Cw) (A : Nat → Aw) (t : Int) (w : World) (hn : n ≤ 9223372036854775807) (hm : m ≤ 9223372036854775807) (hmc : m ≤ cap2) (hs : Chs w a n C) (hr : Rws w b m A) :
    Calls Try.prog 4 #[.slice a n cap, .slice b m cap2, .int .i64 t] w fun e w' => e = .returned (.bool true) ∧ Below w.heap.size w w' := by
  have hcut := cut_any a n cap C w hs hn
  have HR : Hid (Rws w b m A) := hr
  clear hs hr
  obtain ⟨n2, hn2⟩ : ∃ n2, min n 12 = n2 := ⟨_, rfl⟩
  have h12 : n2 ≤ 12 := by omega
  rw [hn2] at hcut
  have hl12 : ∀ j, j < n2 → (cutC C j).ln ≤ 12 := fun j _ => by
    have : (cutC C j).ln = min (C j).ln 12 := rfl
    omega
  generalize cutC C = C2 at *
  have HL : Hid (∀ j, j < n2 → (C2 j).ln ≤ 12) := hl12
  clear hn2 hl12
  obtain ⟨m2, hm2⟩ : ∃ m2, min m 24 = m2 := ⟨_, rfl⟩
  have hO := fun W => xalive_any W
  go_enter Try.func4, Try.ntmps4
  go_wp2_with fail
  refine hcut.mono ?_
  rintro e w1 ⟨a1, cap1, rfl, hc1, hb1⟩
  have HC : Hid (Chs w1 a1 n2 C2 ∧ Rws w1 b m2 A ∧ Below w.heap.size w w1) := ⟨hc1, by
    have h := HR.out.below hb1
    exact ⟨fun j hj => h.1 j (by omega), fun j hj => h.2 j (by omega)⟩, hb1⟩
  clear hcut hc1 hb1 HR
  by_cases hg : 24 < m
  · have hsl := slice_rows b m 24 cap2 (by omega)
    obtain rfl : m2 = 24 := by omega
    clear hm2
    have cA := accounts_any a1 n2 cap1 C2 w1 h12 HL.out HC.out.1
    go_wp2_with fail
    refine cA.mono ?_
    rintro e w2 ⟨⟨v1, hv1, rfl⟩ | ⟨hbad, rfl⟩, hb2⟩
    · obtain ⟨a2, cap3, A2, rfl, hr2, hl2, hg2, hok⟩ := hv1.rws
      have H2 : Hid (Rws w2 a2 n2 A2 ∧ (∀ j, j < n2 → (A2 j).n = (C2 j).ln) ∧ (∀ j, j < n2 → ∀ i, i < (C2 j).ln → (A2 j).g i = ⟨((C2 j).f i).c, 0, 0⟩) ∧ okC n2 C2) := ⟨hr2, hl2, hg2, hok⟩
      have HC2 : Hid (Chs w2 a1 n2 C2 ∧ Rws w2 b 24 A ∧ Below w.heap.size w w2) := ⟨HC.out.1.below hb2, HC.out.2.1.below hb2, Below.onto HC.out.2.2 hb2⟩
      have cB := raccounts_any a1 n2 cap1 C2 w2 h12 HL.out HC2.out.1
      clear hv1 hr2 hl2 hg2 hok hb2 cA
      go_wp2_with fail
      refine cB.mono ?_
      rintro e w3 ⟨⟨v2, hv2, rfl⟩ | ⟨hbad, rfl⟩, hb3⟩
      · obtain ⟨a3, cap4, A3, rfl, hr3, hl3, hg3, _⟩ := hv2.rws
        have H3 : Hid (Rws w3 a2 n2 A2 ∧ Rws w3 a3 n2 A3 ∧ (∀ j, j < n2 → (A3 j).n = (C2 j).ln) ∧ (∀ j, j < n2 → ∀ i, i < (C2 j).ln → (A3 j).g i = ⟨((C2 j).f i).c, 0, 0⟩)) := ⟨H2.out.1.below hb3, hr3, hl3, hg3⟩
        have HC3 : Hid (Chs w3 a1 n2 C2 ∧ Rws w3 b 24 A ∧ Below w.heap.size w w3) := ⟨HC2.out.1.below hb3, HC2.out.2.1.below hb3, Below.onto HC2.out.2.2 hb3⟩
        have cH := held_any a1 b n2 24 cap1 cap2 C2 A t w3 h12 HL.out HC3.out.1 HC3.out.2.1
        clear hv2 hr3 hl3 hg3 hb3 cB
        obtain ⟨hN, hhN⟩ : ∃ x, heldN n2 24 C2 A t = x := ⟨_, rfl⟩
        obtain ⟨hE, hhE⟩ : ∃ x, heldE n2 24 C2 A = x := ⟨_, rfl⟩
        have HNE : Hid (heldN n2 24 C2 A t = hN ∧ heldE n2 24 C2 A = hE) := ⟨hhN, hhE⟩
        rw [hhN, hhE] at cH
        clear hhN hhE
        go_wp2_with fail
        refine cH.mono ?_
        rintro e w4 ⟨rfl, hb4⟩
        have H4 : Hid (Rws w4 a2 n2 A2 ∧ Rws w4 a3 n2 A3) := ⟨H3.out.1.below hb4, H3.out.2.1.below hb4⟩
        have HC4 : Hid (Chs w4 a1 n2 C2 ∧ Rws w4 b 24 A ∧ Below w.heap.size w w4) := ⟨HC3.out.1.below hb4, HC3.out.2.1.below hb4, Below.onto HC3.out.2.2 hb4⟩
        have cR := rheld_any a1 b n2 24 cap1 cap2 C2 A t w4 h12 HL.out HC4.out.1 HC4.out.2.1
        rw [HNE.out.1, HNE.out.2] at cR
        clear hb4 cH
        go_wp2_with fail
        refine cR.mono ?_
        rintro e w5 ⟨rfl, hb5⟩
        have H5 : Hid (Rws w5 a2 n2 A2 ∧ Rws w5 a3 n2 A3) := ⟨H4.out.1.below hb5, H4.out.2.below hb5⟩
        have HC5 : Hid (Chs w5 a1 n2 C2 ∧ Below w.heap.size w w5) := ⟨HC4.out.1.below hb5, Below.onto HC4.out.2.2 hb5⟩
        have cX := held_any a1 a2 n2 n2 cap1 cap3 C2 A2 t w5 h12 HL.out HC5.out.1 H5.out.1
        have hfr := fresh_held (t := t) H2.out.2.2.2 H2.out.2.1 H2.out.2.2.1
        rw [hfr.1, hfr.2] at cX
        clear hb5 cR hfr
        go_wp2_with fail
        refine cX.mono ?_
        rintro e w6 ⟨rfl, hb6⟩
        have HB6 : Hid (Below w.heap.size w w6) := Below.onto HC5.out.2 hb6
        have cS := samerows_any a2 a3 n2 cap3 cap4 A2 A3 w6 h12 (fun j hj => by rw [H2.out.2.1 j hj]; exact HL.out j hj) (H5.out.1.below hb6) (H5.out.2.below hb6) (fun j hj => by rw [H2.out.2.1 j hj, H3.out.2.2.1 j hj]) (fun j hj i hi => by
          rw [H2.out.2.1 j hj] at hi
          rw [H2.out.2.2.1 j hj i hi, H3.out.2.2.2 j hj i hi])
        clear hb6 cX
        go_wp2_with fail
        refine cS.mono ?_
        rintro e w7 ⟨rfl, hb7⟩
        have HB7 : Hid (Below w.heap.size w w7) := Below.onto HB6.out hb7
        clear hb7 cS
        go_wp2_with fail
        refine (hO _).mono ?_
        rintro e w8 ⟨rfl, hb8⟩
        have HB8 : Hid (Below w.heap.size w w8) := Below.onto HB7.out hb8
        clear hb8
        go_wp2_with fail
        go_ret
        exact ⟨ret_bool (by simp), HB8.out⟩
      · exact absurd (ok_bad H2.out.2.2.2 hbad) (fun h => h)
    · have HBD : Hid (badC n2 C2) := hbad
      have HC2 : Hid (Chs w2 a1 n2 C2 ∧ Rws w2 b 24 A ∧ Below w.heap.size w w2) := ⟨HC.out.1.below hb2, HC.out.2.1.below hb2, Below.onto HC.out.2.2 hb2⟩
      have cB := raccounts_any a1 n2 cap1 C2 w2 h12 HL.out HC2.out.1
      clear hbad hb2 cA
      go_wp2_with fail
      refine cB.mono ?_
      rintro e w3 ⟨⟨v2, hv2, rfl⟩ | ⟨hbad, rfl⟩, hb3⟩
      · exact absurd (ok_bad hv2.1 HBD.out) (fun h => h)
      · have HC3 : Hid (Chs w3 a1 n2 C2 ∧ Rws w3 b 24 A ∧ Below w.heap.size w w3) := ⟨HC2.out.1.below hb3, HC2.out.2.1.below hb3, Below.onto HC2.out.2.2 hb3⟩
        have cH := held_any a1 b n2 24 cap1 cap2 C2 A t w3 h12 HL.out HC3.out.1 HC3.out.2.1
        clear hbad hb3 cB
        obtain ⟨hN, hhN⟩ : ∃ x, heldN n2 24 C2 A t = x := ⟨_, rfl⟩
        obtain ⟨hE, hhE⟩ : ∃ x, heldE n2 24 C2 A = x := ⟨_, rfl⟩
        have HNE : Hid (heldN n2 24 C2 A t = hN ∧ heldE n2 24 C2 A = hE) := ⟨hhN, hhE⟩
        rw [hhN, hhE] at cH
        clear hhN hhE
        go_wp2_with fail
        refine cH.mono ?_
        rintro e w4 ⟨rfl, hb4⟩
        have HC4 : Hid (Chs w4 a1 n2 C2 ∧ Rws w4 b 24 A ∧ Below w.heap.size w w4) := ⟨HC3.out.1.below hb4, HC3.out.2.1.below hb4, Below.onto HC3.out.2.2 hb4⟩
        have cR := rheld_any a1 b n2 24 cap1 cap2 C2 A t w4 h12 HL.out HC4.out.1 HC4.out.2.1
        rw [HNE.out.1, HNE.out.2] at cR
        clear hb4 cH
        go_wp2_with fail
        refine cR.mono ?_
        rintro e w5 ⟨rfl, hb5⟩
        have HC5 : Hid (Chs w5 a1 n2 C2 ∧ Below w.heap.size w w5) := ⟨HC4.out.1.below hb5, Below.onto HC4.out.2.2 hb5⟩
        have cX := held_any a1 none n2 0 cap1 0 C2 A t w5 h12 HL.out HC5.out.1 (rws_nil _ _)
        generalize heldN n2 0 C2 A t = kN at *
        generalize heldE n2 0 C2 A = kE at *
        clear hb5 cR
        go_wp2_with fail
        refine cX.mono ?_
        rintro e w6 ⟨rfl, hb6⟩
        have HB6 : Hid (Below w.heap.size w w6) := Below.onto HC5.out.2 hb6
        have cS := samerows_any none none 0 0 0 A A w6 (by omega) (fun j hj => absurd hj (by omega)) (rws_nil _ _) (rws_nil _ _) (fun j hj => rfl) (fun j hj i hi => rfl)
        clear hb6 cX
        go_wp2_with fail
        refine cS.mono ?_
        rintro e w7 ⟨rfl, hb7⟩
        have HB7 : Hid (Below w.heap.size w w7) := Below.onto HB6.out hb7
        clear hb7 cS
        go_wp2_with fail
        refine (hO _).mono ?_
        rintro e w8 ⟨rfl, hb8⟩
        have HB8 : Hid (Below w.heap.size w w8) := Below.onto HB7.out hb8
        clear hb8
        go_wp2_with fail
        go_ret
        exact ⟨ret_bool (by simp), HB8.out⟩
  · obtain rfl : m2 = m := by omega
    clear hm2
    have cA := accounts_any a1 n2 cap1 C2 w1 h12 HL.out HC.out.1
    go_wp2_with fail
    refine cA.mono ?_
    rintro e w2 ⟨⟨v1, hv1, rfl⟩ | ⟨hbad, rfl⟩, hb2⟩
    · obtain ⟨a2, cap3, A2, rfl, hr2, hl2, hg2, hok⟩ := hv1.rws
      have H2 : Hid (Rws w2 a2 n2 A2 ∧ (∀ j, j < n2 → (A2 j).n = (C2 j).ln) ∧ (∀ j, j < n2 → ∀ i, i < (C2 j).ln → (A2 j).g i = ⟨((C2 j).f i).c, 0, 0⟩) ∧ okC n2 C2) := ⟨hr2, hl2, hg2, hok⟩
      have HC2 : Hid (Chs w2 a1 n2 C2 ∧ Rws w2 b m2 A ∧ Below w.heap.size w w2) := ⟨HC.out.1.below hb2, HC.out.2.1.below hb2, Below.onto HC.out.2.2 hb2⟩
      have cB := raccounts_any a1 n2 cap1 C2 w2 h12 HL.out HC2.out.1
      clear hv1 hr2 hl2 hg2 hok hb2 cA
      go_wp2_with fail
      refine cB.mono ?_
      rintro e w3 ⟨⟨v2, hv2, rfl⟩ | ⟨hbad, rfl⟩, hb3⟩
      · obtain ⟨a3, cap4, A3, rfl, hr3, hl3, hg3, _⟩ := hv2.rws
        have H3 : Hid (Rws w3 a2 n2 A2 ∧ Rws w3 a3 n2 A3 ∧ (∀ j, j < n2 → (A3 j).n = (C2 j).ln) ∧ (∀ j, j < n2 → ∀ i, i < (C2 j).ln → (A3 j).g i = ⟨((C2 j).f i).c, 0, 0⟩)) := ⟨H2.out.1.below hb3, hr3, hl3, hg3⟩
        have HC3 : Hid (Chs w3 a1 n2 C2 ∧ Rws w3 b m2 A ∧ Below w.heap.size w w3) := ⟨HC2.out.1.below hb3, HC2.out.2.1.below hb3, Below.onto HC2.out.2.2 hb3⟩
        have cH := held_any a1 b n2 m2 cap1 cap2 C2 A t w3 h12 HL.out HC3.out.1 HC3.out.2.1
        clear hv2 hr3 hl3 hg3 hb3 cB
        obtain ⟨hN, hhN⟩ : ∃ x, heldN n2 m2 C2 A t = x := ⟨_, rfl⟩
        obtain ⟨hE, hhE⟩ : ∃ x, heldE n2 m2 C2 A = x := ⟨_, rfl⟩
        have HNE : Hid (heldN n2 m2 C2 A t = hN ∧ heldE n2 m2 C2 A = hE) := ⟨hhN, hhE⟩
        rw [hhN, hhE] at cH
        clear hhN hhE
        go_wp2_with fail
        refine cH.mono ?_
        rintro e w4 ⟨rfl, hb4⟩
        have H4 : Hid (Rws w4 a2 n2 A2 ∧ Rws w4 a3 n2 A3) := ⟨H3.out.1.below hb4, H3.out.2.1.below hb4⟩
        have HC4 : Hid (Chs w4 a1 n2 C2 ∧ Rws w4 b m2 A ∧ Below w.heap.size w w4) := ⟨HC3.out.1.below hb4, HC3.out.2.1.below hb4, Below.onto HC3.out.2.2 hb4⟩
        have cR := rheld_any a1 b n2 m2 cap1 cap2 C2 A t w4 h12 HL.out HC4.out.1 HC4.out.2.1
        rw [HNE.out.1, HNE.out.2] at cR
        clear hb4 cH
        go_wp2_with fail
        refine cR.mono ?_
        rintro e w5 ⟨rfl, hb5⟩
        have H5 : Hid (Rws w5 a2 n2 A2 ∧ Rws w5 a3 n2 A3) := ⟨H4.out.1.below hb5, H4.out.2.below hb5⟩
        have HC5 : Hid (Chs w5 a1 n2 C2 ∧ Below w.heap.size w w5) := ⟨HC4.out.1.below hb5, Below.onto HC4.out.2.2 hb5⟩
        have cX := held_any a1 a2 n2 n2 cap1 cap3 C2 A2 t w5 h12 HL.out HC5.out.1 H5.out.1
        have hfr := fresh_held (t := t) H2.out.2.2.2 H2.out.2.1 H2.out.2.2.1
        rw [hfr.1, hfr.2] at cX
        clear hb5 cR hfr
        go_wp2_with fail
        refine cX.mono ?_
        rintro e w6 ⟨rfl, hb6⟩
        have HB6 : Hid (Below w.heap.size w w6) := Below.onto HC5.out.2 hb6
        have cS := samerows_any a2 a3 n2 cap3 cap4 A2 A3 w6 h12 (fun j hj => by rw [H2.out.2.1 j hj]; exact HL.out j hj) (H5.out.1.below hb6) (H5.out.2.below hb6) (fun j hj => by rw [H2.out.2.1 j hj, H3.out.2.2.1 j hj]) (fun j hj i hi => by
          rw [H2.out.2.1 j hj] at hi
          rw [H2.out.2.2.1 j hj i hi, H3.out.2.2.2 j hj i hi])
        clear hb6 cX
        go_wp2_with fail
        refine cS.mono ?_
        rintro e w7 ⟨rfl, hb7⟩
        have HB7 : Hid (Below w.heap.size w w7) := Below.onto HB6.out hb7
        clear hb7 cS
        go_wp2_with fail
        refine (hO _).mono ?_
        rintro e w8 ⟨rfl, hb8⟩
        have HB8 : Hid (Below w.heap.size w w8) := Below.onto HB7.out hb8
        clear hb8
        go_wp2_with fail
        go_ret
        exact ⟨ret_bool (by simp), HB8.out⟩
      · exact absurd (ok_bad H2.out.2.2.2 hbad) (fun h => h)
    · have HBD : Hid (badC n2 C2) := hbad
      have HC2 : Hid (Chs w2 a1 n2 C2 ∧ Rws w2 b m2 A ∧ Below w.heap.size w w2) := ⟨HC.out.1.below hb2, HC.out.2.1.below hb2, Below.onto HC.out.2.2 hb2⟩
      have cB := raccounts_any a1 n2 cap1 C2 w2 h12 HL.out HC2.out.1
      clear hbad hb2 cA
      go_wp2_with fail
      refine cB.mono ?_
      rintro e w3 ⟨⟨v2, hv2, rfl⟩ | ⟨hbad, rfl⟩, hb3⟩
      · exact absurd (ok_bad hv2.1 HBD.out) (fun h => h)
      · have HC3 : Hid (Chs w3 a1 n2 C2 ∧ Rws w3 b m2 A ∧ Below w.heap.size w w3) := ⟨HC2.out.1.below hb3, HC2.out.2.1.below hb3, Below.onto HC2.out.2.2 hb3⟩
        have cH := held_any a1 b n2 m2 cap1 cap2 C2 A t w3 h12 HL.out HC3.out.1 HC3.out.2.1
        clear hbad hb3 cB
        obtain ⟨hN, hhN⟩ : ∃ x, heldN n2 m2 C2 A t = x := ⟨_, rfl⟩
        obtain ⟨hE, hhE⟩ : ∃ x, heldE n2 m2 C2 A = x := ⟨_, rfl⟩
        have HNE : Hid (heldN n2 m2 C2 A t = hN ∧ heldE n2 m2 C2 A = hE) := ⟨hhN, hhE⟩
        rw [hhN, hhE] at cH
        clear hhN hhE
        go_wp2_with fail
        refine cH.mono ?_
        rintro e w4 ⟨rfl, hb4⟩
        have HC4 : Hid (Chs w4 a1 n2 C2 ∧ Rws w4 b m2 A ∧ Below w.heap.size w w4) := ⟨HC3.out.1.below hb4, HC3.out.2.1.below hb4, Below.onto HC3.out.2.2 hb4⟩
        have cR := rheld_any a1 b n2 m2 cap1 cap2 C2 A t w4 h12 HL.out HC4.out.1 HC4.out.2.1
        rw [HNE.out.1, HNE.out.2] at cR
        clear hb4 cH
        go_wp2_with fail
        refine cR.mono ?_
        rintro e w5 ⟨rfl, hb5⟩
        have HC5 : Hid (Chs w5 a1 n2 C2 ∧ Below w.heap.size w w5) := ⟨HC4.out.1.below hb5, Below.onto HC4.out.2.2 hb5⟩
        have cX := held_any a1 none n2 0 cap1 0 C2 A t w5 h12 HL.out HC5.out.1 (rws_nil _ _)
        generalize heldN n2 0 C2 A t = kN at *
        generalize heldE n2 0 C2 A = kE at *
        clear hb5 cR
        go_wp2_with fail
        refine cX.mono ?_
        rintro e w6 ⟨rfl, hb6⟩
        have HB6 : Hid (Below w.heap.size w w6) := Below.onto HC5.out.2 hb6
        have cS := samerows_any none none 0 0 0 A A w6 (by omega) (fun j hj => absurd hj (by omega)) (rws_nil _ _) (rws_nil _ _) (fun j hj => rfl) (fun j hj i hi => rfl)
        clear hb6 cX
        go_wp2_with fail
        refine cS.mono ?_
        rintro e w7 ⟨rfl, hb7⟩
        have HB7 : Hid (Below w.heap.size w w7) := Below.onto HB6.out hb7
        clear hb7 cS
        go_wp2_with fail
        refine (hO _).mono ?_
        rintro e w8 ⟨rfl, hb8⟩
        have HB8 : Hid (Below w.heap.size w w8) := Below.onto HB7.out hb8
        clear hb8
        go_wp2_with fail
        go_ret
        exact ⟨ret_bool (by simp), HB8.out⟩
end Go.Proofs.Ytlphombjejgbiaa
