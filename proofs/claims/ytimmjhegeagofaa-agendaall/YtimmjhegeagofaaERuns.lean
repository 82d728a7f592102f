/- AgendaRuns' walk. -/
import Derived.Test.YtimmjhegeagofaaEDo5
import Derived.Test.YtimmjhegeagofaaERow
namespace Go.Proofs.Ytimmjhegeagofaa
open Go.RowKit Go.Sort
set_option maxRecDepth 100000

abbrev agZ (w : World) : World := w.alloc (.cells #[.slice none 0 0, .int .i64 0] 32)
theorem pr_new {w w1 : World} {p : Nat} (a : Ag lessL w1 p [] 0 (fun b => b < w.heap.size ∧ ¬ lessL.X b)) (hb : Below w.heap.size w w1) : Pr (agZ w1) p w1.heap.size [] 0 [] 0 (fun b => b < w.heap.size) := by
  have h := a.box (.cells #[.slice none 0 0, .int .i64 0] 32)
  have hs := hb.size
  refine ⟨.slice none 0 0, List.Pairwise.nil, ⟨blk_new w1 [.slice none 0 0, .int .i64 0] _, World.ownsRow_nil _ _ _ _, by simp⟩, h.less fun b hb' => ?_, fun b hb' => ⟨by rw [World.size_alloc]; omega, fun h => ?_⟩⟩
  · rcases hb' with hb' | hb' | hb'
    · exact .inl ⟨hb', fun h => h⟩
    · exact .inr hb'
    · cases hb'
  · rcases h with h | h
    · omega
    · cases h
/-- what is told of the first -/
def FstV (D : List En) (k m n : Int) (b : Bool) : Prop := (D = [] → k = 0 ∧ m = 0 ∧ n = 0 ∧ b = false) ∧ ∀ e, IsB D e → k = e.k ∧ m = e.m ∧ n = (e.n : Int) ∧ b = true
theorem fstV_ex {D : List En} (s : Srt D) : ∃ k m n b, FstV D k m n b := by
  by_cases h : ∃ e, IsB D e
  · obtain ⟨e, he⟩ := h
    refine ⟨e.k, e.m, e.n, true, fun hD => ?_, fun y hy => ?_⟩
    · subst hD; exact absurd he.1 (by simp)
    · rw [isB_uniq s hy he]; exact ⟨rfl, rfl, rfl, rfl⟩
  · exact ⟨0, 0, 0, false, fun _ => ⟨rfl, rfl, rfl, rfl⟩, fun e he => absurd ⟨e, he⟩ h⟩
/-- what is told of a number -/
def GetV (D : List En) (id k m : Int) (b : Bool) : Prop := (∀ e, e ∈ D → (e.n : Int) = id → k = e.k ∧ m = e.m ∧ b = true) ∧ ((∀ e, e ∈ D → (e.n : Int) ≠ id) → k = 0 ∧ m = 0 ∧ b = false)
theorem getV_ex {D : List En} (s : Srt D) (id : Int) : ∃ k m b, GetV D id k m b := by
  rcases find_n D id with ⟨U, V, e, rfl, hn⟩ | hno
  · refine ⟨e.k, e.m, true, fun y hy hyn => ?_, fun h => absurd hn (h e (by simp))⟩
    rw [srt_uniq s hy (by simp) (by omega : y.n = e.n)]; exact ⟨rfl, rfl, rfl⟩
  · exact ⟨0, 0, false, fun e he hn => absurd hn (hno e he), fun _ => ⟨rfl, rfl, rfl⟩⟩
section
variable {w : World} {p r : Nat} {D E : List En} {last last2 : Nat} {Y : Nat → Prop} {k m n id : Int} {b : Bool}
theorem Pr.firstL (t : Pr w p r D last E last2 Y) (hf : FstV D k m n b) : Calls Try.prog 13 #[ptr p] w fun v w' => v = .returned (.tuple #[thV k m, .int .i64 n, .bool b]) ∧ Pr w' p r D last E last2 Y ∧ But (Els Y) w w' := by
  refine t.callL fun X a => ?_
  by_cases hD : D = []
  · obtain ⟨rfl, rfl, rfl, rfl⟩ := hf.1 hD
    subst hD
    exact first0 a
  · refine (firstA a hD).mono ?_
    rintro v w' ⟨e, ⟨_, he⟩, rfl, a', b'⟩
    obtain ⟨rfl, rfl, rfl, rfl⟩ := hf.2 e (he trivial)
    exact ⟨rfl, a', b'⟩
theorem Pr.firstR (t : Pr w p r D last E last2 Y) (hf : FstV E k m n b) : Calls Try.prog 14 #[ptr r] w fun v w' => v = .returned (.tuple #[thV k m, .int .i64 n, .bool b]) ∧ Pr w' p r D last E last2 Y ∧ But (Els Y) w w' := by
  refine t.callR fun X a => ?_
  by_cases hD : E = []
  · obtain ⟨rfl, rfl, rfl, rfl⟩ := hf.1 hD
    subst hD
    exact (First0 a).mono fun _ _ h => ⟨h.1, a.below h.2, But.of h.2⟩
  · refine (FirstR a hD).mono ?_
    rintro v w' ⟨e, he, rfl, b'⟩
    obtain ⟨rfl, rfl, rfl, rfl⟩ := hf.2 e he
    exact ⟨rfl, a.below b', But.of b'⟩
theorem Pr.getL (t : Pr w p r D last E last2 Y) (hf : GetV D id k m b) (hw : (Lit.int .i64 id).wf = true) : Calls Try.prog 15 #[ptr p, .int .i64 id] w fun v w' => v = .returned (.tuple #[thV k m, .bool b]) ∧ Pr w' p r D last E last2 Y ∧ But (Els Y) w w' := by
  refine t.callL fun X a => ?_
  rcases find_n D id with ⟨U, V, e, rfl, hn⟩ | hno
  · obtain ⟨rfl, rfl, rfl⟩ := hf.1 e (by simp) hn
    subst hn
    exact (getA a (e := e) (by simp)).mono fun _ _ h => ⟨h.1, a.below h.2, But.of h.2⟩
  · obtain ⟨rfl, rfl, rfl⟩ := hf.2 hno
    exact (getA_no a hw hno).mono fun _ _ h => ⟨h.1, a.below h.2, But.of h.2⟩
theorem Pr.getR (t : Pr w p r D last E last2 Y) (hf : GetV E id k m b) : Calls Try.prog 16 #[ptr r, .int .i64 id] w fun v w' => v = .returned (.tuple #[thV k m, .bool b]) ∧ Pr w' p r D last E last2 Y ∧ But (Els Y) w w' := by
  refine t.callR fun X a => ?_
  rcases find_n E id with ⟨U, V, e, rfl, hn⟩ | hno
  · obtain ⟨rfl, rfl, rfl⟩ := hf.1 e (by simp) hn
    subst hn
    exact (Go.Proofs.Ytimmjhegeagofaa.getR a (e := e) (by simp)).mono fun _ _ h => ⟨h.1, a.below h.2, But.of h.2⟩
  · obtain ⟨rfl, rfl, rfl⟩ := hf.2 hno
    exact (getR_no a hno).mono fun _ _ h => ⟨h.1, a.below h.2, But.of h.2⟩
end
theorem Pr.rl {w : World} {p r : Nat} {D E : List En} {last last2 : Nat} {Y : Nat → Prop} (t : Pr w p r D last E last2 Y) : ∃ a cap, w.cell? ⟨r, 0, none⟩ = some (.slice a E.length cap) := by
  obtain ⟨rv, s, x, a, hy⟩ := t
  obtain ⟨ar, cr, hrv, _⟩ := x.form
  have c0 := x.bl.cell (i := 0) rfl
  rw [hrv] at c0
  exact ⟨ar, cr, c0⟩
set_option maxHeartbeats 4000000 in
theorem eruns (a : Option Addr) (len cap : Nat) (f : Nat → Eo) (w : World) (hops : EoS w a len cap f) :
    Calls Try.prog 3 #[.slice a len cap] w fun e w' => e = .returned (.bool true) ∧ Below w.heap.size w w' := by
  have hlc : len ≤ 9223372036854775807 := by have h1 := hops.2.1; have h2 := hops.2.2; unfold maxLen at h2; omega
  have cN := newA lessL w lessOk trivial
  change Calls Try.prog _ #[.func (.func 10) #[] #[]] w _ at cN
  have hnf := nilA
  have HOps : Hid (EoS w a len cap f) := hops
  clear hops
  go_enter Try.func3, Try.ntmps3
  go_wp2_with fail
  refine cN.mono ?_
  rintro v w1 ⟨p, rfl, a1, _, b1⟩
  have P0 : Hid (Pr (agZ w1) p w1.heap.size [] 0 [] 0 (fun b => b < w.heap.size)) := pr_new a1 b1
  have B0 : Hid (Below w.heap.size w (agZ w1)) := Below.onto b1 ((Below.refl _ w1).alloc (Nat.le_refl _) _)
  clear cN a1 b1
  go_wp2_with fail
  unfold agZ at *
  generalize w1.alloc (.cells #[.slice none 0 0, .int .i64 0] 32) = w2 at *
  generalize w1.heap.size = r at *
  go_loopw [5] (fun vi wr => ∃ (D : List En) (last i : Nat), vi = .int .i64 (i : Int) ∧ i ≤ 60 ∧ last ≤ i ∧ Hid (Pr wr p r D last D last (fun b => b < w.heap.size)) ∧ Hid (Below w.heap.size w wr)) (fun vi _ => 60 - (intOf vi).toNat)
  case atStart => exact ⟨[], 0, 0, rfl, by omega, Nat.le_refl _, P0, B0⟩
  case round =>
    obtain ⟨D, last, i, rfl, hi, hla, HP, HB⟩ := hrel
    by_cases h60 : i < 60
    · by_cases hlt : i < len
      · obtain ⟨b, off, rfl, hJ, hok⟩ := HOps.out.1 i hlt
        have toS : ∀ W, But (Els (fun b => b < w.heap.size)) wr W → EoAt W b (off + i * 5) (f i) := fun W h => hJ.below (eels HB.out h fun _ h => h)
        have hbl : b < w.heap.size := cell_lt hJ.1
        have cO := (edo D last p r _ wr.drew (HP.out.below (Below.refl _ wr).drew) (by omega) (f i) hok).mono fun _ w'' h => (⟨h.1, h.2.1, (But.refl _ _).drew.trans h.2.2⟩ : _ ∧ (∃ D' last', last' ≤ last + 1 ∧ Pr w'' p r D' last' D' last' (fun b => b < w.heap.size)) ∧ But (Els (fun b => b < w.heap.size)) wr w'')
        have to0 := toS _ (But.refl _ _)
        have hok2 : Hid (f i).okk := hok
        clear hok
        generalize f i = o at *
        unfold EoAt at toS to0
        unfold eoV at cO
        go_wp2_with fail
        obtain ⟨j0, j1, j2, j3, j4⟩ := to0
        go_region_with (first | (go_at_call 11; (with_reducible refine cO.mono ?_); rintro v w5 ⟨rfl, ⟨D5, l5, hl5, t5⟩, e5⟩; have cL := lenA t5.ag; have hrl := t5.rl; obtain ⟨ar, cr, hrl⟩ := hrl) | (go_at_call 12; (with_reducible refine cL.mono ?_); rintro v w6 ⟨rfl, hw6⟩; subst hw6))
        all_goals
          obtain ⟨k1, m1, n1, b1, hF⟩ := fstV_ex t5.ag.srt
          obtain ⟨k2, m2, b2, hG⟩ := getV_ex t5.ag.srt o.id
          have T5 : Hid (Pr w6 p r D5 l5 D5 l5 (fun b => b < w.heap.size)) := t5
          have E5 : Hid (Below w.heap.size w w6) := eels HB.out e5 fun _ h => h
          have cF := t5.firstL hF
          unfold thV at cF
          clear cO cL hrl t5 e5 j0 j1 j2 j3 j4 toS HP HB
          go_wp2_with fail
          refine cF.mono ?_
          rintro v w7 ⟨rfl, t7, b7⟩
          have t8 : Pr (bxV w7 k1 m1) p r D5 l5 D5 l5 (fun b => b < w.heap.size ∨ b = w7.heap.size) := t7.box _
          have B8 : Hid (Below w.heap.size w (bxV w7 k1 m1)) := Below.onto (eels E5.out b7 fun _ h => h) ((Below.refl _ w7).alloc (Nat.le_refl _) _)
          have M8 := blk_new w7 [.int .i8 k1, .int .i64 m1] 27
          have cR := t8.firstR hF
          unfold thV at cR
          clear cF t7 b7 t8
          go_wp2_with fail
          unfold bxV at *
          generalize w7.alloc (.cells #[.int .i8 k1, .int .i64 m1] 27) = w8 at *
          generalize w7.heap.size = N1 at *
          refine cR.mono ?_
          rintro v w9 ⟨rfl, t9, b9⟩
          have t10 : Pr (bxV w9 k1 m1) p r D5 l5 D5 l5 (fun b => (b < w.heap.size ∨ b = N1) ∨ b = w9.heap.size) := t9.box _
          have hb10 : Below w9.heap.size w9 (bxV w9 k1 m1) := (Below.refl _ w9).alloc (Nat.le_refl _) _
          have B10 : Hid (Below w.heap.size w (bxV w9 k1 m1)) := Below.onto (eels B8.out b9 fun _ h => .inl h) hb10
          have M10 := (M8.but b9 fun h => h (.inr rfl)).below hb10
          have M11 := blk_new w9 [.int .i8 k1, .int .i64 m1] 27
          have cG := t10.getL hG hok2.out.2
          obtain ⟨_, _, _, z3, _⟩ := hJ.below B10.out
          unfold thV at cG
          clear cR t9 b9 t10 M8 hb10
          go_wp2_with fail
          unfold bxV at *
          generalize w9.alloc (.cells #[.int .i8 k1, .int .i64 m1] 27) = w10 at *
          generalize w9.heap.size = N2 at *
          refine cG.mono ?_
          rintro v w12 ⟨rfl, t12, b12⟩
          have t13 : Pr (bxV w12 k2 m2) p r D5 l5 D5 l5 (fun b => ((b < w.heap.size ∨ b = N1) ∨ b = N2) ∨ b = w12.heap.size) := t12.box _
          have hb13 : Below w12.heap.size w12 (bxV w12 k2 m2) := (Below.refl _ w12).alloc (Nat.le_refl _) _
          have B13 : Hid (Below w.heap.size w (bxV w12 k2 m2)) := Below.onto (eels B10.out b12 fun _ h => .inl (.inl h)) hb13
          have M13 := (M10.but b12 fun h => h (.inl (.inr rfl))).below hb13
          have M14 := (M11.but b12 fun h => h (.inr rfl)).below hb13
          have M15 := blk_new w12 [.int .i8 k2, .int .i64 m2] 27
          have cH := t13.getR hG
          obtain ⟨_, _, _, z4, _⟩ := hJ.below B13.out
          unfold thV at cH
          clear cG t12 b12 t13 M10 M11 hb13 z3
          go_wp2_with fail
          unfold bxV at *
          generalize w12.alloc (.cells #[.int .i8 k2, .int .i64 m2] 27) = w13 at *
          generalize w12.heap.size = N3 at *
          refine cH.mono ?_
          rintro v w16 ⟨rfl, t16, b16⟩
          have hb17 : Below w16.heap.size w16 (bxV w16 k2 m2) := (Below.refl _ w16).alloc (Nat.le_refl _) _
          have t17 := t16.below hb17
          have P17 : Hid (Pr (bxV w16 k2 m2) p r D5 l5 D5 l5 (fun b => b < w.heap.size)) := t17.less fun _ h => .inl (.inl (.inl h))
          have B17 : Hid (Below w.heap.size w (bxV w16 k2 m2)) := Below.onto (eels B13.out b16 fun _ h => .inl (.inl (.inl h))) hb17
          have x1 := ((M13.but b16 fun h => h (.inl (.inl (.inr rfl)))).below hb17)
          have x2 := ((M14.but b16 fun h => h (.inl (.inr rfl))).below hb17)
          have x3 := ((M15.but b16 fun h => h (.inr rfl)).below hb17)
          have x4 := blk_new w16 [.int .i8 k2, .int .i64 m2] 27
          have y0 := x1.cell (i := 0) rfl
          have y1 := x1.cell (i := 1) rfl
          have y2 := x2.cell (i := 0) rfl
          have y3 := x2.cell (i := 1) rfl
          have y4 := x3.cell (i := 0) rfl
          have y5 := x3.cell (i := 1) rfl
          have y6 := x4.cell (i := 0) rfl
          have y7 := x4.cell (i := 1) rfl
          clear cH t16 b16 t17 hb17 M13 M14 M15 x1 x2 x3 x4 z4
          go_wp2_with fail
          go_roundw
          case rel => exact ⟨D5, l5, i + 1, by go_num, by omega, by omega, P17, B17⟩
          case measure => simp [intOf]; omega
      · have cA := ealive wr
        go_wp2_with fail
        refine cA.mono ?_
        rintro v w9 ⟨rfl, b9⟩
        have HB9 : Hid (Below w.heap.size w w9) := Below.onto HB.out b9
        clear cA b9
        go_wp2_with fail
        go_ret
        exact ⟨rfl, HB9.out⟩
    · have cA := ealive wr
      go_wp2_with (go_at_call 17; (with_reducible refine cA.mono ?_); rintro v w9 ⟨rfl, b9⟩; have HB9 : Hid (Below w.heap.size w w9) := Below.onto HB.out b9; clear b9)
      all_goals (go_ret; exact ⟨rfl, HB9.out⟩)
end Go.Proofs.Ytimmjhegeagofaa
