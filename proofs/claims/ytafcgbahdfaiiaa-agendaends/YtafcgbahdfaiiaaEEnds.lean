/- AgendaEnds' walk. -/
import Derived.Test.YtafcgbahdfaiiaaEDrain3
import Derived.Test.YtafcgbahdfaiiaaEOdd
import Derived.Test.YtafcgbahdfaiiaaERow
namespace Go.Proofs.Ytafcgbahdfaiiaa
open Go.RowKit Go.Sort
set_option maxRecDepth 100000

abbrev NoY : Nat → Prop := fun _ => False
theorem Ag.cut {l : Le} {w : World} {p : Nat} {D : List En} {last : Nat} {Y : Nat → Prop} (a : Ag l w p D last Y) (c' : Nat) (h : c' ≤ l.c) : Ag {l with c := c'} w p D last Y := by
  obtain ⟨ok, o, A, x, e⟩ := a
  exact ⟨ok, o, A, ⟨x.pb, x.rx, x.lv, ok.mt _ _ _ (by unfold Le.b; simp only; omega) x.j, x.nx, x.ny, x.np, x.dn, x.hp⟩, e⟩
section
variable {w0 w : World} {N M p last c : Nat} {tv : Value} {D : List En} {Y : Nat → Prop}
theorem Ag.bel (a : Ag (oddL w0 N M tv c) w p D last Y) : Below w0.heap.size w0 w := by
  obtain ⟨ok, o, A, x, e⟩ := a
  exact x.j.b
theorem opop (a : Ag (oddL w0 N M tv c) w p D last NoY) : Calls Try.prog 23 #[ptr p] w fun v w' => ∃ k m n : Int, v = .returned (.tuple #[thV k m, .int .i64 n, .bool (decide (0 < D.length))]) ∧ ∃ D', D'.length = D.length - 1 ∧ Ag (oddL w0 N M tv c) w' p D' last NoY := by
  by_cases hD : D = []
  · subst hD
    exact (pop0 a).mono fun v w' h => ⟨0, 0, 0, h.1, [], rfl, h.2.1⟩
  · have h0 : 0 < D.length := List.length_pos_iff.2 hD
    refine (popA a hD).mono fun v w' h => ?_
    obtain ⟨e, ⟨he, _⟩, rfl, ha, _⟩ := h
    refine ⟨e.k, e.m, (e.n : Int), by rw [decide_eq_true h0], dropD D e.n, ?_, ha⟩
    have := drop_len a.srt he
    omega
theorem odrop (a : Ag (oddL w0 N M tv c) w p D last NoY) (id : Int) (hw : (Lit.int .i64 id).wf = true) : Calls Try.prog 24 #[ptr p, .int .i64 id] w fun v w' => ∃ (r : Int) (D' : List En), v = .returned (.int .i64 r) ∧ (D'.length : Int) = D.length - (if r = 0 then 1 else 0) ∧ Ag (oddL w0 N M tv c) w' p D' last NoY := by
  by_cases h : ∃ e, e ∈ D ∧ (e.n : Int) = id
  · obtain ⟨e, he, rfl⟩ := h
    refine (dropA a he).mono fun v w' h => ⟨0, _, h.1, ?_, h.2.1⟩
    have := drop_len a.srt he
    rw [if_pos rfl]
    omega
  · refine (dropA_no a hw fun e he hn => h ⟨e, he, hn⟩).mono fun v w' h => ⟨90, D, h.1, by rw [if_neg (by decide)]; omega, ?_⟩
    rw [h.2]
    exact a
theorem oset {c' : Nat} (hc : c = c' + 5000000) (a : Ag (oddL w0 N M tv c) w p D last NoY) (k m : Int) (hk : -128 ≤ k ∧ k ≤ 127) (id : Int) (hw : (Lit.int .i64 id).wf = true) : Calls Try.prog 25 #[ptr p, .int .i64 id, thV k m] w fun v w' => ∃ (r : Int) (D' : List En), v = .returned (.int .i64 r) ∧ D'.length = D.length ∧ Ag (oddL w0 N M tv c') w' p D' last NoY := by
  subst hc
  by_cases h : ∃ e, e ∈ D ∧ (e.n : Int) = id
  · obtain ⟨e, he, rfl⟩ := h
    exact (setC a c' (fun _ _ h => h) k m hk he).mono fun v w' h => ⟨0, _, h.1, set_len _ _ _ _, h.2.1⟩
  · exact (setA_no a k m hw fun e he hn => h ⟨e, he, hn⟩).mono fun v w' h => ⟨90, D, h.1, rfl, (a.below h.2).cut c' (Nat.le_add_right _ _)⟩
end
set_option maxHeartbeats 4000000 in
theorem eends (a : Option Addr) (len cap : Nat) (f : Nat → Eo) (ta : Option Addr) (tn tc : Nat) (z : Nat → Bool) (w : World) (hops : EoS w a len cap f) (hz : BRow w ta tn tc z) :
    Calls Try.prog 6 #[.slice a len cap, .slice ta tn tc] w fun e w' => e = .returned (.bool true) ∧ Below w.heap.size w w' := by
  have hlc : len ≤ 9223372036854775807 := by have h1 := hops.2.1; have h2 := hops.2.2; unfold maxLen at h2; omega
  have s2 : ((w.alloc (.cells #[.slice ta tn tc] 51)).alloc (.cells #[.int .i64 0] 3)).heap.size = w.heap.size + 2 := by simp
  have b1 : Below w.heap.size w (w.alloc (.cells #[.slice ta tn tc] 51)) := (Below.refl _ w).alloc (Nat.le_refl _) _
  have b2 : Below (w.alloc (.cells #[.slice ta tn tc] 51)).heap.size (w.alloc (.cells #[.slice ta tn tc] 51)) ((w.alloc (.cells #[.slice ta tn tc] 51)).alloc (.cells #[.int .i64 0] 3)) := (Below.refl _ _).alloc (Nat.le_refl _) _
  have kM := (blk_new w [.slice ta tn tc] 51).below b2
  have kN := blk_new (w.alloc (.cells #[.slice ta tn tc] 51)) [.int .i64 0] 3
  rw [World.size_alloc] at kN
  have hok := oddOk w (w.heap.size + 1) w.heap.size ta tn tc z (300000000) (Nat.le_succ _) (Nat.le_refl _) (by omega) hz
  have cN := newA (oddL w (w.heap.size + 1) w.heap.size (.slice ta tn tc) 300000000) _ hok ⟨Below.onto b1 b2, ⟨0, kN, by show 0 + (300000000 + (5000000 * 0 + 10000000 * (1000000 - 0))) ≤ 4000000000000000000; omega⟩, kM⟩
  change Calls Try.prog _ #[.func (.func 21) #[] #[ptr (w.heap.size + 1), ptr w.heap.size]] _ _ at cN
  have hnf := nilA
  have HOps : Hid (EoS w a len cap f) := hops
  have HS2 : Hid (_ = w.heap.size + 2) := s2
  clear hops hok b1 b2 kM kN s2
  go_enter Try.func6, Try.ntmps6
  go_wp2_with fail
  refine cN.mono ?_
  rintro v w3 ⟨p, rfl, a1, _, b3⟩
  have A0 : Hid (Ag (oddL w (w.heap.size + 1) w.heap.size (.slice ta tn tc) 300000000) w3 p [] 0 NoY) := a1.less fun _ h => h.elim
  clear cN a1 b3 HS2
  generalize w.heap.size + 1 = N at *
  go_wp2_with fail
  go_loopw [8, 9] (fun vh vi wr => ∃ (D : List En) (last i : Nat), vh = .int .i64 (D.length : Int) ∧ vi = .int .i64 (i : Int) ∧ i ≤ 60 ∧ last ≤ i ∧ Hid (Ag (oddL w N w.heap.size (.slice ta tn tc) (5000000 * (60 - i))) wr p D last NoY)) (fun _ vi _ => 60 - (intOf vi).toNat)
  case atStart => exact ⟨[], 0, 0, rfl, rfl, by omega, Nat.le_refl _, A0⟩
  case round =>
    obtain ⟨D, last, i, rfl, rfl, hi, hla, HA⟩ := hrel
    have hDl := HA.out.len.1
    by_cases h60 : i < 60
    · by_cases hlt : i < len
      · obtain ⟨b, off, rfl, hJ, hok⟩ := HOps.out.1 i hlt
        obtain ⟨j0, j1, j2, j3, j4⟩ := hJ.below HA.out.bel
        have HJ : Hid (EoAt w b (off + i * 5) (f i)) := hJ
        have HK : Hid (f i).okk := hok
        clear hJ hok
        generalize f i = o at *
        by_cases k1 : o.kd = 1
        · rw [k1] at j0
          have cP := pushA HA.out (by omega) o.k o.m HK.out.1
          unfold thV at cP
          go_wp2_with fail
          refine cP.mono ?_
          rintro v w5 ⟨rfl, a5, _⟩
          have cL := lenA a5
          have A5 : Hid (Ag (oddL w N w.heap.size (.slice ta tn tc) (5000000 * (60 - (i + 1)))) w5 p (D ++ [⟨o.k, o.m, last + 1⟩]) (last + 1) NoY) := a5.cut _ (by show _ ≤ 5000000 * (60 - i); omega)
          rw [show (((D ++ [(⟨o.k, o.m, last + 1⟩ : En)]).length : Nat) : Int) = (D.length : Int) + 1 by simp] at cL
          clear cP a5 j0 j1 j2 j3 j4
          go_wp2_with fail
          refine cL.mono ?_
          rintro v w6 ⟨rfl, hw⟩
          subst hw
          clear cL
          go_wp2_with fail
          go_roundw
          case rel => exact ⟨_, last + 1, i + 1, by simp, by go_num, by omega, by omega, A5⟩
          case measure => simp [intOf]; omega
        · have d1 : (o.kd == 1) = false := by simpa using k1
          by_cases k2 : o.kd = 2
          · rw [k2] at j0
            clear d1 k1
            have cP := opop HA.out
            unfold thV at cP
            go_wp2_with fail
            refine cP.mono ?_
            rintro v w5 ⟨pk, pm, pn, rfl, D5, hD5, a5⟩
            have a6 := a5.below ((Below.refl _ w5).alloc (Nat.le_refl _) (.cells #[.int .i8 pk, .int .i64 pm] 27))
            have cL := lenA a6
            have A6 : Hid (Ag (oddL w N w.heap.size (.slice ta tn tc) (5000000 * (60 - (i + 1)))) (w5.alloc (.cells #[.int .i8 pk, .int .i64 pm] 27)) p D5 last NoY) := a6.cut _ (by show _ ≤ 5000000 * (60 - i); omega)
            clear cP a5 a6 j0 j1 j2 j3 j4
            by_cases hz0 : (D.length : Int) ≤ 1
            · replace hD5 : (D5.length : Int) = 0 := by omega
              rw [hD5] at cL
              have hz1 : ¬ (0 : Int) < (D.length : Int) - 1 := by omega
              have hz2 : ¬ (1 : Int) < (D.length : Int) := by omega
              go_wp2_with fail
              refine cL.mono ?_
              rintro v w6 ⟨rfl, hw⟩
              subst hw
              clear cL
              go_wp2_with fail
              go_roundw
              case rel => exact ⟨D5, last, i + 1, by first | rfl | rw [hD5], by go_num, by omega, by omega, A6⟩
              case measure => simp [intOf]; omega
            · replace hD5 : (D5.length : Int) = (D.length : Int) - 1 := by omega
              rw [hD5] at cL
              have hz1 : (0 : Int) < (D.length : Int) - 1 := by omega
              have hz2 : (1 : Int) < (D.length : Int) := by omega
              go_wp2_with fail
              refine cL.mono ?_
              rintro v w6 ⟨rfl, hw⟩
              subst hw
              clear cL
              go_wp2_with fail
              go_roundw
              case rel => exact ⟨D5, last, i + 1, by first | rfl | rw [hD5], by go_num, by omega, by omega, A6⟩
              case measure => simp [intOf]; omega
          · have d2 : (o.kd == 2) = false := by simpa using k2
            by_cases k4 : o.kd = 4
            · rw [k4] at j0
              clear d1 d2 k1 k2
              have cD := odrop HA.out o.id HK.out.2
              go_wp2_with fail
              refine cD.mono ?_
              rintro v w5 ⟨r, D5, rfl, hD5, a5⟩
              have cL := lenA a5
              have A5 : Hid (Ag (oddL w N w.heap.size (.slice ta tn tc) (5000000 * (60 - (i + 1)))) w5 p D5 last NoY) := a5.cut _ (by show _ ≤ 5000000 * (60 - i); omega)
              clear cD a5 j0 j1 j2 j3 j4
              by_cases hr : r = 0
              · rw [if_pos hr] at hD5
                have hr1 : (r == 0) = true := by simpa using hr
                rw [hD5] at cL
                clear hr
                go_wp2_with fail
                refine cL.mono ?_
                rintro v w6 ⟨rfl, hw⟩
                subst hw
                clear cL
                go_wp2_with fail
                go_roundw
                case rel => exact ⟨D5, last, i + 1, by rw [hD5], by go_num, by omega, by omega, A5⟩
                case measure => simp [intOf]; omega
              · rw [if_neg hr, Int.sub_zero] at hD5
                have hr1 : (r == 0) = false := by simpa using hr
                rw [hD5] at cL
                clear hr
                go_wp2_with fail
                refine cL.mono ?_
                rintro v w6 ⟨rfl, hw⟩
                subst hw
                clear cL
                go_wp2_with fail
                go_roundw
                case rel => exact ⟨D5, last, i + 1, by rw [hD5], by go_num, by omega, by omega, A5⟩
                case measure => simp [intOf]; omega
            · have d4 : (o.kd == 4) = false := by simpa using k4
              have toS : ∀ W, Below w.heap.size w W → W.cell? ⟨b, off + i * 5 + 1, none⟩ = some (.int .i8 o.k) ∧ W.cell? ⟨b, off + i * 5 + 2, none⟩ = some (.int .i64 o.m) ∧ W.cell? ⟨b, off + i * 5 + 3, none⟩ = some (.int .i64 o.id) := fun W hW => by
                have h := HJ.out.below hW
                exact ⟨h.2.1, h.2.2.1, h.2.2.2.1⟩
              have hbd : Below w.heap.size w wr.drew := HA.out.bel.drew
              have cS := (oset (c' := 5000000 * (60 - (i + 1))) (by omega) (HA.out.below (Below.refl _ wr).drew) o.k o.m HK.out.1 o.id HK.out.2).mono fun v w' ⟨r, D', h1, h2, h3⟩ => (⟨r, D', h1, h2, h3, h3.bel⟩ : ∃ (r : Int) (D' : List En), v = Ending.returned (.int .i64 r) ∧ D'.length = D.length ∧ Ag (oddL w N w.heap.size (.slice ta tn tc) (5000000 * (60 - (i + 1)))) w' p D' last NoY ∧ Below w.heap.size w w')
              unfold thV at cS
              clear k1 k2 k4
              go_wp2_with fail
              go_region_held3 (fun W => W.cell? ⟨b, off + i * 5 + 1, none⟩ = some (.int .i8 o.k) ∧ W.cell? ⟨b, off + i * 5 + 2, none⟩ = some (.int .i64 o.m) ∧ W.cell? ⟨b, off + i * 5 + 3, none⟩ = some (.int .i64 o.id)) (first | (with_reducible assumption) | exact toS _ (by assumption)) (first | (go_at_call 25; (with_reducible refine cS.mono ?_); rintro v w5 ⟨r, D5, rfl, hD5, a5, hb5⟩))
              have cL := lenA a5
              rw [hD5] at cL
              have A5 : Hid (Ag (oddL w N w.heap.size (.slice ta tn tc) (5000000 * (60 - (i + 1)))) w5 p D5 last NoY) := a5
              clear cS a5 hb5 toS hbd j0 j1 j2 j3 j4
              go_wp2_with fail
              refine cL.mono ?_
              rintro v w6 ⟨rfl, hw⟩
              subst hw
              clear cL
              go_wp2_with fail
              go_roundw
              case rel => exact ⟨D5, last, i + 1, by rw [hD5], by go_num, by omega, by omega, A5⟩
              case measure => simp [intOf]; omega
      · have hsD := HA.out.srt
        have cD := drainA HA.out 0 (fun _ h => h.elim)
        have HB : Hid (∀ W, True → ∀ {Y D' last'} , Ag (oddL w N w.heap.size (.slice ta tn tc) (5000000 * (60 - i))) W p D' last' Y → Below w.heap.size w W) := fun W _ _ _ _ h => h.bel
        go_wp2_with fail
        refine cD.mono ?_
        rintro v w5 ⟨vt, T, D', rfl, t⟩
        obtain rfl : D' = [] := by
          rcases t.al with h | h
          · exfalso
            have h1 := t.dr.len hsD
            have h2 : moI 0 = 120 := by decide
            omega
          · exact h
        have hTl : D.length = T.length := by have h1 := t.dr.len hsD; simp at h1; omega
        obtain ⟨va, vc, hv⟩ : ∃ va vc, vt = .slice va T.length vc := by
          rcases t.ow.2 with ⟨h1, h2⟩ | ⟨g, cap, cur, h1, _⟩
          · exact ⟨none, 0, by rw [h1, h2]⟩
          · exact ⟨_, _, h1⟩
        subst hv
        have cL := lenA t.ag
        have B5 : Hid (Below w.heap.size w w5) := HB.out _ trivial t.ag
        have cA := ealive w5
        clear cD t HA HB hsD
        rw [hTl]
        go_wp2_with fail
        refine cL.mono ?_
        rintro v w6 ⟨rfl, hw⟩
        subst hw
        clear cL
        go_wp2_with fail
        refine cA.mono ?_
        rintro v w7 ⟨rfl, hb7⟩
        have B7 : Hid (Below w.heap.size w w7) := Below.onto B5.out hb7
        clear cA hb7
        go_wp2_with fail
        go_ret
        exact ⟨rfl, B7.out⟩
    · have hge : 60 ≤ i := by omega
      by_cases hlt : i < len
      · have hsD := HA.out.srt
        have cD := drainA HA.out 0 (fun _ h => h.elim)
        have HB : Hid (∀ W, True → ∀ {Y D' last'} , Ag (oddL w N w.heap.size (.slice ta tn tc) (5000000 * (60 - i))) W p D' last' Y → Below w.heap.size w W) := fun W _ _ _ _ h => h.bel
        go_wp2_with fail
        refine cD.mono ?_
        rintro v w5 ⟨vt, T, D', rfl, t⟩
        obtain rfl : D' = [] := by
          rcases t.al with h | h
          · exfalso
            have h1 := t.dr.len hsD
            have h2 : moI 0 = 120 := by decide
            omega
          · exact h
        have hTl : D.length = T.length := by have h1 := t.dr.len hsD; simp at h1; omega
        obtain ⟨va, vc, hv⟩ : ∃ va vc, vt = .slice va T.length vc := by
          rcases t.ow.2 with ⟨h1, h2⟩ | ⟨g, cap, cur, h1, _⟩
          · exact ⟨none, 0, by rw [h1, h2]⟩
          · exact ⟨_, _, h1⟩
        subst hv
        have cL := lenA t.ag
        have B5 : Hid (Below w.heap.size w w5) := HB.out _ trivial t.ag
        have cA := ealive w5
        clear cD t HA HB hsD
        rw [hTl]
        go_wp2_with fail
        refine cL.mono ?_
        rintro v w6 ⟨rfl, hw⟩
        subst hw
        clear cL
        go_wp2_with fail
        refine cA.mono ?_
        rintro v w7 ⟨rfl, hb7⟩
        have B7 : Hid (Below w.heap.size w w7) := Below.onto B5.out hb7
        clear cA hb7
        go_wp2_with fail
        go_ret
        exact ⟨rfl, B7.out⟩
      · have hsD := HA.out.srt
        have cD := drainA HA.out 0 (fun _ h => h.elim)
        have HB : Hid (∀ W, True → ∀ {Y D' last'} , Ag (oddL w N w.heap.size (.slice ta tn tc) (5000000 * (60 - i))) W p D' last' Y → Below w.heap.size w W) := fun W _ _ _ _ h => h.bel
        go_wp2_with fail
        refine cD.mono ?_
        rintro v w5 ⟨vt, T, D', rfl, t⟩
        obtain rfl : D' = [] := by
          rcases t.al with h | h
          · exfalso
            have h1 := t.dr.len hsD
            have h2 : moI 0 = 120 := by decide
            omega
          · exact h
        have hTl : D.length = T.length := by have h1 := t.dr.len hsD; simp at h1; omega
        obtain ⟨va, vc, hv⟩ : ∃ va vc, vt = .slice va T.length vc := by
          rcases t.ow.2 with ⟨h1, h2⟩ | ⟨g, cap, cur, h1, _⟩
          · exact ⟨none, 0, by rw [h1, h2]⟩
          · exact ⟨_, _, h1⟩
        subst hv
        have cL := lenA t.ag
        have B5 : Hid (Below w.heap.size w w5) := HB.out _ trivial t.ag
        have cA := ealive w5
        clear cD t HA HB hsD
        rw [hTl]
        go_wp2_with fail
        refine cL.mono ?_
        rintro v w6 ⟨rfl, hw⟩
        subst hw
        clear cL
        go_wp2_with fail
        refine cA.mono ?_
        rintro v w7 ⟨rfl, hb7⟩
        have B7 : Hid (Below w.heap.size w w7) := Below.onto B5.out hb7
        clear cA hb7
        go_wp2_with fail
        go_ret
        exact ⟨rfl, B7.out⟩
end Go.Proofs.Ytafcgbahdfaiiaa
