/- PROVED: for every row of quotas, every row of acts, every slot, partition and number the statement ArenaRuns returns true: whatever is allocated, written, read and freed, the arena answers and stands as the document says (P6.1 to P6.3). No condition. -/
import Derived.Test.YtobpignlamekmaaRows
import Derived.Test.YtobpignlamekmaaQStep
import Derived.Test.YtobpignlamekmaaQHeld
import Derived.Test.YtobpignlamekmaaARow
import Derived.ProofKit
import Derived.ShutString
import Derived.ChangeOld
import Derived.OpenShut
namespace Go.Proofs.Ytobpignlamekmaa.arenaRuns
open Go.ChangeShapes Go.WideShapes Go.ChangeAt Go.RowKit

theorem own : ownKnob Try.prog.godebug = none := by kernel_rfl
theorem laidOut : laidOutB Try.prog = true := by kernel_rfl

theorem shut_len {len i : Nat} (h : ¬ (i < len ∧ i < 60)) (h1 : i ≤ 60) (h2 : i ≤ len) : i = len ∨ (i < len ∧ i = 60) := by omega
theorem heldL_len {w : World} {o : Po} {h : Sh} {d : Da} (a : Ax w o h d) (x : Int) : (heldL h d x).length ≤ 256 := by
  cases hh : inR h.P x
  · simp [heldL, hh]
  · obtain ⟨k, rfl, hk⟩ := inR_nat hh
    have h1 := held_len a hk
    have h2 := a.sh.s256 k hk
    omega

set_option maxRecDepth 100000 in
set_option maxHeartbeats 16000000 in
theorem walk (aq : Option Addr) (nq cq : Nat) (z : Nat → Int) (ad : Option Addr) (len cap : Nat) (K P N G X : Nat → Int) (n part most : Int) (w0 : World) (hQ : IsRow .i64 w0 aq nq cq z) (hS : AOps w0 ad len cap K P N G X) (hn : (Lit.int .i64 n).wf = true) :
    Calls Try.prog 3 #[.slice aq nq cq, .slice ad len cap, .int .i64 n, .int .i64 part, .int .i64 most] w0 fun e w' => e = .returned (.bool true) ∧ Below w0.heap.size w0 w' := by
  obtain ⟨_, hn1⟩ := bounds_i64 hn
  have HNn : Hid (n ≤ 9223372036854775807) := by show n ≤ _; omega
  have HS : Hid (AOps w0 ad len cap K P N G X) := hS
  have hlen : len ≤ 9223372036854775807 := by have h1 := hS.2.1; have h2 := hS.2.2; unfold maxLen at h2; omega
  have HQ : Hid (Cells w0 .i64 aq (min nq 17) z) := hQ.1.mono (by omega)
  have haw := awake_a w0
  have hfew := fun W => few6_any aq nq cq W hQ.2.2.1 hQ.2.1
  clear hS hQ hn hn1
  go_enter Try.func3, Try.ntmps3
  go_wp2_with fail
  refine haw.mono ?_
  rintro e w1 ⟨rfl, hb1⟩
  go_wp2_with fail
  refine (hfew w1).mono ?_
  rintro e w2 ⟨rfl, e2⟩
  subst e2
  have hm17 : min nq 17 ≤ 17 := by omega
  generalize min nq 17 = nn at *
  clear haw hfew
  cases hq : mayQ nn z
  · have hn1 := anew_bad aq nn cq z w2 (by omega) (HQ.out.below hb1) hq
    have hn2 := rnew_bad aq nn cq z w2 (by omega) (HQ.out.below hb1) hq
    go_wp2_with fail
    refine hn1.mono ?_
    rintro e w3 ⟨rfl, e3⟩
    subst e3
    go_wp2_with fail
    refine hn2.mono ?_
    rintro e w4 ⟨rfl, e4⟩
    subst e4
    go_wp2_with fail
    go_ret
    exact ⟨rfl, hb1⟩
  · have hn1 := anew_ok aq nn cq z w2 (HQ.out.below hb1) hq
    have HCt : Hid (Cont (shOf z nn)) := shOf_cont z nn
    have hq2 := hq
    go_wp2_with fail
    refine hn1.mono ?_
    rintro e w3 ⟨o, rfl, ha3, hb3, ho3⟩
    have B3 := Below.onto hb1 hb3
    have hn2 := rnew_ok aq nn cq z w3 (HQ.out.below B3) hq2
    have H3 : Hid (Ax w3 o _ _) := ha3
    clear hn1 ha3
    go_wp2_with fail
    refine hn2.mono ?_
    rintro e w4 ⟨q, rfl, ha4, hb4, hqB, hcl⟩
    have B4 := Below.onto B3 hb4
    have HD : Hid (Q2 w4 o q (shOf z nn) (daN (shOf z nn) (shOf z nn).N)) := ⟨H3.out.below hb4, ha4, HCt.out, fun g h1 => by have e1 := H3.out.lt g h1; omega, hcl⟩
    have HO : Hid (∀ g, Qo.both o q g → w0.heap.size ≤ g) := fun g hg => by
      have e1 := hb1.size
      have e2 := hb3.size
      rcases hg with hg | hg
      · have := ho3 g hg; omega
      · have := HD.out.hi g hg; omega
    have HOk : Hid (shOf z nn).Ok := H3.out.sh
    clear hn2 ha4 hb4 hqB hcl hb3 ho3 H3 B3 hb1 hq2
    generalize shOf z nn = h at *
    generalize daN h h.N = x0 at *
    go_wp2_with fail
    go_loopw [15] (fun vi wr => ∃ i : Nat, i ≤ 60 ∧ i ≤ len ∧ vi = .int .i64 i ∧ Below w0.heap.size w0 wr ∧ Hid (∃ d, Q2 wr o q h d)) (fun vi _ => 60 - (intOf vi).toNat)
    case atStart => exact ⟨0, by omega, by omega, rfl, B4, _, HD.out⟩
    case round =>
      obtain ⟨i, hi6, hil, rfl, hbel, HR⟩ := hrel
      obtain ⟨d, hd⟩ := HR.out
      have HD : Hid (Q2 wr o q h d) := hd
      clear HR hd
      by_cases hgo : i < len ∧ i < 60
      · obtain ⟨hg1, hg2⟩ := hgo
        obtain ⟨bb, off, rfl, q0, q1, q2, q3, q4, hX⟩ := (HS.out.below hbel).1 i hg1
        have hst := step_q o q h d (K i) (P i) (N i) (G i) (X i) wr HD.out hX
        clear hX
        generalize K i = ki at *
        generalize P i = pi at *
        generalize N i = ni at *
        generalize G i = gi at *
        generalize X i = xi at *
        go_wp2_with fail
        refine hst.mono ?_
        rintro e w5 ⟨rfl, hd5, hb5⟩
        have D5 : Hid (∃ d, Q2 w5 o q h d) := hd5
        have B5 := hbel.trans (hb5.below hbel.size HO.out)
        clear hst hd5 hb5
        go_wp2_with fail
        go_roundw
        case rel => exact ⟨i + 1, by omega, by omega, by go_num, B5, D5.out⟩
        case measure => simp [intOf]; omega
      · have hend := shut_len hgo hi6 hil
        clear hgo HS
        rcases hend with rfl | ⟨hx9, rfl⟩
        all_goals
          have hc1 := look_a o h d n wr HD.out.a
          go_wp2_with fail
          refine hc1.mono ?_
          rintro e w5 ⟨rfl, hb5⟩
          have S5 : Hid (Q2 w5 o q h d) := HD.out.below hb5
          have B5 := Below.onto hbel hb5
          have hc2 := rlook_q q h d n w5 S5.out.b
          clear hc1 hb5
          go_wp2_with fail
          refine hc2.mono ?_
          rintro e w6 ⟨rfl, hb6⟩
          have S6 : Hid (Q2 w6 o q h d) := S5.out.below hb6
          have B6 := Below.onto B5 hb6
          have hc3 := part_a o h d n w6 S6.out.a
          clear hc2 hb6 S5 B5
          generalize lkP h d n = r1 at *
          generalize lkG h d n = r2 at *
          generalize lkH h d n = r3 at *
          go_wp2_with fail
          refine hc3.mono ?_
          rintro e w7 ⟨rfl, e7⟩
          subst e7
          have hc4 := rPart_q q h _ n w7 S6.out.b HOk.out HCt.out HNn.out
          clear hc3
          go_wp2_with fail
          refine hc4.mono ?_
          rintro e w8 ⟨rfl, e8⟩
          subst e8
          have hc5 := counts_a o h d part w8 S6.out.a
          clear hc4
          generalize ptI h n = r4 at *
          generalize inR h.N n = r5 at *
          go_wp2_with fail
          refine hc5.mono ?_
          rintro e w9 ⟨rfl, e9⟩
          subst e9
          have hc6 := rcounts_q q h d part w9 S6.out.b HOk.out
          clear hc5
          go_wp2_with fail
          refine hc6.mono ?_
          rintro e w10 ⟨rfl, hb10⟩
          have S10 : Hid (Q2 w10 o q h d) := S6.out.below hb10
          have B10 := Below.onto B6 hb10
          clear hc6 hb10 S6 B6 HD
          generalize cnH h d part = r6 at *
          generalize cnF h d part = r7 at *
          generalize knE h part = r8 at *
          by_cases hmo : 1 ≤ most ∧ most ≤ 300
          · obtain ⟨mo, rfl⟩ : ∃ mo : Nat, most = (mo : Int) := ⟨most.toNat, by omega⟩
            obtain ⟨j1, j2⟩ := hmo
            have hc7 := held_k o h d part (mo : Int) w10 S10.out.a (by omega)
            go_wp2_with fail
            refine hc7.mono ?_
            rintro e w11 ⟨v1, rfl, hr11, hb11⟩
            have S11 : Hid (Q2 w11 o q h d) := S10.out.below hb11
            have B11 := Below.onto B10 hb11
            have hc8 := rheld_q q h d part w11 S11.out.b HOk.out HCt.out
            have R1 : Hid (World.ownsRow _ _ _ _ _ _ _) := hr11
            obtain ⟨va, ca, rfl, hj0⟩ := pcells hr11
            clear hc7 hr11 hb11 hj0
            obtain ⟨ln, hln⟩ : ∃ ln, (List.take ((mo : Nat) : Int).toNat (heldL h d part)).length = ln := ⟨_, rfl⟩
            rw [hln] at R1
            rw [hln]
            have HLn : Hid ((List.take ((mo : Nat) : Int).toNat (heldL h d part)).length = ln) := hln
            clear hln
            go_wp2_with fail
            refine hc8.mono ?_
            rintro e w12 ⟨v2, rfl, hr12, hb12⟩
            have B12 := Below.onto B11 hb12
            have R1' := qown_but (S := fun _ => False) R1.out (But.of hb12) (fun _ h => h.elim)
            have hLen := heldL_len S11.out.a part
            clear hc8 hb12 S11 B11
            generalize heldL h d part = HL at *
            rw [← HLn.out] at R1'
            obtain ⟨va', ca', ev, C1⟩ := pcells R1'
            injection ev with e1 e2 e3
            subst e1 e3
            clear e2
            obtain ⟨vb, cb, ev, C2⟩ := pcells hr12
            rcases hr12.2 with ⟨e9, e0⟩ | ⟨g, cb', cur, e9, _, _, hcap, _⟩
            · subst e9
              obtain rfl : HL = [] := List.length_eq_zero_iff.1 e0
              have el : 0 = ln := by rw [← HLn.out]; simp
              subst el
              have hc9 := sameSlots_q va none ca 0 [] w12 (by simp) (fun j hj => absurd hj (by simp)) (fun j hj => absurd hj (by simp))
              clear C1 C2 R1 R1' hr12 e0 HLn ev
              have k1 : ¬ ((mo : Int) < (0 : Int)) := by omega
              have k2 : (0 : Int) ≤ (mo : Int) := by omega
              have k5 : min (0 : Int) (mo : Int) = (0 : Int) := by omega
              go_wp2_with fail
              refine hc9.mono ?_
              rintro e w13 ⟨rfl, hb13⟩
              have B13 := Below.onto B12 hb13
              go_wp2_with fail
              go_ret
              exact ⟨rfl, B13⟩
            · subst e9
              injection ev with e1 e2 e3
              subst e1 e3
              clear e2
              by_cases hcut : HL.length ≤ mo
              · have hc9 := sameSlots_q va (some ⟨g, 0, none⟩) ca cb' HL w12 (by omega) (fun j hj => by
                  obtain ⟨b, e1, e2, e3⟩ := C1 j (by rw [List.length_take]; omega)
                  exact ⟨b, e1, by rw [e2, List.getElem_take], by rw [e3, List.getElem_take]⟩) C2
                have el : HL.length = ln := by rw [← HLn.out, List.length_take]; omega
                subst el
                clear C1 C2 R1 R1' hr12 HLn
                generalize HL.length = L at *
                have k1 : ¬ ((mo : Int) < (L : Int)) := by omega
                have k2 : (L : Int) ≤ (mo : Int) := by omega
                have k3 : (L : Int) ≤ (cb' : Int) := by omega
                have k4 : (0 : Int) ≤ (L : Int) := by omega
                have k5 : min (L : Int) (mo : Int) = (L : Int) := by omega
                go_wp2_with fail
                refine hc9.mono ?_
                rintro e w13 ⟨rfl, hb13⟩
                have B13 := Below.onto B12 hb13
                go_wp2_with fail
                go_ret
                exact ⟨rfl, B13⟩
              · have el : mo = ln := by rw [← HLn.out, List.length_take]; omega
                have hc9 := sameSlots_q va (some ⟨g, 0, none⟩) ca cb' (HL.take ((mo : Nat) : Int).toNat) w12 (by rw [List.length_take]; omega) C1 (fun j hj => by
                  obtain ⟨b, e1, e2, e3⟩ := C2 j (by rw [List.length_take] at hj; omega)
                  exact ⟨b, e1, by rw [e2, List.getElem_take], by rw [e3, List.getElem_take]⟩)
                rw [HLn.out] at hc9
                subst el
                clear C1 C2 R1 R1' hr12 HLn
                generalize HL.length = L at *
                have k1 : ((mo : Int) < (L : Int)) := by omega
                have k2 : ¬ (L : Int) ≤ (mo : Int) := by omega
                have k3 : (mo : Int) ≤ (cb' : Int) := by omega
                have k5 : min (L : Int) (mo : Int) = (mo : Int) := by omega
                go_wp2_with fail
                refine hc9.mono ?_
                rintro e w13 ⟨rfl, hb13⟩
                have B13 := Below.onto B12 hb13
                go_wp2_with fail
                go_ret
                exact ⟨rfl, B13⟩
          · have j1 : most < 1 ∨ (¬ most < 1 ∧ 300 < most) := by omega
            rcases j1 with j1 | ⟨j1, j2⟩
            all_goals
              have hc7 := held_k o h d part 300 w10 S10.out.a (by omega)
              go_wp2_with fail
              refine hc7.mono ?_
              rintro e w11 ⟨v1, rfl, hr11, hb11⟩
              have S11 : Hid (Q2 w11 o q h d) := S10.out.below hb11
              have B11 := Below.onto B10 hb11
              have hc8 := rheld_q q h d part w11 S11.out.b HOk.out HCt.out
              have R1 : Hid (World.ownsRow _ _ _ _ _ _ _) := hr11
              obtain ⟨va, ca, rfl, hj0⟩ := pcells hr11
              clear hc7 hr11 hb11 hj0
              obtain ⟨ln, hln⟩ : ∃ ln, (List.take (300 : Int).toNat (heldL h d part)).length = ln := ⟨_, rfl⟩
              rw [hln] at R1
              rw [hln]
              have HLn : Hid ((List.take (300 : Int).toNat (heldL h d part)).length = ln) := hln
              clear hln
              go_wp2_with fail
              refine hc8.mono ?_
              rintro e w12 ⟨v2, rfl, hr12, hb12⟩
              have B12 := Below.onto B11 hb12
              have R1' := qown_but (S := fun _ => False) R1.out (But.of hb12) (fun _ h => h.elim)
              have hLen := heldL_len S11.out.a part
              clear hc8 hb12 S11 B11
              generalize heldL h d part = HL at *
              rw [← HLn.out] at R1'
              obtain ⟨va', ca', ev, C1⟩ := pcells R1'
              injection ev with e1 e2 e3
              subst e1 e3
              clear e2
              obtain ⟨vb, cb, ev, C2⟩ := pcells hr12
              rcases hr12.2 with ⟨e9, e0⟩ | ⟨g, cb', cur, e9, _, _, hcap, _⟩
              · subst e9
                obtain rfl : HL = [] := List.length_eq_zero_iff.1 e0
                have el : 0 = ln := by rw [← HLn.out]; simp
                subst el
                have hc9 := sameSlots_q va none ca 0 [] w12 (by simp) (fun j hj => absurd hj (by simp)) (fun j hj => absurd hj (by simp))
                clear C1 C2 R1 R1' hr12 e0 HLn ev
                have k1 : ¬ ((300 : Int) < (0 : Int)) := by omega
                have k2 : (0 : Int) ≤ (300 : Int) := by omega
                have k5 : min (0 : Int) (300 : Int) = (0 : Int) := by omega
                go_wp2_with fail
                refine hc9.mono ?_
                rintro e w13 ⟨rfl, hb13⟩
                have B13 := Below.onto B12 hb13
                go_wp2_with fail
                go_ret
                exact ⟨rfl, B13⟩
              · subst e9
                injection ev with e1 e2 e3
                subst e1 e3
                clear e2
                by_cases hcut : HL.length ≤ 300
                · have hc9 := sameSlots_q va (some ⟨g, 0, none⟩) ca cb' HL w12 (by omega) (fun j hj => by
                    obtain ⟨b, e1, e2, e3⟩ := C1 j (by rw [List.length_take]; omega)
                    exact ⟨b, e1, by rw [e2, List.getElem_take], by rw [e3, List.getElem_take]⟩) C2
                  have el : HL.length = ln := by rw [← HLn.out, List.length_take]; omega
                  subst el
                  clear C1 C2 R1 R1' hr12 HLn
                  generalize HL.length = L at *
                  have k1 : ¬ ((300 : Int) < (L : Int)) := by omega
                  have k2 : (L : Int) ≤ (300 : Int) := by omega
                  have k3 : (L : Int) ≤ (cb' : Int) := by omega
                  have k4 : (0 : Int) ≤ (L : Int) := by omega
                  have k5 : min (L : Int) (300 : Int) = (L : Int) := by omega
                  go_wp2_with fail
                  refine hc9.mono ?_
                  rintro e w13 ⟨rfl, hb13⟩
                  have B13 := Below.onto B12 hb13
                  go_wp2_with fail
                  go_ret
                  exact ⟨rfl, B13⟩
                · have el : 300 = ln := by rw [← HLn.out, List.length_take]; omega
                  have hc9 := sameSlots_q va (some ⟨g, 0, none⟩) ca cb' (HL.take (300 : Int).toNat) w12 (by rw [List.length_take]; omega) C1 (fun j hj => by
                    obtain ⟨b, e1, e2, e3⟩ := C2 j (by rw [List.length_take] at hj; omega)
                    exact ⟨b, e1, by rw [e2, List.getElem_take], by rw [e3, List.getElem_take]⟩)
                  rw [HLn.out] at hc9
                  subst el
                  clear C1 C2 R1 R1' hr12 HLn
                  generalize HL.length = L at *
                  have k1 : ((300 : Int) < (L : Int)) := by omega
                  have k2 : ¬ (L : Int) ≤ (300 : Int) := by omega
                  have k3 : (300 : Int) ≤ (cb' : Int) := by omega
                  have k5 : min (L : Int) (300 : Int) = (300 : Int) := by omega
                  go_wp2_with fail
                  refine hc9.mono ?_
                  rintro e w13 ⟨rfl, hb13⟩
                  have B13 := Below.onto B12 hb13
                  go_wp2_with fail
                  go_ret
                  exact ⟨rfl, B13⟩

set_option maxRecDepth 100000 in
theorem lifted (os : Os) (started : os.Started) (H : Type) (enc : TypeId × Value → H) :
    ReturnsInHanded {} Try.checked os 3 .any (Rows.arenaRunsSpec.pre6 enc Try.prog Try.f3 Rows.arenaRunsRow.domain false) (Rows.arenaRunsSpec.post enc Try.prog Try.f3 false true false false) := by
  refine returnsInHanded_of_change (C := Try.checked) own started (by kernel_rfl) Try.func3
    (ChangeSpec.witness6 (enc := enc) (C := Try.checked) false ⟨#[], #[.slice none 0 0, .slice none 0 0, .int .i64 0, .int .i64 0, .int .i64 0], []⟩ 8 (by kernel_rfl) (by kernel_rfl) (by kernel_rfl) (by kernel_rfl)) ?_
  intro W base args ds gs before hval0 hW hcnd _
  have hval : ∀ (j : Nat) t v, Try.f3.params[j]? = some t → args[j]? = some v → Value.okWide Try.prog W .any base t v := hval0
  have hW' := hW
  obtain ⟨p, q, hA0, hV, rfl, hfz, hnd⟩ := hW
  have hA : DataW.TrodAll enc Try.prog W 0 (fun _ => true) true Try.f3.params.toList args.toList ds p := hA0
  rw [Try.params3] at hA hval
  obtain ⟨v0, vs0, d0, ds0, p0, q0, hargs, rfl, rfl, h0, r0⟩ := trodAll_cons hA
  obtain ⟨v1, vs1, d1, ds1, p1, q1, rfl, rfl, rfl, h1, r1⟩ := trodAll_cons r0
  obtain ⟨v2, vs2, d2, ds2, p2, q2, rfl, rfl, rfl, h2, r2⟩ := trodAll_cons r1
  obtain ⟨v3, vs3, d3, ds3, p3, q3, rfl, rfl, rfl, h3, r3⟩ := trodAll_cons r2
  obtain ⟨v4, vs4, d4, ds4, p4, q4, rfl, rfl, rfl, h4, r4⟩ := trodAll_cons r3
  obtain ⟨rfl, rfl, rfl⟩ := trodAll_nil r4
  obtain rfl : args = #[v0, v1, v2, v3, v4] := by cases args; simp_all
  obtain ⟨rfl, rfl⟩ := trodVars_none hV
  obtain ⟨a0, len0, cap0, rfl⟩ := okWide_slice Try.underlying22 (hval 0 22 v0 rfl rfl)
  have k0 := h0
  have lt0 : ∀ x ∈ p0, x.block < W.heap.size := by obtain ⟨m, hm⟩ := k0; exact DataW.trod_lt m _ _ _ hm
  obtain ⟨z0, w0⟩ : ∃ z, IsRow .i64 W a0 len0 cap0 z := by
    obtain ⟨fuel, hf⟩ := h0
    rcases open_ints Try.underlying22 Try.underlying3 (by kernel_rfl) hf with ⟨hcs, _⟩ | ⟨x, l, c, zs, hcs, _, hl, hm, hz, _, hcell, hwz⟩
    · simp [Value.cells] at hcs
      obtain ⟨rfl, rfl, rfl⟩ := hcs
      exact ⟨_, isRow_nil _ _⟩
    · simp [Value.cells] at hcs
      obtain ⟨rfl, rfl, rfl⟩ := hcs
      exact ⟨_, isRow_some hl hm (by simpa using hz) hcell hwz⟩
  have k1 := h1
  have lt1 : ∀ x ∈ p1, x.block < W.heap.size := by obtain ⟨m, hm⟩ := k1; exact DataW.trod_lt m _ _ _ hm
  obtain ⟨a, len, cap, K, P, N, G, X, rfl, w1⟩ := open_aops (hval 1 23 v1 rfl rfl) h1
  obtain ⟨a2, rfl, rfl, rfl, w2⟩ := open_int Try.underlying3 (hval 2 3 v2 rfl rfl) h2
  obtain ⟨a3, rfl, rfl, rfl, w3⟩ := open_int Try.underlying3 (hval 3 3 v3 rfl rfl) h3
  obtain ⟨a4, rfl, rfl, rfl, w4⟩ := open_int Try.underlying3 (hval 4 3 v4 rfl rfl) h4
  clear hA0 hval0
  refine (walk a0 len0 cap0 z0 a len cap K P N G X a2 a3 a4 W w0 w1 w2).mono fun e W' ⟨he, bel⟩ => ?_
  subst he
  exact ⟨_, rfl, _, _, _, [], _, [], hW', trodAll_mk1 (shut_bool Try.underlying4 _), (trodAll_cons_mk (Below.trod laidOut (by kernel_rfl) (of_decide_eq_true (by kernel_rfl)) k0 bel lt0) (trodAll_cons_mk (Below.trod laidOut (by kernel_rfl) (of_decide_eq_true (by kernel_rfl)) k1 bel lt1) (trodAll_cons_mk (shut_int Try.underlying3 w2) (trodAll_cons_mk (shut_int Try.underlying3 w3) (trodAll_cons_mk (shut_int Try.underlying3 w4) trodAll_mk0))))), rfl, bel.frame _, fun h => by cases h⟩

end Go.Proofs.Ytobpignlamekmaa.arenaRuns
namespace Go.Proofs.Ytobpignlamekmaa

/-- The statement ArenaRuns. -/
theorem ArenaRunsHolds : Rows.ArenaRunsSaid :=
  OpenClaim.holds_of_wide 3 Try.f3 rfl rfl rfl rfl rfl rfl rfl ⟨rfl, rfl, rfl, rfl, rfl⟩ rfl rfl rfl rfl rfl (by kernel_rfl) Try.func3 (by kernel_rfl)
    (of_decide_eq_true (by kernel_rfl)) (by unfold Func.isWrapper; first | (rw [if_pos (by decide +kernel)]; kernel_rfl) | (rw [if_neg (by decide +kernel)]; exact ⟨rfl, rfl⟩))
    (fun os started H enc _ => arenaRuns.lifted os started H enc)

end Go.Proofs.Ytobpignlamekmaa
