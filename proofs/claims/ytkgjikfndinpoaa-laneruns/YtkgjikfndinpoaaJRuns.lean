/- LaneRuns' walk. -/
import Derived.Test.YtkgjikfndinpoaaJStep
namespace Go.Proofs.Ytkgjikfndinpoaa
open Go.RowKit Go.Sort
set_option maxRecDepth 100000

set_option maxHeartbeats 2000000 in
theorem jruns_bad (cr : Int) (two : Bool) (st : Int) (a : Option Addr) (len cap : Nat) (f : Nat → Jo) (w : World) (hcr : ¬ (1 ≤ cr ∧ cr ≤ 64)) (hops : JOps w a len cap f) :
    Calls Try.prog 3 #[.int .i64 cr, .bool two, .int .u64 st, .slice a len cap] w fun e w' => e = .returned (.bool true) ∧ Below w.heap.size w w' := by
  have hlc : len ≤ 9223372036854775807 := by have h1 := hops.2.1; have h2 := hops.2.2; unfold maxLen at h2; omega
  have cA := jawake w
  clear hops
  go_enter Try.func3, Try.ntmps3
  go_wp2_with fail
  refine cA.mono ?_
  rintro e w1 ⟨rfl, hb1⟩
  have cN := jnew_no cr two st w1 (by unfold okCr; simp; omega)
  clear cA
  go_wp2_with fail
  refine cN.mono ?_
  rintro e w2 ⟨rfl, hw2⟩
  subst hw2
  clear cN
  have cN := rnew_bad w2 (c := cr) (two := two) (st := st) hcr
  go_wp2_with fail
  refine cN.mono ?_
  rintro e w3 ⟨rfl, hb3⟩
  clear cN
  go_wp2_with fail
  go_loopw [13] (fun vi wr => vi = .int .i64 0 ∧ wr = w3) (fun _ _ => 0)
  case atStart => exact ⟨rfl, rfl⟩
  case round =>
    obtain ⟨rfl, rfl⟩ := hrel
    by_cases h0 : 0 < len
    · go_wp2_with fail
      go_ret
      exact ⟨rfl, Below.onto hb1 hb3⟩
    · obtain rfl : len = 0 := by omega
      go_wp2_with fail
      go_ret
      exact ⟨rfl, Below.onto hb1 hb3⟩
set_option maxHeartbeats 4000000 in
theorem jruns_ok (n : Nat) (two : Bool) (st : Int) (a : Option Addr) (len cap : Nat) (f : Nat → Jo) (w : World) (n1 : 1 ≤ n) (n2 : n ≤ 64) (s0 : 0 ≤ st) (s1 : st < 18446744073709551616) (hops : JOps w a len cap f) (cR : Hid ResetTells) :
    Calls Try.prog 3 #[.int .i64 (n : Int), .bool two, .int .u64 st, .slice a len cap] w fun e w' => e = .returned (.bool true) ∧ Below w.heap.size w w' := by
  have hlc : len ≤ 9223372036854775807 := by have h1 := hops.2.1; have h2 := hops.2.2; unfold maxLen at h2; omega
  have cA := jawake w
  have HOps : Hid (JOps w a len cap f) := hops
  clear hops
  go_enter Try.func3, Try.ntmps3
  go_wp2_with fail
  refine cA.mono ?_
  rintro e w1 ⟨rfl, hb1⟩
  have cN := newN w1 (two := two) (st := st) n1 n2 s0 s1
  clear cA
  go_wp2_with fail
  refine cN.mono ?_
  rintro e w2 ⟨p, rfl, hl2, hb2⟩
  clear cN
  have cN := rnew w2 (two := two) (st := st) n1 n2 s0 s1
  go_wp2_with fail
  refine cN.mono ?_
  rintro e w3 ⟨rfl, y3, hb3⟩
  have P0 : Pr w3.heap.size w3 p w2.heap.size (newA n two st) (newA n two st) (fun b => b < w.heap.size) :=
    (pr_new hl2 hb2 y3 (newA_ok n1 n2 s0 s1) (fun b hb => hb.elim (fun h => Nat.le_of_eq h.symm) (fun h => by simp [Value.ownBlock] at h)) hb3).less fun b hb => Nat.lt_of_lt_of_le hb hb1.size
  have HP0 : Hid (Pr w3.heap.size w3 p w2.heap.size (newA n two st) (newA n two st) (fun b => b < w.heap.size)) := P0
  have HB0 : Hid (Below w.heap.size w w3) := Below.onto hb1 (Below.onto hb2 hb3)
  clear cN hl2 hb2 hb1 y3 hb3 P0
  generalize w2.heap.size = r at *
  go_wp2_with fail
  go_loopw [13] (fun vi wr => ∃ (A : La) (i : Nat), i ≤ 60 ∧ vi = .int .i64 i ∧ A.c ≤ i ∧ Hid (Pr wr.heap.size wr p r A A (fun b => b < w.heap.size)) ∧ Hid (Below w.heap.size w wr)) (fun vi _ => 60 - (intOf vi).toNat)
  case atStart => exact ⟨_, 0, by omega, rfl, Nat.le_refl _, HP0, HB0⟩
  case round =>
    obtain ⟨A, i, hi, rfl, hAc, HP, HB⟩ := hrel
    by_cases h60 : i < 60
    · by_cases hlt : i < len
      · obtain ⟨b, off, rfl, hJ, hq⟩ := HOps.out.1 i hlt
        obtain ⟨j0, j1, j2, j3, j4, j5, j6⟩ := hJ.below HB.out
        have cS := jstep A (by omega) (f i) hq p r _ wr HP.out cR
        clear hq
        generalize f i = o at *
        unfold joV at cS
        go_wp2_with fail
        refine cS.mono ?_
        rintro e w5 ⟨rfl, ⟨A', hc', t5⟩, e5⟩
        have HB5 : Hid (Below w.heap.size w w5) := els_base HB.out e5 fun _ h => h
        clear cS e5 j0 j1 j2 j3 j4 j5 j6
        have cT := t5.stepL fun X l => stateN l
        have hV : ∃ x1 x2 x3 x4 x5 x6 : Int, staV A' = .agg #[.int .i64 x1, .int .i64 x2, .int .i64 x3, .int .i64 x4, .int .i64 x5, .int .u64 x6] := ⟨_, _, _, _, _, _, rfl⟩
        obtain ⟨x1, x2, x3, x4, x5, x6, hV⟩ := hV
        rw [hV] at cT
        go_wp2_with fail
        refine cT.mono ?_
        rintro e w6 ⟨rfl, t6, e6⟩
        clear cT
        have cT := t6.stepR' fun X l => stateR l
        rw [hV] at cT
        clear hV
        go_wp2_with fail
        refine cT.mono ?_
        rintro e w7 ⟨rfl, t7, e7⟩
        have HP7 : Hid (Pr w7.heap.size w7 p r A' A' (fun b => b < w.heap.size)) := t7
        have HB7 : Hid (Below w.heap.size w w7) := els_base HB5.out (e6.trans e7) fun _ h => h
        clear cT t5 t6 t7 e6 e7
        go_wp2_with fail
        go_roundw
        case rel => exact ⟨A', i + 1, by omega, by go_num, by omega, HP7, HB7⟩
        case measure => simp [intOf]; omega
      · go_wp2_with fail
        go_ret
        exact ⟨rfl, HB.out⟩
    · go_wp2_with fail
      all_goals (go_ret; exact ⟨rfl, HB.out⟩)
theorem jruns (cr : Int) (two : Bool) (st : Int) (a : Option Addr) (len cap : Nat) (f : Nat → Jo) (w : World) (s0 : 0 ≤ st) (s1 : st < 18446744073709551616) (hops : JOps w a len cap f) (cR : Hid ResetTells) :
    Calls Try.prog 3 #[.int .i64 cr, .bool two, .int .u64 st, .slice a len cap] w fun e w' => e = .returned (.bool true) ∧ Below w.heap.size w w' := by
  by_cases h : 1 ≤ cr ∧ cr ≤ 64
  · obtain ⟨n, hn⟩ : ∃ n : Nat, cr = (n : Int) := ⟨cr.toNat, by omega⟩
    subst hn
    exact jruns_ok n two st a len cap f w (by omega) (by omega) s0 s1 hops cR
  · exact jruns_bad cr two st a len cap f w h hops
end Go.Proofs.Ytkgjikfndinpoaa
