/- LaneWraps' walk. -/
import Derived.Test.YtkgjikfndinpoaaJMoved
namespace Go.Proofs.Ytkgjikfndinpoaa
open Go.RowKit Go.Sort
set_option maxRecDepth 100000

/-- two lanes while the law runs -/
structure Ww (w wr : World) (p r : Nat) (A : La) (s : Int) (i : Nat) (Y : Nat → Prop) : Prop where
  two : Two wr p r A (atS A s) Y
  st : A.st = 0
  c : A.c ≤ i
  bel : Below w.heap.size w wr
  sub : ∀ b, b < w.heap.size → Y b
set_option maxHeartbeats 4000000 in
theorem jwraps (cr : Int) (two : Bool) (st : Int) (a : Option Addr) (len cap : Nat) (f : Nat → Jo) (w : World) (c0 : 0 ≤ cr) (c1 : cr < 256) (s0 : 0 ≤ st) (s1 : st < 18446744073709551616) (hops : JOps w a len cap f) (cR : Hid ResetTells) :
    Calls Try.prog 5 #[.int .u8 cr, .bool two, .int .u64 st, .slice a len cap] w fun e w' => e = .returned (.bool true) ∧ Below w.heap.size w w' := by
  obtain ⟨n, hn⟩ : ∃ n : Nat, cr % 64 + 1 = (n : Int) := ⟨(cr % 64 + 1).toNat, by omega⟩
  have n1 : 1 ≤ n := by omega
  have n2 : n ≤ 64 := by omega
  have hlc : len ≤ 9223372036854775807 := by have h1 := hops.2.1; have h2 := hops.2.2; unfold maxLen at h2; omega
  have cA := jawake w
  have HOps : Hid (JOps w a len cap f) := hops
  clear hops
  go_enter Try.func5, Try.ntmps5
  go_wp2_with fail
  refine cA.mono ?_
  rintro e w1 ⟨rfl, hb1⟩
  have cN := newN w1 (two := two) (st := 0) n1 n2 (by decide) (by decide)
  clear cA
  go_wp2_with fail
  refine cN.mono ?_
  rintro e w2 ⟨p, rfl, hl2, hb2⟩
  clear cN
  have cN := newN w2 (two := two) (st := st) n1 n2 s0 s1
  go_wp2_with fail
  refine cN.mono ?_
  rintro e w3 ⟨r, rfl, hl3, hb3⟩
  have O0 : Ww w w3 p r (newA n two 0) st 0 (fun b => b < w.heap.size) :=
    ⟨(two_new hl2 hb2 hl3 hb3).less fun b hb => Nat.lt_of_lt_of_le hb hb1.size, rfl, Nat.zero_le _, Below.onto hb1 (Below.onto hb2 hb3), fun _ h => h⟩
  clear cN hl2 hb2 hb1 hl3 hb3 w1 w2
  go_wp2_with fail
  go_loopw [14] (fun vi wr => ∃ (A : La) (i : Nat), i ≤ 60 ∧ vi = .int .i64 i ∧ Hid (Ww w wr p r A st i (fun b => b < w.heap.size))) (fun vi _ => 60 - (intOf vi).toNat)
  case atStart => exact ⟨_, 0, by omega, rfl, O0⟩
  case round =>
    obtain ⟨A, i, hi, rfl, HS⟩ := hrel
    by_cases h60 : i < 60
    · by_cases hlt : i < len
      · obtain ⟨b, off, rfl, hJ, hq⟩ := HOps.out.1 i hlt
        have hJ := hJ.below HS.out.bel
        obtain ⟨j0, j1, j2, j3, j4, j5, j6⟩ := hJ
        have HQ : Hid (f i).okq := hq
        clear hq
        generalize f i = o at *
        have hcl : A.c < 1000000 := by have := HS.out.c; omega
        go_wp2_with fail
        have hW : Below w.heap.size w ((wr.alloc (.cells #[.int .i64 o.k, .int .u64 o.q, .int .u64 o.e, .int .i64 o.n, .int .u64 o.g, .int .i64 o.t, .int .i64 o.s] 40)).alloc (.cells #[.int .i64 o.k, .int .u64 (IntKind.u64.wrap (o.q + st)), .int .u64 o.e, .int .i64 o.n, .int .u64 o.g, .int .i64 o.t, .int .i64 o.s] 40)) := Below.onto HS.out.bel (jalloc (jalloc (Below.refl _ _) _) _)
        have hW' : Below wr.heap.size wr ((wr.alloc (.cells #[.int .i64 o.k, .int .u64 o.q, .int .u64 o.e, .int .i64 o.n, .int .u64 o.g, .int .i64 o.t, .int .i64 o.s] 40)).alloc (.cells #[.int .i64 o.k, .int .u64 (IntKind.u64.wrap (o.q + st)), .int .u64 o.e, .int .i64 o.n, .int .u64 o.g, .int .i64 o.t, .int .i64 o.s] 40)) := jalloc (jalloc (Below.refl _ _) _) _
        have T4 := HS.out.two.below hW'
        have cM := jmoved st A HS.out.st hcl o HQ.out p r _ _ T4 cR (IntKind.u64.wrap (o.q + st)) (by rw [IntKind.wrap_u64]; rfl)
        unfold joV at cM
        refine cM.mono ?_
        rintro e w5 ⟨rfl, ⟨A', h0', hc', t5⟩, e5⟩
        have cS := t5.step fun X hX l => stateN l
        have hb5 := els_base hW e5 fun _ h => h
        clear cM T4 hW hW' e5
        unfold staV at cS
        obtain ⟨sL, hL⟩ : ∃ x : Int, leftI A' = x := ⟨_, rfl⟩
        obtain ⟨sC, hC⟩ : ∃ x : Int, (A'.C.length : Int) = x := ⟨_, rfl⟩
        obtain ⟨sP, hP⟩ : ∃ x : Int, (A'.P.length : Int) = x := ⟨_, rfl⟩
        obtain ⟨sT, hT⟩ : ∃ x : Int, ((A'.T.filter is3).length : Int) = x := ⟨_, rfl⟩
        obtain ⟨sH, hH⟩ : ∃ x : Int, ((A'.T.filter is4).length : Int) = x := ⟨_, rfl⟩
        rw [hL, hC, hP, hT, hH] at cS
        go_wp2_with fail
        refine cS.mono ?_
        rintro e w6 ⟨rfl, t6, e6⟩
        clear cS
        have cS := t6.stepB fun X hX l => stateN l
        rw [at_sta] at cS
        unfold staV at cS
        rw [hL, hC, hP, hT, hH] at cS
        clear hL hC hP hT hH
        go_wp2_with fail
        refine cS.mono ?_
        rintro e w7 ⟨rfl, t7, e7⟩
        have O7 : Hid (Ww w w7 p r A' st (i + 1) (fun b => b < w.heap.size)) := ⟨t7, h0', by have := HS.out.c; omega, els_base hb5 (e6.trans e7) fun _ h => h, fun _ h => h⟩
        clear cS t5 t6 t7 e6 e7 hb5
        go_wp2_with fail
        go_roundw
        case rel => exact ⟨_, i + 1, by omega, by go_num, O7⟩
        case measure => simp [intOf]; omega
      · go_wp2_with fail
        go_ret
        exact ⟨rfl, HS.out.bel⟩
    · go_wp2_with fail
      all_goals (go_ret; exact ⟨rfl, HS.out.bel⟩)
end Go.Proofs.Ytkgjikfndinpoaa
