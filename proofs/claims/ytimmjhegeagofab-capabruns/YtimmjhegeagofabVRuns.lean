/- CapabRuns: every answer of a table. -/
import Derived.Test.YtimmjhegeagofabVDo
namespace Go.Proofs.Ytimmjhegeagofab
open Go.RowKit Go.Sort
set_option maxRecDepth 100000

set_option maxHeartbeats 8000000 in
theorem runs_bad (pl : Int) (sv : Value) (h r : Int) (w : World) (hpl : pl < 0 ∨ 32 < pl) : Calls Try.prog 7 #[.int .i64 pl, sv, .int .u32 h, .int .u8 r] w fun e w' => e = .returned (.bool true) ∧ Below w.heap.size w w' := by
  have hN := tnew_bad pl w hpl
  have hR := rnew_bad pl w hpl
  have hA := valive_any w
  clear hpl
  go_enter Try.func7, Try.ntmps7
  go_wp2_with fail
  refine hN.mono ?_
  rintro e w1 ⟨rfl, hw1⟩
  subst hw1
  go_wp2_with fail
  refine hR.mono ?_
  rintro e w2 ⟨rfl, hw2⟩
  subst hw2
  go_wp2_with fail
  refine hA.mono ?_
  rintro e w2 ⟨rfl, hb2⟩
  go_wp2_with fail
  go_ret
  exact ⟨rfl, hb2⟩
/-- what CapabRuns keeps -/
structure RuI (w0 w : World) (p q b : Nat) (a : Option Addr) (cap n : Nat) (T : Tb) : Prop where
  pv : Pv w p q b a cap T
  tn : T.n = n
  bel : Below w0.heap.size w0 w
  bp : w0.heap.size ≤ p
  bb : w0.heap.size ≤ b
theorem RuI.grow {w0 w w' : World} {p q b : Nat} {a : Option Addr} {cap n : Nat} {T : Tb} (h : RuI w0 w p q b a cap n T) (hb : Below w.heap.size w w') : RuI w0 w' p q b a cap n T := ⟨h.pv.below hb, h.tn, Below.onto h.bel hb, h.bp, h.bb⟩
theorem RuI.act {w0 w w' : World} {p q b : Nat} {a : Option Addr} {cap n : Nat} {T T' : Tb} (h : RuI w0 w p q b a cap n T) (hp : Pv w' p q b a cap T') (hn : T'.n = T.n) (hb : B2 T.n p b w w') : RuI w0 w' p q b a cap n T' :=
  ⟨hp, hn.trans h.tn, h.bel.trans (But.below hb h.bel.size fun k hk => hk.elim (fun e => by rw [e]; exact h.bp) fun e => by rw [e.1]; exact h.bb), h.bp, h.bb⟩
set_option maxHeartbeats 16000000 in
theorem runs_any (n : Nat) (sa : Option Addr) (sl sc : Nat) (g : Nat → VOp) (h r : Int) (w : World) (hn : n ≤ 32) (hs : Rd w sa sl 5 (fun j => encV (g j))) (hg : ∀ j, j < sl → (g j).Ok) (h0 : 0 ≤ h) (h1 : h < 4294967296) (r0 : 0 ≤ r) (r1 : r < 256) :
    Calls Try.prog 7 #[.int .i64 (n : Int), .slice sa sl sc, .int .u32 h, .int .u8 r] w fun e w' => e = .returned (.bool true) ∧ Below w.heap.size w w' := by
  have hNw := tnew_any n w hn
  have hRw := fun W => rnew_any n W hn
  have hA := fun W => valive_any W
  have HS : Hid (Rd w sa sl 5 (fun j => encV (g j))) := hs
  have HG : Hid (∀ j, j < sl → (g j).Ok) := hg
  clear hs hg
  go_enter Try.func7, Try.ntmps7
  go_wp2_with fail
  refine hNw.mono ?_
  rintro e w1 ⟨rfl, hx1, hb1⟩
  have X1 : Hid (Tx w1 w.heap.size (newTb n)) := hx1
  have B1 : Hid (Below w.heap.size w w1) := hb1
  clear hNw hx1 hb1
  go_wp2_with fail
  refine (hRw _).mono ?_
  rintro e w2 ⟨b, a, cap, rfl, hr2, hqb, hb2⟩
  have HI : Hid (RuI w w2 w.heap.size w1.heap.size b a cap n (newTb n)) := ⟨⟨X1.out.below hb2, hr2, by have := X1.out.lt; omega, by have := X1.out.lt; omega⟩, rfl, Below.onto B1.out hb2, Nat.le_refl _, by have := B1.out.size; omega⟩
  clear hRw hr2 hb2 hqb
  go_wp2_with fail
  obtain ⟨p, hp⟩ : ∃ p, p = w.heap.size := ⟨_, rfl⟩
  obtain ⟨q, hq⟩ : ∃ q, q = w1.heap.size := ⟨_, rfl⟩
  rw [← hp, ← hq]
  replace HI : Hid (RuI w w2 p q b a cap n (newTb n)) := by rw [hp, hq]; exact HI.out
  clear hp hq
  go_loopw [13] (fun t wr => ∃ (i : Nat) (T : Tb), i ≤ sl ∧ t = .int .i64 i ∧ Hid (RuI w wr p q b a cap n T)) (fun t _ => sl - (intOf t).toNat)
  case atStart => exact ⟨0, _, Nat.zero_le _, rfl, HI.out⟩
  case round =>
    obtain ⟨i, T, hi, rfl, hI⟩ := hrel
    by_cases hfin : i < sl ∧ i < 80
    · obtain ⟨hf1, hf2⟩ := hfin
      obtain ⟨sb, off, hsa, q0, q1, q2, q3, q4⟩ := (HS.out.below hI.out.bel).five hf1
      subst hsa
      have ho := HG.out i hf1
      have hdo := do_any (g i) wr hI.out.pv ho
      obtain ⟨o, hoe⟩ : ∃ o, o = g i := ⟨_, rfl⟩
      have HOE : Hid (o = g i) := hoe
      rw [← hoe] at q0 q1 q2 q3 q4 ho hdo
      clear hoe
      have qb := cell_lt q0
      go_wp2_with fail
      refine hdo.mono ?_
      rintro e w3 ⟨x, T', rfl, hx0, hx1, hTn, hP, hB⟩
      have HI3 : Hid (RuI w w3 p q b a cap n T') := hI.out.act hP hTn hB
      clear hdo hTn hP hB q0 q1 q2 q3 q4 qb
      have hL := fun W hW => tleft_any p T' W hW
      have hRL := fun W (hW : Rt W q b a cap T') => rleft_any W hW
      go_wp2_with fail
      refine (hL _ HI3.out.pv.t).mono ?_
      rintro e w4 ⟨rfl, hb4⟩
      have HI4 : Hid (RuI w w4 p q b a cap n T') := HI3.out.grow hb4
      clear hb4 hL
      go_wp2_with fail
      refine (hRL _ HI4.out.pv.r).mono ?_
      rintro e w5 ⟨rfl, hb5⟩
      have HI5 : Hid (RuI w w5 p q b a cap n T') := HI4.out.grow hb5
      clear hb5 hRL
      go_wp2_with fail
      refine (tlive_any p T' _ HI5.out.pv.t).mono ?_
      rintro e w6 ⟨v6, rfl, hs6, hb6⟩
      have HI6 : Hid (RuI w w6 p q b a cap n T') := HI5.out.grow hb6
      have S6 : Hid (Hs w6 _ v6 (lvTo T' T'.n)) := hs6
      clear hb6 hs6
      go_wp2_with fail
      refine (rlive_any _ HI6.out.pv.r).mono ?_
      rintro e w7 ⟨v7, rfl, hs7, hb7⟩
      have HI7 : Hid (RuI w w7 p q b a cap n T') := HI6.out.grow hb7
      have hsm := vsame_any v6 v7 _ _ (lvTo T' T'.n) w7 (by have := lvTo_le T' T'.n; have := HI6.out.pv.t.ok.n32; omega) (vown_below S6.out hb7) hs7
      clear hb7 hs7
      go_wp2_with fail
      refine hsm.mono ?_
      rintro e w8 ⟨rfl, hb8⟩
      have HI8 : Hid (RuI w w8 p q b a cap n T') := HI7.out.grow hb8
      clear hb8 hsm
      obtain ⟨sb', off', hsa, y0, y1, y2, y3, y4⟩ := (HS.out.below HI8.out.bel).five hf1
      injection hsa with hsa
      injection hsa with ha1 ha2
      subst ha1 ha2
      rw [← HOE.out] at y0 y1 y2 y3 y4
      have yb := cell_lt y0
      have HX9 : Hid (Bx (w8.alloc (.cells #[.int .u32 h, .int .u32 x, .int .u32 o.h] 64)) w8.heap.size [.int .u32 h, .int .u32 x, .int .u32 o.h]) := bx_new w8 [.int .u32 h, .int .u32 x, .int .u32 o.h] _
      have HI9 : Hid (RuI w (w8.alloc (.cells #[.int .u32 h, .int .u32 x, .int .u32 o.h] 64)) p q b a cap n T') := HI8.out.grow (below_new _ _)
      go_wp2_with fail
      generalize w8.alloc (.cells #[.int .u32 h, .int .u32 x, .int .u32 o.h] 64) = w9 at *
      clear y0 y1 y2 y3 y4 yb
      generalize w8.heap.size = S at *
      go_loopw [95] (fun t wx => ∃ k : Nat, k ≤ 3 ∧ t = .int .i64 k ∧ Hid (RuI w wx p q b a cap n T') ∧ Hid (Bx wx S [.int .u32 h, .int .u32 x, .int .u32 o.h])) (fun t _ => 3 - (intOf t).toNat)
      case atStart => exact ⟨0, by omega, rfl, HI9.out, HX9.out⟩
      case round =>
        obtain ⟨k, hk, rfl, hI2, hX2⟩ := hrel
        by_cases hlt : k < 3
        · obtain ⟨y, hy, hy0, hy1⟩ : ∃ y, wr.cell? ⟨S, k, none⟩ = some (.int .u32 y) ∧ 0 ≤ y ∧ y < 4294967296 := by
            match k, hlt with
            | 0, _ => exact ⟨h, hX2.out 0 _ rfl, h0, h1⟩
            | 1, _ => exact ⟨x, hX2.out 1 _ rfl, hx0, hx1⟩
            | 2, _ => exact ⟨o.h, hX2.out 2 _ rfl, ho.2.2.1, ho.2.2.2⟩
          have yl := cell_lt hy
          have hF := fun W hW => tfind_any p y T' W hW hy0 hy1
          have hRF := fun W (hW : Rt W q b a cap T') => rfind_any y W hW
          have hW := fun W hW => twith_any p y r T' W hW hy0 hy1
          have hRW := fun W (hW : Rt W q b a cap T') => rwith_any y r W hW r0 r1
          generalize fdP T' y = f1 at *
          generalize tkh T' y = t1 at *
          generalize wtP T' y r = f2 at *
          generalize wtB T' y r = t2 at *
          go_wp2_with fail
          refine (hF _ hI2.out.pv.t).mono ?_
          rintro e u1 ⟨rfl, hb1⟩
          have I1 : Hid (RuI w (u1.alloc (.cells #[.int .i64 f1.c, .int .u8 f1.r] 74)) p q b a cap n T') := (hI2.out.grow hb1).grow (below_new _ _)
          have X1 : Hid (Bx (u1.alloc (.cells #[.int .i64 f1.c, .int .u8 f1.r] 74)) S _) := (hX2.out.below hb1).below (below_new _ _)
          have F1 : Hid (Bx (u1.alloc (.cells #[.int .i64 f1.c, .int .u8 f1.r] 74)) u1.heap.size [.int .i64 f1.c, .int .u8 f1.r]) := cap_box u1 _ _
          clear hb1 hF hy yl
          go_wp2_with fail
          generalize u1.alloc (.cells #[.int .i64 f1.c, .int .u8 f1.r] 74) = u2 at *
          refine (hRF _ I1.out.pv.r).mono ?_
          rintro e u3 ⟨rfl, hb3⟩
          have I3 : Hid (RuI w (u3.alloc (.cells #[.int .i64 f1.c, .int .u8 f1.r] 74)) p q b a cap n T') := (I1.out.grow hb3).grow (below_new _ _)
          have X3 : Hid (Bx (u3.alloc (.cells #[.int .i64 f1.c, .int .u8 f1.r] 74)) S _) := (X1.out.below hb3).below (below_new _ _)
          have F3 : Hid (Bx (u3.alloc (.cells #[.int .i64 f1.c, .int .u8 f1.r] 74)) u1.heap.size [.int .i64 f1.c, .int .u8 f1.r]) := (F1.out.below hb3).below (below_new _ _)
          have G3 : Hid (Bx (u3.alloc (.cells #[.int .i64 f1.c, .int .u8 f1.r] 74)) u3.heap.size [.int .i64 f1.c, .int .u8 f1.r]) := cap_box u3 _ _
          clear hb3 hRF
          go_wp2_with fail
          generalize u3.alloc (.cells #[.int .i64 f1.c, .int .u8 f1.r] 74) = u4 at *
          refine (hW _ I3.out.pv.t).mono ?_
          rintro e u5 ⟨rfl, hb5⟩
          have I5 : Hid (RuI w (u5.alloc (.cells #[.int .i64 f2.c, .int .u8 f2.r] 74)) p q b a cap n T') := (I3.out.grow hb5).grow (below_new _ _)
          have X5 : Hid (Bx (u5.alloc (.cells #[.int .i64 f2.c, .int .u8 f2.r] 74)) S _) := (X3.out.below hb5).below (below_new _ _)
          have F5 : Hid (Bx (u5.alloc (.cells #[.int .i64 f2.c, .int .u8 f2.r] 74)) u1.heap.size [.int .i64 f1.c, .int .u8 f1.r]) := (F3.out.below hb5).below (below_new _ _)
          have G5 : Hid (Bx (u5.alloc (.cells #[.int .i64 f2.c, .int .u8 f2.r] 74)) u3.heap.size [.int .i64 f1.c, .int .u8 f1.r]) := (G3.out.below hb5).below (below_new _ _)
          have K5 : Hid (Bx (u5.alloc (.cells #[.int .i64 f2.c, .int .u8 f2.r] 74)) u5.heap.size [.int .i64 f2.c, .int .u8 f2.r]) := cap_box u5 _ _
          clear hb5 hW
          go_wp2_with fail
          generalize u5.alloc (.cells #[.int .i64 f2.c, .int .u8 f2.r] 74) = u6 at *
          refine (hRW _ I5.out.pv.r).mono ?_
          rintro e u7 ⟨rfl, hb7⟩
          have I7 : Hid (RuI w (u7.alloc (.cells #[.int .i64 f2.c, .int .u8 f2.r] 74)) p q b a cap n T') := (I5.out.grow hb7).grow (below_new _ _)
          have X7 : Hid (Bx (u7.alloc (.cells #[.int .i64 f2.c, .int .u8 f2.r] 74)) S _) := (X5.out.below hb7).below (below_new _ _)
          have F7 := (F5.out.below hb7).below (below_new u7 (.cells #[.int .i64 f2.c, .int .u8 f2.r] 74))
          have G7 := (G5.out.below hb7).below (below_new u7 (.cells #[.int .i64 f2.c, .int .u8 f2.r] 74))
          have K7 := (K5.out.below hb7).below (below_new u7 (.cells #[.int .i64 f2.c, .int .u8 f2.r] 74))
          have L7 := cap_box u7 (.int .i64 f2.c) (.int .u8 f2.r)
          obtain ⟨a0, a1⟩ := F7.two
          obtain ⟨b0, b1⟩ := G7.two
          obtain ⟨c0, c1⟩ := K7.two
          obtain ⟨d0, d1⟩ := L7.two
          have la := F7.lt
          have lb := G7.lt
          have lc := K7.lt
          have ld := L7.lt
          clear hb7 hRW F7 G7 K7 L7
          go_wp2_with fail
          exact ⟨⟨k + 1, by omega, by go_num, I7.out, X7.out⟩, by simp [intOf]; omega⟩
        · obtain rfl : k = 3 := by omega
          go_wp2_with fail
          exact ⟨⟨i + 1, T', by omega, by go_num, hI2.out⟩, by simp [intOf]; omega⟩
    · have HB : Hid (Below w.heap.size w wr) := hI.out.bel
      clear hI
      by_cases h1 : i < sl
      · have h2 : ¬ i < 80 := by omega
        have h3 : 80 ≤ i := by omega
        go_wp2_with fail
        refine (hA _).mono ?_
        rintro e w5 ⟨rfl, hb5⟩
        go_wp2_with fail
        go_ret
        exact ⟨rfl, Below.onto HB.out hb5⟩
      · have h3 : sl ≤ i := by omega
        go_wp2_with fail
        refine (hA _).mono ?_
        rintro e w5 ⟨rfl, hb5⟩
        go_wp2_with fail
        go_ret
        exact ⟨rfl, Below.onto HB.out hb5⟩
end Go.Proofs.Ytimmjhegeagofab
