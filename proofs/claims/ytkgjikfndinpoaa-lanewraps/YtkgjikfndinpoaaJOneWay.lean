/- LaneOneWay's walk. -/
import Derived.Test.YtkgjikfndinpoaaJTwo
import Derived.Test.YtkgjikfndinpoaaJAwake
import Derived.Test.YtkgjikfndinpoaaJRow
import Derived.Deep.RegionHeld3
import Derived.Deep.Light
namespace Go.Proofs.Ytkgjikfndinpoaa
open Go.RowKit Go.Sort
set_option maxRecDepth 100000

/-- an operation's box -/
structure B7 (w : World) (D : Nat) (o : Jo) : Prop where
  k : w.cell? ⟨D, 0, none⟩ = some (.int .i64 o.k)
  q : w.cell? ⟨D, 1, none⟩ = some (.int .u64 o.q)
  e : w.cell? ⟨D, 2, none⟩ = some (.int .u64 o.e)
  n : w.cell? ⟨D, 3, none⟩ = some (.int .i64 o.n)
  g : w.cell? ⟨D, 4, none⟩ = some (.int .u64 o.g)
  t : w.cell? ⟨D, 5, none⟩ = some (.int .i64 o.t)
  s : w.cell? ⟨D, 6, none⟩ = some (.int .i64 o.s)
theorem b7_new (w : World) (o : Jo) (T : TypeId) : B7 (w.alloc (.cells #[.int .i64 o.k, .int .u64 o.q, .int .u64 o.e, .int .i64 o.n, .int .u64 o.g, .int .i64 o.t, .int .i64 o.s] T)) w.heap.size o :=
  ⟨jnew_at w _ T 0 (by simp), jnew_at w _ T 1 (by simp), jnew_at w _ T 2 (by simp), jnew_at w _ T 3 (by simp), jnew_at w _ T 4 (by simp), jnew_at w _ T 5 (by simp), jnew_at w _ T 6 (by simp)⟩
theorem B7.els {X : Nat → Prop} {w w' : World} {D : Nat} {o : Jo} (h : B7 w D o) (hX : X D) (hb : But (Els X) w w') : B7 w' D o :=
  ⟨els_cell hb hX h.k, els_cell hb hX h.q, els_cell hb hX h.e, els_cell hb hX h.n, els_cell hb hX h.g, els_cell hb hX h.t, els_cell hb hX h.s⟩

theorem B7.bel {w w' : World} {D : Nat} {o : Jo} (h : B7 w D o) (hb : Below w.heap.size w w') : B7 w' D o :=
  ⟨jcells hb h.k, jcells hb h.q, jcells hb h.e, jcells hb h.n, jcells hb h.g, jcells hb h.t, jcells hb h.s⟩
/-- what Reset tells of its error -/
def ResetIs : Prop := ∀ (w : World) (p : Nat) (A : La) (X : Nat → Prop), Ln w p A X → Calls Try.prog 17 #[pV p] w fun e w' => (∃ v, e = .returned (.tuple #[v, .int .i64 (resE A)])) ∧ Ln w' p (resA A) X ∧ But (Els X) w w'

/-- two lanes while the law runs -/
structure Ow (w wr : World) (p r : Nat) (A B : La) (i : Nat) (Y : Nat → Prop) : Prop where
  two : Two wr p r A B Y
  like : Like1 A B
  c : A.c ≤ i
  bel : Below w.heap.size w wr
  sub : ∀ b, b < w.heap.size → Y b
section
variable {w wr w' : World} {p r i j : Nat} {A B A' B' : La} {Y Z : Nat → Prop}
theorem Ow.next (h : Ow w wr p r A B i Y) (t : Two w' p r A' B' Y) (b : But (Els Y) wr w') (l : Like1 A' B') (c : A'.c ≤ j) : Ow w w' p r A' B' j Y :=
  ⟨t, l, c, els_base h.bel b h.sub, h.sub⟩
theorem Ow.less (h : Ow w wr p r A B i Y) (hz : ∀ b, Z b → Y b) (hs : ∀ b, b < w.heap.size → Z b) : Ow w wr p r A B i Z :=
  ⟨h.two.less hz, h.like, h.c, h.bel, hs⟩
theorem Ow.box (h : Ow w wr p r A B i Y) (z : Obj) : Ow w (wr.alloc z) p r A B i (fun b => Y b ∨ b = wr.heap.size) :=
  ⟨h.two.box z, h.like, h.c, Below.onto h.bel (jalloc (Below.refl _ _) z), fun b hb => .inl (h.sub b hb)⟩
theorem claimV_form (A : La) : ∃ q e er : Int, claimV A = .tuple #[.agg #[.int .u64 q, .int .u64 e], .int .i64 er] := by
  unfold claimV tkV
  split
  · exact ⟨_, _, _, rfl⟩
  · exact ⟨_, _, _, rfl⟩
end

set_option maxHeartbeats 4000000 in
theorem joneway (cr st : Int) (a : Option Addr) (len cap : Nat) (f : Nat → Jo) (w : World) (c0 : 0 ≤ cr) (c1 : cr < 256) (s0 : 0 ≤ st) (s1 : st < 18446744073709551616) (hops : JOps w a len cap f) (cR : Hid ResetIs) :
    Calls Try.prog 4 #[.int .u8 cr, .int .u64 st, .slice a len cap] w fun e w' => e = .returned (.bool true) ∧ Below w.heap.size w w' := by
  obtain ⟨n, hn⟩ : ∃ n : Nat, cr % 64 + 1 = (n : Int) := ⟨(cr % 64 + 1).toNat, by omega⟩
  have n1 : 1 ≤ n := by omega
  have n2 : n ≤ 64 := by omega
  have hlc : len ≤ 9223372036854775807 := by have h1 := hops.2.1; have h2 := hops.2.2; unfold maxLen at h2; omega
  have cA := jawake w
  have HOps : Hid (JOps w a len cap f) := hops
  clear hops
  go_enter Try.func4, Try.ntmps4
  go_wp2_with fail
  refine cA.mono ?_
  rintro e w1 ⟨rfl, hb1⟩
  have cN := newN w1 (two := false) (st := st) n1 n2 s0 s1
  clear cA
  go_wp2_with fail
  refine cN.mono ?_
  rintro e w2 ⟨p, rfl, hl2, hb2⟩
  clear cN
  have cN := newN w2 (two := false) (st := st) n1 n2 s0 s1
  go_wp2_with fail
  refine cN.mono ?_
  rintro e w3 ⟨r, rfl, hl3, hb3⟩
  have O0 : Ow w w3 p r (newA n false st) (newA n false st) 0 (fun b => b < w.heap.size) :=
    ⟨(two_new hl2 hb2 hl3 hb3).less fun b hb => Nat.lt_of_lt_of_le hb hb1.size, Like1.new, Nat.zero_le _, Below.onto hb1 (Below.onto hb2 hb3), fun _ h => h⟩
  clear cN hl2 hb2 hb1 hl3 hb3 w1 w2
  go_wp2_with fail
  go_loopw [12] (fun vi wr => ∃ (A B : La) (i : Nat), i ≤ 60 ∧ vi = .int .i64 i ∧ Hid (Ow w wr p r A B i (fun b => b < w.heap.size))) (fun vi _ => 60 - (intOf vi).toNat)
  case atStart => exact ⟨_, _, 0, by omega, rfl, O0⟩
  case round =>
    obtain ⟨A, B, i, hi, rfl, HS⟩ := hrel
    by_cases h60 : i < 60
    · by_cases hlt : i < len
      · obtain ⟨b, off, rfl, hJ, hq⟩ := HOps.out.1 i hlt
        have hJ := hJ.below HS.out.bel
        obtain ⟨j0, j1, j2, j3, j4, j5, j6⟩ := hJ
        have HQ : Hid (f i).okq := hq
        clear hq
        generalize f i = o at *
        have hcl : A.c < 1000000 := by have := HS.out.c; omega
        have hcl' : B.c < 1000000 := by have := HS.out.like.c; omega
        have HO : Hid (Ow w (wr.alloc (.cells #[.int .i64 o.k, .int .u64 o.q, .int .u64 o.e, .int .i64 o.n, .int .u64 o.g, .int .i64 o.t, .int .i64 o.s] 40)) p r A B i (fun b => b < w.heap.size ∨ b = wr.heap.size)) := HS.out.box _
        have HB : Hid (B7 (wr.alloc (.cells #[.int .i64 o.k, .int .u64 o.q, .int .u64 o.e, .int .i64 o.n, .int .u64 o.g, .int .i64 o.t, .int .i64 o.s] 40)) wr.heap.size o) := b7_new _ _ _
        obtain ⟨w4, hw4⟩ : ∃ w4, wr.alloc (.cells #[.int .i64 o.k, .int .u64 o.q, .int .u64 o.e, .int .i64 o.n, .int .u64 o.g, .int .i64 o.t, .int .i64 o.s] 40) = w4 := ⟨_, rfl⟩
        rw [hw4] at HO HB
        generalize hD : wr.heap.size = D at *
        obtain ⟨d0, d1, d2, d3, d4, d5, d6⟩ := HB.out
        by_cases k1 : o.k = 1
        · rw [k1] at hw4
          obtain ⟨vq, ve, er, hV⟩ := claimV_form A
          have hV' := HS.out.like.claimV ▸ hV
          have cC := HO.out.two.step fun X hX l => claimN l hcl
          rw [hV] at cC
          clear hV
          go_wp2_with fail
          clear hw4 hD d0 d1 d2 d3 d4 d5 d6 j0 j1 j2 j3 j4 j5 j6
          refine cC.mono ?_
          rintro e w5 ⟨rfl, t5, e5⟩
          have t6 := t5.box (.cells #[.int .u64 vq, .int .u64 ve] 34)
          have bx := b2_new w5 (.int .u64 vq) (.int .u64 ve) 34
          have e6 : But (Els (fun b => b < w.heap.size ∨ b = D)) w4 (w5.alloc (.cells #[.int .u64 vq, .int .u64 ve] 34)) := e5.alloc _
          clear cC t5 e5
          go_wp2_with fail
          generalize w5.alloc (.cells #[.int .u64 vq, .int .u64 ve] 34) = w6 at *
          generalize w5.heap.size = D1 at *
          have cC := t6.stepB fun X hX l => claimN l hcl'
          rw [hV'] at cC
          clear hV'
          refine cC.mono ?_
          rintro e w7 ⟨rfl, t7, e7⟩
          have hb8 := jalloc (Below.refl _ w7) (.cells #[.int .u64 vq, .int .u64 ve] 34)
          have O8 : Hid (Ow w (w7.alloc (.cells #[.int .u64 vq, .int .u64 ve] 34)) p r (claimA A) (claimA B) (i + 1) (fun b => b < w.heap.size)) := (HO.out.next (j := i + 1) ((t7.below hb8).less fun _ h => .inl h) ((e6.trans (e7.mono fun i h hx => h (.inl hx))).alloc _) HS.out.like.claim (by have h1 := (claimA_st A).2.2.2.2.2.2; have h2 := HS.out.c; omega)).less (fun _ h => .inl h) (fun _ h => h)
          obtain ⟨x0, x1⟩ := (bx.els (X := fun b => (b < w.heap.size ∨ b = D) ∨ b = D1) (.inr rfl) e7).below hb8
          obtain ⟨y0, y1⟩ := b2_new w7 (.int .u64 vq) (.int .u64 ve) 34
          clear cC t6 t7 e7 e6 hb8 bx
          go_wp2_with fail
          go_roundw
          case rel => exact ⟨_, _, i + 1, by omega, by go_num, O8⟩
          case measure => simp [intOf]; omega
        · by_cases k2 : o.k = 2
          · rw [k2] at hw4
            have hE := HS.out.like.layE o.q o.e
            have c1 := ((HO.out.two.below (Below.refl _ w4).drew).step fun X hX l => layN (q := o.q) (e := o.e) (n := o.n) (g := o.g) l HQ.out.1 HQ.out.2).mono fun _ w'' h => (⟨h.1, h.2.1, (But.refl _ _).drew.trans h.2.2⟩ : _ ∧ Two w'' p r (layA A o.q o.e o.n o.g) B (fun b => b < w.heap.size ∨ b = D) ∧ But (Els (fun b => b < w.heap.size ∨ b = D)) w4 w'')
            have c2 := fun W (hW : Two W p r (layA A o.q o.e o.n o.g) B (fun b => b < w.heap.size ∨ b = D)) (hB : But (Els (fun b => b < w.heap.size ∨ b = D)) w4 W) => (hW.stepB fun X hX l => layN (q := o.q) (e := o.e) (n := o.n) (g := o.g) l HQ.out.1 HQ.out.2).mono fun _ w'' h => (⟨h.1, h.2.1, hB.trans h.2.2⟩ : _ ∧ Two w'' p r (layA A o.q o.e o.n o.g) (layA B o.q o.e o.n o.g) (fun b => b < w.heap.size ∨ b = D) ∧ But (Els (fun b => b < w.heap.size ∨ b = D)) w4 w'')
            rw [← hE] at c2
            have toS : ∀ W, But (Els (fun b => b < w.heap.size ∨ b = D)) w4 W → W.cell? ⟨D, 1, none⟩ = some (.int .u64 o.q) ∧ W.cell? ⟨D, 2, none⟩ = some (.int .u64 o.e) ∧ W.cell? ⟨D, 3, none⟩ = some (.int .i64 o.n) ∧ W.cell? ⟨D, 4, none⟩ = some (.int .u64 o.g) := fun W h => ⟨els_cell h (.inr rfl) d1, els_cell h (.inr rfl) d2, els_cell h (.inr rfl) d3, els_cell h (.inr rfl) d4⟩
            have to4 := toS _ (But.refl _ _)
            generalize layE A o.q o.e = er at *
            unfold tkV slV at c1 c2
            clear hE
            go_wp2_with fail
            clear hw4 hD d0 d1 d2 d3 d4 d5 d6 j0 j1 j2 j3 j4 j5 j6
            go_region_held3 (fun W => W.cell? ⟨D, 1, none⟩ = some (.int .u64 o.q) ∧ W.cell? ⟨D, 2, none⟩ = some (.int .u64 o.e) ∧ W.cell? ⟨D, 3, none⟩ = some (.int .i64 o.n) ∧ W.cell? ⟨D, 4, none⟩ = some (.int .u64 o.g)) (first | assumption | exact toS _ (by assumption) | exact toS _ (But.refl _ _).drew | exact toS _ (But.refl _ _)) (first | (go_at_call 13; (with_reducible refine c1.mono ?_); rintro v w5 ⟨rfl, t5, e5⟩; have hcall := c2 _ t5 e5) | (go_at_call 13; (with_reducible refine hcall.mono ?_); rintro v w6 ⟨rfl, t6, e6⟩))
            have O6 : Hid (Ow w w6 p r (layA A o.q o.e o.n o.g) (layA B o.q o.e o.n o.g) (i + 1) (fun b => b < w.heap.size)) := (HO.out.next (j := i + 1) t6 e6 (HS.out.like.lay _ _ _ _) (by rw [layA_c]; have := HS.out.c; omega)).less (fun _ h => .inl h) (fun _ h => h)
            clear c1 c2 hcall toS to4 t5 e5 t6 e6
            go_wp2_with fail
            go_roundw
            case rel => exact ⟨_, _, i + 1, by omega, by go_num, O6⟩
            case measure => simp [intOf]; omega
          · by_cases k4 : o.k = 4
            · rw [k4] at hw4
              have hE := HS.out.like.lackE o.q o.e
              have c1 := ((HO.out.two.below (Below.refl _ w4).drew).step fun X hX l => pubN (q := o.q) (e := o.e) (t := o.t) (s := o.s) l HQ.out.1 HQ.out.2).mono fun _ w'' h => (⟨h.1, h.2.1, (But.refl _ _).drew.trans h.2.2⟩ : _ ∧ Two w'' p r (pubA A o.q o.e o.t o.s) B (fun b => b < w.heap.size ∨ b = D) ∧ But (Els (fun b => b < w.heap.size ∨ b = D)) w4 w'')
              have c2 := fun W (hW : Two W p r (pubA A o.q o.e o.t o.s) B (fun b => b < w.heap.size ∨ b = D)) (hB : But (Els (fun b => b < w.heap.size ∨ b = D)) w4 W) => (hW.stepB fun X hX l => pubN (q := o.q) (e := o.e) (t := o.t) (s := o.s) l HQ.out.1 HQ.out.2).mono fun _ w'' h => (⟨h.1, h.2.1, hB.trans h.2.2⟩ : _ ∧ Two w'' p r (pubA A o.q o.e o.t o.s) (pubA B o.q o.e o.t o.s) (fun b => b < w.heap.size ∨ b = D) ∧ But (Els (fun b => b < w.heap.size ∨ b = D)) w4 w'')
              rw [← hE] at c2
              have toS : ∀ W, But (Els (fun b => b < w.heap.size ∨ b = D)) w4 W → W.cell? ⟨D, 1, none⟩ = some (.int .u64 o.q) ∧ W.cell? ⟨D, 2, none⟩ = some (.int .u64 o.e) ∧ W.cell? ⟨D, 5, none⟩ = some (.int .i64 o.t) ∧ W.cell? ⟨D, 6, none⟩ = some (.int .i64 o.s) := fun W h => ⟨els_cell h (.inr rfl) d1, els_cell h (.inr rfl) d2, els_cell h (.inr rfl) d5, els_cell h (.inr rfl) d6⟩
              have to4 := toS _ (But.refl _ _)
              generalize lackE A o.q o.e = er at *
              unfold tkV smV at c1 c2
              clear hE
              go_wp2_with fail
              clear hw4 hD d0 d1 d2 d3 d4 d5 d6 j0 j1 j2 j3 j4 j5 j6
              go_region_held3 (fun W => W.cell? ⟨D, 1, none⟩ = some (.int .u64 o.q) ∧ W.cell? ⟨D, 2, none⟩ = some (.int .u64 o.e) ∧ W.cell? ⟨D, 5, none⟩ = some (.int .i64 o.t) ∧ W.cell? ⟨D, 6, none⟩ = some (.int .i64 o.s)) (first | assumption | exact toS _ (by assumption) | exact toS _ (But.refl _ _).drew | exact toS _ (But.refl _ _)) (first | (go_at_call 14; (with_reducible refine c1.mono ?_); rintro v w5 ⟨rfl, t5, e5⟩; have hcall := c2 _ t5 e5) | (go_at_call 14; (with_reducible refine hcall.mono ?_); rintro v w6 ⟨rfl, t6, e6⟩))
              have O6 : Hid (Ow w w6 p r (pubA A o.q o.e o.t o.s) (pubA B o.q o.e o.t o.s) (i + 1) (fun b => b < w.heap.size)) := (HO.out.next (j := i + 1) t6 e6 (HS.out.like.pub _ _ _ _) (by rw [pubA_c]; have := HS.out.c; omega)).less (fun _ h => .inl h) (fun _ h => h)
              clear c1 c2 hcall toS to4 t5 e5 t6 e6
              go_wp2_with fail
              go_roundw
              case rel => exact ⟨_, _, i + 1, by omega, by go_num, O6⟩
              case measure => simp [intOf]; omega
            · by_cases k6 : o.k = 6
              · rw [k6] at hw4
                have cT := HO.out.two.step fun X hX l => takeN l
                go_wp2_with fail
                clear hw4 hD d0 d1 d2 d3 d4 d5 d6 j0 j1 j2 j3 j4 j5 j6
                refine cT.mono ?_
                rintro e w5 ⟨rfl, t5, e5⟩
                have O6 : Hid (Ow w w5 p r (takeA A) B (i + 1) (fun b => b < w.heap.size)) := (HO.out.next (j := i + 1) t5 e5 HS.out.like.take (by rw [takeA_c]; have := HS.out.c; omega)).less (fun _ h => .inl h) (fun _ h => h)
                clear cT t5 e5
                go_wp2_with fail
                go_roundw
                case rel => exact ⟨_, _, i + 1, by omega, by go_num, O6⟩
                case measure => simp [intOf]; omega
              · by_cases k7 : o.k = 7
                · rw [k7] at hw4
                  have cT := HO.out.two.step fun X hX l => retN (q := o.q) (e := o.e) l HQ.out.1 HQ.out.2
                  unfold tkV at cT
                  go_wp2_with fail
                  clear hw4 hD d0 d1 d2 d3 d4 d5 d6 j0 j1 j2 j3 j4 j5 j6
                  refine cT.mono ?_
                  rintro e w5 ⟨rfl, t5, e5⟩
                  have O6 : Hid (Ow w w5 p r (retA A o.q o.e) B (i + 1) (fun b => b < w.heap.size)) := (HO.out.next (j := i + 1) t5 e5 (HS.out.like.ret _ _) (by rw [retA_c]; have := HS.out.c; omega)).less (fun _ h => .inl h) (fun _ h => h)
                  clear cT t5 e5
                  go_wp2_with fail
                  go_roundw
                  case rel => exact ⟨_, _, i + 1, by omega, by go_num, O6⟩
                  case measure => simp [intOf]; omega
                · by_cases k8 : o.k = 8
                  · rw [k8] at hw4
                    have hE := HS.out.like.resE
                    have cT := HO.out.two.step fun X hX l => cR.out _ _ _ _ l
                    go_wp2_with fail
                    clear hw4 hD d0 d1 d2 d3 d4 d5 d6 j0 j1 j2 j3 j4 j5 j6
                    refine cT.mono ?_
                    rintro e w5 ⟨⟨v1, rfl⟩, t5, e5⟩
                    clear cT
                    have cT := t5.stepB fun X hX l => cR.out _ _ _ _ l
                    rw [← hE] at cT
                    clear hE
                    generalize resE A = er at *
                    go_wp2_with fail
                    refine cT.mono ?_
                    rintro e w6 ⟨⟨v2, rfl⟩, t6, e6⟩
                    have O6 : Hid (Ow w w6 p r (resA A) (resA B) (i + 1) (fun b => b < w.heap.size)) := (HO.out.next (j := i + 1) t6 (e5.trans e6) HS.out.like.res (by rw [resA_c]; have := HS.out.c; omega)).less (fun _ h => .inl h) (fun _ h => h)
                    clear cT t5 e5 t6 e6
                    go_wp2_with fail
                    go_roundw
                    case rel => exact ⟨_, _, i + 1, by omega, by go_num, O6⟩
                    case measure => simp [intOf]; omega
                  · have hE := HS.out.like.lackE o.q o.e
                    have c1 := ((HO.out.two.below (Below.refl _ w4).drew).step fun X hX l => readyN (q := o.q) (e := o.e) l HQ.out.1 HQ.out.2).mono fun _ w'' h => (⟨h.1, h.2.1, (But.refl _ _).drew.trans h.2.2⟩ : _ ∧ Two w'' p r (A) B (fun b => b < w.heap.size ∨ b = D) ∧ But (Els (fun b => b < w.heap.size ∨ b = D)) w4 w'')
                    have c2 := fun W (hW : Two W p r (A) B (fun b => b < w.heap.size ∨ b = D)) (hB : But (Els (fun b => b < w.heap.size ∨ b = D)) w4 W) => (hW.stepB fun X hX l => readyN (q := o.q) (e := o.e) l HQ.out.1 HQ.out.2).mono fun _ w'' h => (⟨h.1, h.2.1, hB.trans h.2.2⟩ : _ ∧ Two w'' p r (A) (B) (fun b => b < w.heap.size ∨ b = D) ∧ But (Els (fun b => b < w.heap.size ∨ b = D)) w4 w'')
                    rw [← hE] at c2
                    have toS : ∀ W, But (Els (fun b => b < w.heap.size ∨ b = D)) w4 W → W.cell? ⟨D, 1, none⟩ = some (.int .u64 o.q) ∧ W.cell? ⟨D, 2, none⟩ = some (.int .u64 o.e) := fun W h => ⟨els_cell h (.inr rfl) d1, els_cell h (.inr rfl) d2⟩
                    have to4 := toS _ (But.refl _ _)
                    generalize decide (lackE A o.q o.e = 0) = er at *
                    unfold tkV at c1 c2
                    clear hE
                    go_wp2_with fail
                    clear hw4 hD d0 d1 d2 d3 d4 d5 d6 j0 j1 j2 j3 j4 j5 j6
                    go_region_held3 (fun W => W.cell? ⟨D, 1, none⟩ = some (.int .u64 o.q) ∧ W.cell? ⟨D, 2, none⟩ = some (.int .u64 o.e)) (first | assumption | exact toS _ (by assumption) | exact toS _ (But.refl _ _).drew | exact toS _ (But.refl _ _)) (first | (go_at_call 18; (with_reducible refine c1.mono ?_); rintro v w5 ⟨rfl, t5, e5⟩; have hcall := c2 _ t5 e5) | (go_at_call 18; (with_reducible refine hcall.mono ?_); rintro v w6 ⟨rfl, t6, e6⟩))
                    have O6 : Hid (Ow w w6 p r (A) (B) (i + 1) (fun b => b < w.heap.size)) := (HO.out.next (j := i + 1) t6 e6 HS.out.like (by have := HS.out.c; omega)).less (fun _ h => .inl h) (fun _ h => h)
                    clear c1 c2 hcall toS to4 t5 e5 t6 e6
                    go_wp2_with fail
                    go_roundw
                    case rel => exact ⟨_, _, i + 1, by omega, by go_num, O6⟩
                    case measure => simp [intOf]; omega
      · have cS := HS.out.two.step fun X hX l => stateN l
        have hL := HS.out.like.left
        have hfd : ∀ (a b c d e f : Int) (w : World), (Instr.field 42 (.agg #[.int .i64 a, .int .i64 b, .int .i64 c, .int .i64 d, .int .i64 e, .int .u64 f]) 0).run Try.prog w = .ok (.int .i64 a) w := fun _ _ _ _ _ _ _ => by kernel_rfl
        unfold staV at cS
        go_wp2_with fail
        refine cS.mono ?_
        rintro e w5 ⟨rfl, t5, e5⟩
        clear cS
        have cS := t5.stepB fun X hX l => stateN l
        unfold staV at cS
        rw [← hL] at cS
        clear hL
        generalize leftI A = L at *
        go_wp2_with fail
        refine cS.mono ?_
        rintro e w6 ⟨rfl, t6, e6⟩
        go_wp2_with fail
        go_ret
        exact ⟨rfl, els_base HS.out.bel (e5.trans e6) fun _ h => h⟩
    · have cS := HS.out.two.step fun X hX l => stateN l
      have hL := HS.out.like.left
      have hfd : ∀ (a b c d e f : Int) (w : World), (Instr.field 42 (.agg #[.int .i64 a, .int .i64 b, .int .i64 c, .int .i64 d, .int .i64 e, .int .u64 f]) 0).run Try.prog w = .ok (.int .i64 a) w := fun _ _ _ _ _ _ _ => by kernel_rfl
      unfold staV at cS
      go_wp2_with fail
      all_goals
        refine cS.mono ?_
        rintro e w5 ⟨rfl, t5, e5⟩
        clear cS
        have cS := t5.stepB fun X hX l => stateN l
        unfold staV at cS
        rw [← hL] at cS
        clear hL
        generalize leftI A = L at *
        go_wp2_with fail
        refine cS.mono ?_
        rintro e w6 ⟨rfl, t6, e6⟩
        go_wp2_with fail
        go_ret
        exact ⟨rfl, els_base HS.out.bel (e5.trans e6) fun _ h => h⟩
end Go.Proofs.Ytkgjikfndinpoaa
