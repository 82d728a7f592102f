/- PROVED: for every row of acts, every number and either bool the statement ListStops returns true: nodes are told as far as they are ranged over, as the list stood when that began (P5.4). No condition. -/
import Derived.Test.YtiaacjollcccaaaRows
import Derived.Test.YtiaacjollcccaaaKStopT
import Derived.Deep.RegionHeld3
import Derived.Test.YtiaacjollcccaaaKRow
import Derived.ProofKit
import Derived.ShutString
import Derived.ChangeOld
import Derived.OpenShut
namespace Go.Proofs.Ytiaacjollcccaaa.listStops
open Go.ChangeShapes Go.WideShapes Go.ChangeAt Go.RowKit

theorem own : ownKnob Try.prog.godebug = none := by kernel_rfl
theorem laidOut : laidOutB Try.prog = true := by kernel_rfl

theorem lenT (r : List Nat) (k : Nat) : (leftL true r k).length = r.length - k := by simp [leftL]
theorem len_left {d : Bool} {R7 : Nat → List Nat} {r : List Nat} {k : Nat} (h : R7 0 = leftL d r k) : lenR 2 R7 0 = ((leftL d r k).length : Int) := by
  have h2 : inR 2 (0 : Int) = true := by decide
  simp [lenR, h2, h]
theorem take_at {r : List Nat} {k j : Nat} (hj : j < k) : atL (r.take k) j = atL r j := by
  simp [atL, List.getD, hj]
set_option maxRecDepth 100000 in
set_option maxHeartbeats 4000000 in
theorem walkC (a : Option Addr) (len cap : Nat) (K I X : Nat → Int) (mo : Nat) (d : Bool) (w0 : World) (hS : ORow w0 a len cap K I X) (h1 : ¬ (mo : Int) < 1) (h2 : ¬ 10 < (mo : Int)) :
    Calls Try.prog 4 #[.slice a len cap, .int .i64 (mo : Int), .bool d] w0 fun e w' => e = .returned (.bool true) ∧ Below w0.heap.size w0 w' := by
  have HS : Hid (ORow w0 a len cap K I X) := hS
  have hlen : len ≤ 9223372036854775807 := by have h1 := hS.2.1; have h2 := hS.2.2; unfold maxLen at h2; omega
  clear hS
  have hb0 : Below w0.heap.size w0 ((w0.alloc (.cells #[.int .i64 (mo : Int)] 3)).alloc (.cells #[.bool d] 4)) := ((Below.refl _ w0).alloc (Nat.le_refl _) _).alloc (by simp) _
  have b4 : Boxed ((w0.alloc (.cells #[.int .i64 (mo : Int)] 3)).alloc (.cells #[.bool d] 4)) w0.heap.size 3 (.int .i64 (mo : Int)) := (Boxed.new w0 _ _).alloc _
  have b5 : Boxed ((w0.alloc (.cells #[.int .i64 (mo : Int)] 3)).alloc (.cells #[.bool d] 4)) (w0.heap.size + 1) 4 (.bool d) := by
    have := Boxed.new (w0.alloc (.cells #[.int .i64 (mo : Int)] 3)) 4 (.bool d)
    rwa [World.size_alloc] at this
  have hz0 : ((w0.alloc (.cells #[.int .i64 (mo : Int)] 3)).alloc (.cells #[.bool d] 4)).heap.size = w0.heap.size + 1 + 1 := by simp
  go_enter Try.func4, Try.ntmps4
  go_wp2_with fail
  generalize (w0.alloc (.cells #[.int .i64 (mo : Int)] 3)).alloc (.cells #[.bool d] 4) = W0 at *
  have HB0 : Hid (Below w0.heap.size w0 W0) := hb0
  have HBX : Hid (Boxed W0 w0.heap.size 3 (.int .i64 (mo : Int)) ∧ Boxed W0 (w0.heap.size + 1) 4 (.bool d) ∧ W0.heap.size = w0.heap.size + 1 + 1) := ⟨b4, b5, hz0⟩
  clear hb0 b4 b5 hz0
  refine (new_k 10 2 W0 (by omega) (by omega)).mono ?_
  rintro e w1 ⟨o, rfl, hk1, hb1, ho⟩
  have HO : Hid (∀ b, o.has b → W0.heap.size ≤ b ∧ b < w1.heap.size) := fun b hb => ⟨ho b hb, hk1.lt b hb⟩
  have HK1 : Hid (Kv w1 o 10 2 fun _ => []) := hk1
  have HB1 : Hid (Below W0.heap.size W0 w1) := hb1
  have b7 : Boxed (w1.alloc (.cells #[.pointer (some ⟨o.p, 0, none⟩)] 23)) w1.heap.size 23 o.ptr := Boxed.new w1 _ _
  have hbu : But (fun _ => False) w1 (w1.alloc (.cells #[.pointer (some ⟨o.p, 0, none⟩)] 23)) := (But.refl _ w1).alloc _
  have hz1 : (w1.alloc (.cells #[.pointer (some ⟨o.p, 0, none⟩)] 23)).heap.size = w1.heap.size + 1 := by simp
  clear ho hk1 hb1
  go_wp2_with fail
  generalize w1.alloc (.cells #[.pointer (some ⟨o.p, 0, none⟩)] 23) = W1 at *
  refine (rnew_k 10 2 W1 (by omega) (by omega)).mono ?_
  rintro e w2 ⟨p, b, rfl, hrx, hb2, hp, hb⟩
  have hbB : Below w1.heap.size w1 W1 := hbu.below (Nat.le_refl _) (fun _ h => h.elim)
  have HB2 : Hid (Below w0.heap.size w0 w2) := Below.onto (Below.onto (Below.onto HB0.out HB1.out) hbB) hb2
  have HBo : Hid (Both w2 o p b w2.heap.size 10 2 fun _ => []) := ⟨(HK1.out.below hbB).below hb2, hrx, fun g hg => by have h1 := (HO.out g hg).2; have h2 := hb2.size; exact ⟨by omega, by omega, by omega⟩⟩
  have HX : Hid ((Boxed w2 w0.heap.size 3 (.int .i64 (mo : Int)) ∧ Boxed w2 (w0.heap.size + 1) 4 (.bool d) ∧ Boxed w2 w1.heap.size 23 o.ptr) ∧ w1.heap.size < w2.heap.size ∧ w0.heap.size + 1 < w1.heap.size) := by
    obtain ⟨h4, h5, h6⟩ := HBX.out
    have g1 := Below.onto (Below.onto HB1.out hbB) hb2
    have g2 := hb2.size
    have g3 := HB1.out.size
    exact ⟨⟨(g1.block _ h4.lt).trans h4, (g1.block _ h5.lt).trans h5, (hb2.block _ b7.lt).trans b7⟩, by omega, by omega⟩
  have HN : Hid (∀ g, o.or b g → w0.heap.size ≤ g ∧ g ≠ w0.heap.size ∧ g ≠ w0.heap.size + 1 ∧ g ≠ w1.heap.size) := by
    have h6 := HBX.out.2.2
    have h7 := HB1.out.size
    rintro g (hg | rfl)
    · have := HO.out g hg; exact ⟨by omega, by omega, by omega, by omega⟩
    · exact ⟨by omega, by omega, by omega, by omega⟩
  clear hrx hb2 hp hb hbu hbB b7 hz1 HO HK1 HB1 HBX HB0
  have c7 := HX.out.1.2.2.cell
  generalize w1.heap.size = B7 at *
  generalize w2.heap.size = BB at *
  go_wp2_with fail
  go_loopw [11] (fun vi wr => ∃ i : Nat, i ≤ 60 ∧ i ≤ len ∧ vi = .int .i64 i ∧ Hid (Below w0.heap.size w0 wr) ∧ Hid (∃ R, Both wr o p b BB 10 2 R) ∧ Hid (Boxed wr w0.heap.size 3 (.int .i64 (mo : Int)) ∧ Boxed wr (w0.heap.size + 1) 4 (.bool d) ∧ Boxed wr B7 23 o.ptr)) (fun vi _ => 60 - (intOf vi).toNat)
  case atStart => exact ⟨0, by omega, by omega, rfl, HB2.out, ⟨_, HBo.out⟩, HX.out.1⟩
  case round =>
    clear c7 HB2 HBo
    obtain ⟨i, hi6, hil, rfl, hbel, HR, HY⟩ := hrel
    by_cases hgo : i < len ∧ i < 60
    · obtain ⟨hg1, hg2⟩ := hgo
      obtain ⟨bb, off, rfl, q0, q1, q2⟩ := HS.out.1 i hg1
      have hbb := cell_lt q0
      have no1 : ¬ o.or b bb := fun h => by have := HN.out bb h; omega
      have no7 : ¬ o.or b B7 := fun h => (HN.out B7 h).2.2.2 rfl
      obtain ⟨R, hR⟩ := HR.out
      have HD : Hid (Both wr.drew o p b BB 10 2 R) := hR.below ((Below.refl _ wr).drew)
      have c0 : wr.drew.cell? ⟨bb, off + i * 3, none⟩ = some (.int .i64 (K i)) := (hbel.out.cell (p := ⟨bb, off + i * 3, none⟩) hbb).trans q0
      have c1 : wr.drew.cell? ⟨bb, off + i * 3 + 1, none⟩ = some (.int .i64 (I i)) := (hbel.out.cell (p := ⟨bb, off + i * 3 + 1, none⟩) hbb).trans q1
      have c2 : wr.drew.cell? ⟨bb, off + i * 3 + 2, none⟩ = some (.int .i64 (X i)) := (hbel.out.cell (p := ⟨bb, off + i * 3 + 2, none⟩) hbb).trans q2
      have c7 : wr.drew.cell? ⟨B7, 0, none⟩ = some o.ptr := HY.out.2.2.cell
      have hcall := do_k o p b BB 10 2 R (K i) (I i) (X i) _ HD.out
      clear hR HR q0 q1 q2
      go_wp2_with fail
      go_region_held3 (fun W => W.cell? ⟨B7, 0, none⟩ = some o.ptr ∧ W.cell? ⟨bb, off + i * 3, none⟩ = some (.int .i64 (K i)) ∧ W.cell? ⟨bb, off + i * 3 + 1, none⟩ = some (.int .i64 (I i)) ∧ W.cell? ⟨bb, off + i * 3 + 2, none⟩ = some (.int .i64 (X i))) (first | assumption | exact ⟨c7, c0, c1, c2⟩ | exact ⟨d7, d0, d1, d2⟩) (first
        | (go_at_call 11; (with_reducible refine hcall.mono ?_); rintro e w3 ⟨rfl, ⟨R', hB3⟩, hb3⟩; have d7 := hb3.cell c7 no7; have d0 := hb3.cell c0 no1; have d1 := hb3.cell c1 no1; have d2 := hb3.cell c2 no1))
      have HB3 : Hid (∃ R, Both w3 o p b BB 10 2 R) := ⟨R', hB3⟩
      have hbD : Below w0.heap.size w0 wr.drew := hbel.out.drew
      have HL3 : Hid (Below w0.heap.size w0 w3) := hbD.trans (hb3.below hbD.size fun g hg => (HN.out g hg).1)
      have HY3 : Hid (Boxed w3 w0.heap.size 3 (.int .i64 (mo : Int)) ∧ Boxed w3 (w0.heap.size + 1) 4 (.bool d) ∧ Boxed w3 B7 23 o.ptr) :=
        ⟨(hb3.block _ HY.out.1.lt (fun h => (HN.out _ h).2.1 rfl)).trans HY.out.1, (hb3.block _ HY.out.2.1.lt (fun h => (HN.out _ h).2.2.1 rfl)).trans HY.out.2.1, (hb3.block _ HY.out.2.2.lt no7).trans HY.out.2.2⟩
      clear hcall hB3 hb3 c0 c1 c2 c7 d0 d1 d2 d7 HD hbD
      go_wp2_with fail
      go_roundw
      case rel => exact ⟨i + 1, by omega, by omega, by go_num, HL3.out, HB3.out, HY3.out⟩
      case measure => simp [intOf]; omega
    · have HD : Hid (i = len ∨ (i < len ∧ i = 60)) := by show i = len ∨ (i < len ∧ i = 60); omega
      clear hgo
      obtain ⟨R, hR⟩ := HR.out
      have HBo : Hid (Both wr o p b BB 10 2 R) := hR
      obtain ⟨r, hr⟩ : ∃ r, R 0 = r := ⟨_, rfl⟩
      have hra := rall_k p b BB 10 2 R 0 wr hR.rx
      rw [show rowR 2 R 0 = r from hr ▸ (by have h : inR 2 (0 : Int) = true := by decide
                                            simp [rowR, h])] at hra
      have HLB : Hid (BB ≤ wr.heap.size ∧ r.length ≤ 10 ∧ ∀ g, o.has g → g < BB) := ⟨hR.rx.lt.2.2, hr ▸ (hR.kv.len (k := 0) (by omega)).1, fun g hg => (hR.ap g hg).2.2⟩
      have HRR : Hid (R 0 = r) := hr
      clear hR HR hr
      rcases HD.out with rfl | ⟨hx9, rfl⟩
      all_goals
        clear HD
        go_wp2_with fail
        refine hra.mono ?_
        rintro e w3 ⟨⟨v, rfl, hown⟩, e1⟩
        subst e1
        obtain ⟨a3, cap3, rfl, hcells, hge⟩ := cells_of_own hown (k := .i64) (z := atL r) (fun j hj => encL_at2 hj)
        have HRM : Hid (r.length ≤ cap3 ∧ (a3 = none → r.length = 0 ∧ cap3 = 0)) := own_room hown
        have HC3 : Hid (Cells w3 .i64 a3 r.length (atL r)) := hcells
        have HG3 : Hid (∀ b o p, a3 = some ⟨b, o, p⟩ → BB ≤ b) := hge
        have c4 := HY.out.1.cell
        have hbs : But (fun g => g = w0.heap.size) w3 w3 := But.refl _ w3
        have y4 := HY.out.1
        have c7 := HY.out.2.2.cell
        clear hcells hge hown hra
        go_wp2_with fail
        have HL4 : Hid (Below w0.heap.size w0 w3) := hbel.out.trans (hbs.below hbel.out.size (fun k e => by omega))
        have HK4 : Hid (Kv w3 o 10 2 R) := HBo.out.kv.but hbs (fun g hg e => (HN.out g (.inl hg)).2.1 e)
        have HC4 : Hid (Cells w3 .i64 a3 r.length (atL r)) := fun j hj => by
          obtain ⟨b', off, e, hc⟩ := HC3.out j hj
          have h1 := HG3.out b' off none e
          have h2 := HX.out.2
          exact ⟨b', off, e, hbs.cell hc (by omega)⟩
        have HY4 : Hid (Boxed w3 w0.heap.size 3 (.int .i64 (mo : Int)) ∧ Boxed w3 (w0.heap.size + 1) 4 (.bool d) ∧ Boxed w3 B7 23 o.ptr) := ⟨y4, (hbs.block _ HY.out.2.1.lt (by omega)).trans HY.out.2.1, (hbs.block _ HY.out.2.2.lt (by have := HX.out.2.2; omega)).trans HY.out.2.2⟩
        have HSZ : Hid (BB ≤ w3.heap.size) := Nat.le_trans HLB.out.1 hbs.size
        clear hbs y4 c4 c7
        have hnil := eql_tell_nil w3.heap.size (w3.heap.size + 1) (w3.heap.size + 1 + 1)
        refine (all_k (some ⟨o.p, 0, none⟩) 0 w3).mono ?_
        rintro e w5 ⟨rfl, hw5⟩
        obtain ⟨hB5, x1, x2, x3, hz5⟩ := boxes3 hw5
        clear hw5
        have hB6 : Below w3.heap.size w3 (w5.alloc (.cells #[.slice none 0 0] 36)) := hB5.alloc hB5.size _
        have HB6 : Hid (Below w3.heap.size w3 (w5.alloc (.cells #[.slice none 0 0] 36)) ∧ w3.heap.size ≤ w5.heap.size ∧ (w5.alloc (.cells #[.slice none 0 0] 36)).heap.size = w5.heap.size + 1) := ⟨hB6, hB5.size, by simp⟩
        have HBS : Hid (Bxs (w5.alloc (.cells #[.slice none 0 0] 36)) w5.heap.size (w0.heap.size + 1) B7 w0.heap.size d ((mo : Nat) : Int) o (w5.alloc (.cells #[.slice none 0 0] 36)).heap.size) := by
          obtain ⟨g1, g2, g3⟩ := HB6.out
          have g4 := HSZ.out
          have g5 := HX.out.2
          have g6 := HLB.out.2.2
          have g7 : ∀ g, o.has g → _ := fun g hg => HN.out g (.inl hg)
          exact ⟨(g1.block _ HY4.out.2.1.lt).trans HY4.out.2.1, (g1.block _ HY4.out.2.2.lt).trans HY4.out.2.2, (g1.block _ HY4.out.1.lt).trans HY4.out.1, ⟨by omega, fun h => (g7 _ h).2.2.1 rfl, by omega⟩, ⟨by omega, fun h => (g7 _ h).2.2.2 rfl, by omega⟩, ⟨by omega, fun h => (g7 _ h).2.1 rfl, by omega⟩, ⟨fun h => by have := g6 _ h; omega, by omega⟩, fun g hg => by have := g6 g hg; omega⟩
        have hcall := tell_stops w5.heap.size (w0.heap.size + 1) B7 w0.heap.size w3.heap.size (w3.heap.size + 1) (w3.heap.size + 1 + 1) d mo (by omega) o 10 2 R 0 (by omega) (by omega) r HRR.out (w5.alloc (.cells #[.slice none 0 0] 36)) (x1.alloc _) (x2.alloc _) (x3.alloc _) (HK4.out.below hB6) (Boxed.new w5 _ _) HBS.out
        clear hB5 x1 x2 x3 hz5 hB6
        go_wp2_with fail
        refine hcall.mono ?_
        rintro e w7 ⟨rfl, v, R7, hv, hown, hkv, hR7, hbut⟩
        clear hnil hcall
        have HBX7 : Hid (Boxed w7 w0.heap.size 3 (.int .i64 (mo : Int)) ∧ Boxed w7 (w0.heap.size + 1) 4 (.bool d) ∧ Boxed w7 B7 23 o.ptr) := by
          have h := HBS.out.but (hbut.mono fun i h => h.elim .inl fun h => .inr (.inl h))
          exact ⟨h.b4, h.b5, h.b7⟩
        have HL7 : Hid (Below w0.heap.size w0 w7) := by
          have h1 := HL4.out.trans (HB6.out.1.mono HL4.out.size)
          refine h1.trans (hbut.below h1.size ?_)
          have h2 := HL4.out.size
          have h3 := HB6.out.2.1
          rintro g (e | hg)
          · omega
          · exact (HN.out g (.inl hg)).1
        have HC7 : Hid (Cells w7 .i64 a3 r.length (atL r)) := fun j hj => by
          obtain ⟨b', off, e, hc⟩ := HC4.out j hj
          have h1 := HG3.out b' off none e
          have h2 := cell_lt hc
          have h3 := HB6.out.2.1
          refine ⟨b', off, e, hbut.cell ((HB6.out.1.cell (p := ⟨b', off + j, none⟩) h2).trans hc) ?_⟩
          rintro (e | hg)
          · omega
          · have := HLB.out.2.2 b' hg; omega
        have c4 := HBX7.out.1.cell
        have hl10 := HLB.out.2.1
        have HV : Hid (Boxed w7 w5.heap.size 36 v) := hv
        have HKV : Hid (Kv w7 o 10 2 R7) := hkv
        clear hv hkv hbut
        rcases Nat.lt_or_ge mo r.length with hlt | hle
        · cases a3 with
          | none => exact absurd (HRM.out.2 rfl).1 (by omega)
          | some ad =>
            rw [show min r.length mo = mo from by omega] at hown hR7
            obtain ⟨a7, cap7, rfl, hc7, _⟩ := cells_of_own hown (k := .i64) (z := atL (r.take mo)) (fun j hj => encL_at2 (by rw [List.length_take]; omega))
            have HR7 : Hid (R7 0 = leftL d r mo) := hR7
            have hsame := rsame5_true a7 (some ad) mo cap7 cap3 _ _ w7.drew (by omega) (hc7.below ((Below.refl _ w7).drew)) ((show Cells w7 .i64 (some ad) mo (atL r) from fun j hj => HC7.out j (by omega)).below ((Below.refl _ w7).drew)) (fun j hj => take_at (r := r) hj)
            have cq : w7.drew.cell? ⟨w5.heap.size, 0, none⟩ = some (.slice a7 mo cap7) := HV.out.cell
            have hcap : mo ≤ cap3 := by have := HRM.out.1; omega
            have hca1 : (mo : Int) ≤ (cap3 : Int) := by omega
            have hca2 : (0 : Int) ≤ (mo : Int) := by omega
            clear hown hc7 hR7
            go_wp2_with fail
            go_region_held3 (fun W => W.cell? ⟨w5.heap.size, 0, none⟩ = some (.slice a7 mo cap7)) (first | assumption | exact cq | exact dq) (first
              | (go_at_call 17; (with_reducible refine hsame.mono ?_); rintro e w8 ⟨rfl, hb8⟩; have dq := (hb8.cell (p := ⟨w5.heap.size, 0, none⟩) (cell_lt cq)).trans cq))
            have hb78 : Below w7.heap.size w7 w8 := Below.onto ((Below.refl _ w7).drew) hb8
            have c5 := (show Boxed w8 _ _ _ from (hb78.block _ HBX7.out.2.1.lt).trans HBX7.out.2.1).cell
            have c7 := (show Boxed w8 _ _ _ from (hb78.block _ HBX7.out.2.2.lt).trans HBX7.out.2.2).cell
            have HL8 : Hid (Below w0.heap.size w0 w8) := HL7.out.trans (hb78.mono HL7.out.size)
            have hlen8 := klen_k o 10 2 R7 0 w8 (HKV.out.below hb78)
            rw [len_left HR7.out] at hlen8
            clear hb8 hb78 dq cq hsame c4
            cases d
            · rw [show ((leftL false r mo).length : Int) = (r.length : Int) from rfl] at hlen8
              go_wp2_with fail
              refine hlen8.mono ?_
              rintro e w9 ⟨rfl, e9⟩
              subst e9
              go_wp2_with fail
              refine (alive_k _).mono ?_
              rintro e w10 ⟨rfl, hb10⟩
              go_wp2_with fail
              go_ret
              exact ⟨rfl, HL8.out.trans (hb10.mono HL8.out.size)⟩
            · rw [show ((leftL true r mo).length : Int) = (r.length : Int) - (mo : Int) from by rw [lenT]; omega] at hlen8
              go_wp2_with fail
              refine hlen8.mono ?_
              rintro e w9 ⟨rfl, e9⟩
              subst e9
              go_wp2_with fail
              refine (alive_k _).mono ?_
              rintro e w10 ⟨rfl, hb10⟩
              go_wp2_with fail
              go_ret
              exact ⟨rfl, HL8.out.trans (hb10.mono HL8.out.size)⟩
        · cases a3 with
          | none =>
            obtain ⟨hz, hz2⟩ := HRM.out.2 rfl
            subst hz2
            rw [show min r.length mo = 0 from by omega] at hown hR7
            obtain ⟨a7, cap7, rfl, hc7, _⟩ := cells_of_own hown (k := .i64) (z := atL (r.take 0)) (fun j hj => encL_at2 (by rw [List.length_take]; omega))
            have HR7 : Hid (R7 0 = leftL d r 0) := hR7
            have hsame := rsame5_true a7 none 0 cap7 0 _ _ w7.drew (by omega) (hc7.below ((Below.refl _ w7).drew)) ((show Cells w7 .i64 none 0 (atL r) from fun j hj => HC7.out j (by omega)).below ((Below.refl _ w7).drew)) (fun j hj => take_at (r := r) hj)
            have cq : w7.drew.cell? ⟨w5.heap.size, 0, none⟩ = some (.slice a7 0 cap7) := HV.out.cell
            clear hown hc7 hR7
            go_wp2_with fail
            go_region_held3 (fun W => W.cell? ⟨w5.heap.size, 0, none⟩ = some (.slice a7 0 cap7)) (first | assumption | exact cq | exact dq) (first
              | (go_at_call 17; (with_reducible refine hsame.mono ?_); rintro e w8 ⟨rfl, hb8⟩; have dq := (hb8.cell (p := ⟨w5.heap.size, 0, none⟩) (cell_lt cq)).trans cq))
            have hb78 : Below w7.heap.size w7 w8 := Below.onto ((Below.refl _ w7).drew) hb8
            have c5 := (show Boxed w8 _ _ _ from (hb78.block _ HBX7.out.2.1.lt).trans HBX7.out.2.1).cell
            have c7 := (show Boxed w8 _ _ _ from (hb78.block _ HBX7.out.2.2.lt).trans HBX7.out.2.2).cell
            have HL8 : Hid (Below w0.heap.size w0 w8) := HL7.out.trans (hb78.mono HL7.out.size)
            have hlen8 := klen_k o 10 2 R7 0 w8 (HKV.out.below hb78)
            rw [len_left HR7.out] at hlen8
            clear hb8 hb78 dq cq hsame c4
            cases d
            · rw [show ((leftL false r 0).length : Int) = (r.length : Int) from rfl] at hlen8
              go_wp2_with fail
              refine hlen8.mono ?_
              rintro e w9 ⟨rfl, e9⟩
              subst e9
              go_wp2_with fail
              refine (alive_k _).mono ?_
              rintro e w10 ⟨rfl, hb10⟩
              go_wp2_with fail
              go_ret
              exact ⟨rfl, HL8.out.trans (hb10.mono HL8.out.size)⟩
            · rw [show ((leftL true r 0).length : Int) = 0 from by rw [lenT]; omega] at hlen8
              go_wp2_with fail
              refine hlen8.mono ?_
              rintro e w9 ⟨rfl, e9⟩
              subst e9
              go_wp2_with fail
              refine (alive_k _).mono ?_
              rintro e w10 ⟨rfl, hb10⟩
              go_wp2_with fail
              go_ret
              exact ⟨rfl, HL8.out.trans (hb10.mono HL8.out.size)⟩
          | some ad =>
            rw [show min r.length mo = r.length from by omega] at hown hR7
            obtain ⟨a7, cap7, rfl, hc7, _⟩ := cells_of_own hown (k := .i64) (z := atL (r.take r.length)) (fun j hj => encL_at2 (by rw [List.length_take]; omega))
            have HR7 : Hid (R7 0 = leftL d r r.length) := hR7
            have hsame := rsame5_true a7 (some ad) r.length cap7 cap3 _ _ w7.drew (by omega) (hc7.below ((Below.refl _ w7).drew)) ((show Cells w7 .i64 (some ad) r.length (atL r) from fun j hj => HC7.out j (by omega)).below ((Below.refl _ w7).drew)) (fun j hj => take_at (r := r) hj)
            have cq : w7.drew.cell? ⟨w5.heap.size, 0, none⟩ = some (.slice a7 r.length cap7) := HV.out.cell
            have hcap := HRM.out.1
            clear hown hc7 hR7
            go_wp2_with fail
            go_region_held3 (fun W => W.cell? ⟨w5.heap.size, 0, none⟩ = some (.slice a7 r.length cap7)) (first | assumption | exact cq | exact dq) (first
              | (go_at_call 17; (with_reducible refine hsame.mono ?_); rintro e w8 ⟨rfl, hb8⟩; have dq := (hb8.cell (p := ⟨w5.heap.size, 0, none⟩) (cell_lt cq)).trans cq))
            have hb78 : Below w7.heap.size w7 w8 := Below.onto ((Below.refl _ w7).drew) hb8
            have c5 := (show Boxed w8 _ _ _ from (hb78.block _ HBX7.out.2.1.lt).trans HBX7.out.2.1).cell
            have c7 := (show Boxed w8 _ _ _ from (hb78.block _ HBX7.out.2.2.lt).trans HBX7.out.2.2).cell
            have HL8 : Hid (Below w0.heap.size w0 w8) := HL7.out.trans (hb78.mono HL7.out.size)
            have hlen8 := klen_k o 10 2 R7 0 w8 (HKV.out.below hb78)
            rw [len_left HR7.out] at hlen8
            clear hb8 hb78 dq cq hsame c4
            cases d
            · rw [show ((leftL false r r.length).length : Int) = (r.length : Int) from rfl] at hlen8
              go_wp2_with fail
              refine hlen8.mono ?_
              rintro e w9 ⟨rfl, e9⟩
              subst e9
              go_wp2_with fail
              refine (alive_k _).mono ?_
              rintro e w10 ⟨rfl, hb10⟩
              go_wp2_with fail
              go_ret
              exact ⟨rfl, HL8.out.trans (hb10.mono HL8.out.size)⟩
            · rw [show ((leftL true r r.length).length : Int) = 0 from by rw [lenT]; omega] at hlen8
              go_wp2_with fail
              refine hlen8.mono ?_
              rintro e w9 ⟨rfl, e9⟩
              subst e9
              go_wp2_with fail
              refine (alive_k _).mono ?_
              rintro e w10 ⟨rfl, hb10⟩
              go_wp2_with fail
              go_ret
              exact ⟨rfl, HL8.out.trans (hb10.mono HL8.out.size)⟩
set_option maxRecDepth 100000 in
set_option maxHeartbeats 4000000 in
theorem walkA (a : Option Addr) (len cap : Nat) (K I X : Nat → Int) (most : Int) (d : Bool) (w0 : World) (hS : ORow w0 a len cap K I X) (h1 : most < 1) :
    Calls Try.prog 4 #[.slice a len cap, .int .i64 most, .bool d] w0 fun e w' => e = .returned (.bool true) ∧ Below w0.heap.size w0 w' := by
  have HS : Hid (ORow w0 a len cap K I X) := hS
  have hlen : len ≤ 9223372036854775807 := by have h1 := hS.2.1; have h2 := hS.2.2; unfold maxLen at h2; omega
  clear hS
  have hb0 : Below w0.heap.size w0 ((w0.alloc (.cells #[.int .i64 most] 3)).alloc (.cells #[.bool d] 4)) := ((Below.refl _ w0).alloc (Nat.le_refl _) _).alloc (by simp) _
  have b4 : Boxed ((w0.alloc (.cells #[.int .i64 most] 3)).alloc (.cells #[.bool d] 4)) w0.heap.size 3 (.int .i64 most) := (Boxed.new w0 _ _).alloc _
  have b5 : Boxed ((w0.alloc (.cells #[.int .i64 most] 3)).alloc (.cells #[.bool d] 4)) (w0.heap.size + 1) 4 (.bool d) := by
    have := Boxed.new (w0.alloc (.cells #[.int .i64 most] 3)) 4 (.bool d)
    rwa [World.size_alloc] at this
  have hz0 : ((w0.alloc (.cells #[.int .i64 most] 3)).alloc (.cells #[.bool d] 4)).heap.size = w0.heap.size + 1 + 1 := by simp
  go_enter Try.func4, Try.ntmps4
  go_wp2_with fail
  generalize (w0.alloc (.cells #[.int .i64 most] 3)).alloc (.cells #[.bool d] 4) = W0 at *
  have HB0 : Hid (Below w0.heap.size w0 W0) := hb0
  have HBX : Hid (Boxed W0 w0.heap.size 3 (.int .i64 most) ∧ Boxed W0 (w0.heap.size + 1) 4 (.bool d) ∧ W0.heap.size = w0.heap.size + 1 + 1) := ⟨b4, b5, hz0⟩
  clear hb0 b4 b5 hz0
  refine (new_k 10 2 W0 (by omega) (by omega)).mono ?_
  rintro e w1 ⟨o, rfl, hk1, hb1, ho⟩
  have HO : Hid (∀ b, o.has b → W0.heap.size ≤ b ∧ b < w1.heap.size) := fun b hb => ⟨ho b hb, hk1.lt b hb⟩
  have HK1 : Hid (Kv w1 o 10 2 fun _ => []) := hk1
  have HB1 : Hid (Below W0.heap.size W0 w1) := hb1
  have b7 : Boxed (w1.alloc (.cells #[.pointer (some ⟨o.p, 0, none⟩)] 23)) w1.heap.size 23 o.ptr := Boxed.new w1 _ _
  have hbu : But (fun _ => False) w1 (w1.alloc (.cells #[.pointer (some ⟨o.p, 0, none⟩)] 23)) := (But.refl _ w1).alloc _
  have hz1 : (w1.alloc (.cells #[.pointer (some ⟨o.p, 0, none⟩)] 23)).heap.size = w1.heap.size + 1 := by simp
  clear ho hk1 hb1
  go_wp2_with fail
  generalize w1.alloc (.cells #[.pointer (some ⟨o.p, 0, none⟩)] 23) = W1 at *
  refine (rnew_k 10 2 W1 (by omega) (by omega)).mono ?_
  rintro e w2 ⟨p, b, rfl, hrx, hb2, hp, hb⟩
  have hbB : Below w1.heap.size w1 W1 := hbu.below (Nat.le_refl _) (fun _ h => h.elim)
  have HB2 : Hid (Below w0.heap.size w0 w2) := Below.onto (Below.onto (Below.onto HB0.out HB1.out) hbB) hb2
  have HBo : Hid (Both w2 o p b w2.heap.size 10 2 fun _ => []) := ⟨(HK1.out.below hbB).below hb2, hrx, fun g hg => by have h1 := (HO.out g hg).2; have h2 := hb2.size; exact ⟨by omega, by omega, by omega⟩⟩
  have HX : Hid ((Boxed w2 w0.heap.size 3 (.int .i64 most) ∧ Boxed w2 (w0.heap.size + 1) 4 (.bool d) ∧ Boxed w2 w1.heap.size 23 o.ptr) ∧ w1.heap.size < w2.heap.size ∧ w0.heap.size + 1 < w1.heap.size) := by
    obtain ⟨h4, h5, h6⟩ := HBX.out
    have g1 := Below.onto (Below.onto HB1.out hbB) hb2
    have g2 := hb2.size
    have g3 := HB1.out.size
    exact ⟨⟨(g1.block _ h4.lt).trans h4, (g1.block _ h5.lt).trans h5, (hb2.block _ b7.lt).trans b7⟩, by omega, by omega⟩
  have HN : Hid (∀ g, o.or b g → w0.heap.size ≤ g ∧ g ≠ w0.heap.size ∧ g ≠ w0.heap.size + 1 ∧ g ≠ w1.heap.size) := by
    have h6 := HBX.out.2.2
    have h7 := HB1.out.size
    rintro g (hg | rfl)
    · have := HO.out g hg; exact ⟨by omega, by omega, by omega, by omega⟩
    · exact ⟨by omega, by omega, by omega, by omega⟩
  clear hrx hb2 hp hb hbu hbB b7 hz1 HO HK1 HB1 HBX HB0
  have c7 := HX.out.1.2.2.cell
  generalize w1.heap.size = B7 at *
  generalize w2.heap.size = BB at *
  go_wp2_with fail
  go_loopw [11] (fun vi wr => ∃ i : Nat, i ≤ 60 ∧ i ≤ len ∧ vi = .int .i64 i ∧ Hid (Below w0.heap.size w0 wr) ∧ Hid (∃ R, Both wr o p b BB 10 2 R) ∧ Hid (Boxed wr w0.heap.size 3 (.int .i64 most) ∧ Boxed wr (w0.heap.size + 1) 4 (.bool d) ∧ Boxed wr B7 23 o.ptr)) (fun vi _ => 60 - (intOf vi).toNat)
  case atStart => exact ⟨0, by omega, by omega, rfl, HB2.out, ⟨_, HBo.out⟩, HX.out.1⟩
  case round =>
    clear c7 HB2 HBo
    obtain ⟨i, hi6, hil, rfl, hbel, HR, HY⟩ := hrel
    by_cases hgo : i < len ∧ i < 60
    · obtain ⟨hg1, hg2⟩ := hgo
      obtain ⟨bb, off, rfl, q0, q1, q2⟩ := HS.out.1 i hg1
      have hbb := cell_lt q0
      have no1 : ¬ o.or b bb := fun h => by have := HN.out bb h; omega
      have no7 : ¬ o.or b B7 := fun h => (HN.out B7 h).2.2.2 rfl
      obtain ⟨R, hR⟩ := HR.out
      have HD : Hid (Both wr.drew o p b BB 10 2 R) := hR.below ((Below.refl _ wr).drew)
      have c0 : wr.drew.cell? ⟨bb, off + i * 3, none⟩ = some (.int .i64 (K i)) := (hbel.out.cell (p := ⟨bb, off + i * 3, none⟩) hbb).trans q0
      have c1 : wr.drew.cell? ⟨bb, off + i * 3 + 1, none⟩ = some (.int .i64 (I i)) := (hbel.out.cell (p := ⟨bb, off + i * 3 + 1, none⟩) hbb).trans q1
      have c2 : wr.drew.cell? ⟨bb, off + i * 3 + 2, none⟩ = some (.int .i64 (X i)) := (hbel.out.cell (p := ⟨bb, off + i * 3 + 2, none⟩) hbb).trans q2
      have c7 : wr.drew.cell? ⟨B7, 0, none⟩ = some o.ptr := HY.out.2.2.cell
      have hcall := do_k o p b BB 10 2 R (K i) (I i) (X i) _ HD.out
      clear hR HR q0 q1 q2
      go_wp2_with fail
      go_region_held3 (fun W => W.cell? ⟨B7, 0, none⟩ = some o.ptr ∧ W.cell? ⟨bb, off + i * 3, none⟩ = some (.int .i64 (K i)) ∧ W.cell? ⟨bb, off + i * 3 + 1, none⟩ = some (.int .i64 (I i)) ∧ W.cell? ⟨bb, off + i * 3 + 2, none⟩ = some (.int .i64 (X i))) (first | assumption | exact ⟨c7, c0, c1, c2⟩ | exact ⟨d7, d0, d1, d2⟩) (first
        | (go_at_call 11; (with_reducible refine hcall.mono ?_); rintro e w3 ⟨rfl, ⟨R', hB3⟩, hb3⟩; have d7 := hb3.cell c7 no7; have d0 := hb3.cell c0 no1; have d1 := hb3.cell c1 no1; have d2 := hb3.cell c2 no1))
      have HB3 : Hid (∃ R, Both w3 o p b BB 10 2 R) := ⟨R', hB3⟩
      have hbD : Below w0.heap.size w0 wr.drew := hbel.out.drew
      have HL3 : Hid (Below w0.heap.size w0 w3) := hbD.trans (hb3.below hbD.size fun g hg => (HN.out g hg).1)
      have HY3 : Hid (Boxed w3 w0.heap.size 3 (.int .i64 most) ∧ Boxed w3 (w0.heap.size + 1) 4 (.bool d) ∧ Boxed w3 B7 23 o.ptr) :=
        ⟨(hb3.block _ HY.out.1.lt (fun h => (HN.out _ h).2.1 rfl)).trans HY.out.1, (hb3.block _ HY.out.2.1.lt (fun h => (HN.out _ h).2.2.1 rfl)).trans HY.out.2.1, (hb3.block _ HY.out.2.2.lt no7).trans HY.out.2.2⟩
      clear hcall hB3 hb3 c0 c1 c2 c7 d0 d1 d2 d7 HD hbD
      go_wp2_with fail
      go_roundw
      case rel => exact ⟨i + 1, by omega, by omega, by go_num, HL3.out, HB3.out, HY3.out⟩
      case measure => simp [intOf]; omega
    · have HD : Hid (i = len ∨ (i < len ∧ i = 60)) := by show i = len ∨ (i < len ∧ i = 60); omega
      clear hgo
      obtain ⟨R, hR⟩ := HR.out
      have HBo : Hid (Both wr o p b BB 10 2 R) := hR
      obtain ⟨r, hr⟩ : ∃ r, R 0 = r := ⟨_, rfl⟩
      have hra := rall_k p b BB 10 2 R 0 wr hR.rx
      rw [show rowR 2 R 0 = r from hr ▸ (by have h : inR 2 (0 : Int) = true := by decide
                                            simp [rowR, h])] at hra
      have HLB : Hid (BB ≤ wr.heap.size ∧ r.length ≤ 10 ∧ ∀ g, o.has g → g < BB) := ⟨hR.rx.lt.2.2, hr ▸ (hR.kv.len (k := 0) (by omega)).1, fun g hg => (hR.ap g hg).2.2⟩
      have HRR : Hid (R 0 = r) := hr
      clear hR HR hr
      rcases HD.out with rfl | ⟨hx9, rfl⟩
      all_goals
        clear HD
        go_wp2_with fail
        refine hra.mono ?_
        rintro e w3 ⟨⟨v, rfl, hown⟩, e1⟩
        subst e1
        obtain ⟨a3, cap3, rfl, hcells, hge⟩ := cells_of_own hown (k := .i64) (z := atL r) (fun j hj => encL_at2 hj)
        have HRM : Hid (r.length ≤ cap3 ∧ (a3 = none → r.length = 0 ∧ cap3 = 0)) := own_room hown
        have HC3 : Hid (Cells w3 .i64 a3 r.length (atL r)) := hcells
        have HG3 : Hid (∀ b o p, a3 = some ⟨b, o, p⟩ → BB ≤ b) := hge
        have c4 := HY.out.1.cell
        have f4 := HY.out.1.frozen
        have hbs : But (fun g => g = w0.heap.size) w3 (w3.setCell ⟨w0.heap.size, 0, none⟩ (.int .i64 10)) := (But.refl (fun g => g = w0.heap.size) w3).setCell (p := ⟨w0.heap.size, 0, none⟩) rfl _
        have y4 := HY.out.1.set (.int .i64 10)
        have c7 := hbs.cell HY.out.2.2.cell (by have := HX.out.2.2; omega)
        clear hcells hge hown hra
        go_wp2_with fail
        clear f4
        generalize w3.setCell ⟨w0.heap.size, 0, none⟩ (.int .i64 10) = w4 at *
        have HL4 : Hid (Below w0.heap.size w0 w4) := hbel.out.trans (hbs.below hbel.out.size (fun k e => by omega))
        have HK4 : Hid (Kv w4 o 10 2 R) := HBo.out.kv.but hbs (fun g hg e => (HN.out g (.inl hg)).2.1 e)
        have HC4 : Hid (Cells w4 .i64 a3 r.length (atL r)) := fun j hj => by
          obtain ⟨b', off, e, hc⟩ := HC3.out j hj
          have h1 := HG3.out b' off none e
          have h2 := HX.out.2
          exact ⟨b', off, e, hbs.cell hc (by omega)⟩
        have HY4 : Hid (Boxed w4 w0.heap.size 3 (.int .i64 10) ∧ Boxed w4 (w0.heap.size + 1) 4 (.bool d) ∧ Boxed w4 B7 23 o.ptr) := ⟨y4, (hbs.block _ HY.out.2.1.lt (by omega)).trans HY.out.2.1, (hbs.block _ HY.out.2.2.lt (by have := HX.out.2.2; omega)).trans HY.out.2.2⟩
        have HSZ : Hid (BB ≤ w4.heap.size) := Nat.le_trans HLB.out.1 hbs.size
        clear hbs y4 c4 c7
        have hnil := eql_tell_nil w4.heap.size (w4.heap.size + 1) (w4.heap.size + 1 + 1)
        refine (all_k (some ⟨o.p, 0, none⟩) 0 w4).mono ?_
        rintro e w5 ⟨rfl, hw5⟩
        obtain ⟨hB5, x1, x2, x3, hz5⟩ := boxes3 hw5
        clear hw5
        have hB6 : Below w4.heap.size w4 (w5.alloc (.cells #[.slice none 0 0] 36)) := hB5.alloc hB5.size _
        have HB6 : Hid (Below w4.heap.size w4 (w5.alloc (.cells #[.slice none 0 0] 36)) ∧ w4.heap.size ≤ w5.heap.size ∧ (w5.alloc (.cells #[.slice none 0 0] 36)).heap.size = w5.heap.size + 1) := ⟨hB6, hB5.size, by simp⟩
        have HBS : Hid (Bxs (w5.alloc (.cells #[.slice none 0 0] 36)) w5.heap.size (w0.heap.size + 1) B7 w0.heap.size d ((10 : Nat) : Int) o (w5.alloc (.cells #[.slice none 0 0] 36)).heap.size) := by
          obtain ⟨g1, g2, g3⟩ := HB6.out
          have g4 := HSZ.out
          have g5 := HX.out.2
          have g6 := HLB.out.2.2
          have g7 : ∀ g, o.has g → _ := fun g hg => HN.out g (.inl hg)
          exact ⟨(g1.block _ HY4.out.2.1.lt).trans HY4.out.2.1, (g1.block _ HY4.out.2.2.lt).trans HY4.out.2.2, (g1.block _ HY4.out.1.lt).trans HY4.out.1, ⟨by omega, fun h => (g7 _ h).2.2.1 rfl, by omega⟩, ⟨by omega, fun h => (g7 _ h).2.2.2 rfl, by omega⟩, ⟨by omega, fun h => (g7 _ h).2.1 rfl, by omega⟩, ⟨fun h => by have := g6 _ h; omega, by omega⟩, fun g hg => by have := g6 g hg; omega⟩
        have hcall := tell_stops w5.heap.size (w0.heap.size + 1) B7 w0.heap.size w4.heap.size (w4.heap.size + 1) (w4.heap.size + 1 + 1) d 10 (by omega) o 10 2 R 0 (by omega) (by omega) r HRR.out (w5.alloc (.cells #[.slice none 0 0] 36)) (x1.alloc _) (x2.alloc _) (x3.alloc _) (HK4.out.below hB6) (Boxed.new w5 _ _) HBS.out
        clear hB5 x1 x2 x3 hz5 hB6
        go_wp2_with fail
        refine hcall.mono ?_
        rintro e w7 ⟨rfl, v, R7, hv, hown, hkv, hR7, hbut⟩
        clear hnil hcall
        have HBX7 : Hid (Boxed w7 w0.heap.size 3 (.int .i64 10) ∧ Boxed w7 (w0.heap.size + 1) 4 (.bool d) ∧ Boxed w7 B7 23 o.ptr) := by
          have h := HBS.out.but (hbut.mono fun i h => h.elim .inl fun h => .inr (.inl h))
          exact ⟨h.b4, h.b5, h.b7⟩
        have HL7 : Hid (Below w0.heap.size w0 w7) := by
          have h1 := HL4.out.trans (HB6.out.1.mono HL4.out.size)
          refine h1.trans (hbut.below h1.size ?_)
          have h2 := HL4.out.size
          have h3 := HB6.out.2.1
          rintro g (e | hg)
          · omega
          · exact (HN.out g (.inl hg)).1
        have HC7 : Hid (Cells w7 .i64 a3 r.length (atL r)) := fun j hj => by
          obtain ⟨b', off, e, hc⟩ := HC4.out j hj
          have h1 := HG3.out b' off none e
          have h2 := cell_lt hc
          have h3 := HB6.out.2.1
          refine ⟨b', off, e, hbut.cell ((HB6.out.1.cell (p := ⟨b', off + j, none⟩) h2).trans hc) ?_⟩
          rintro (e | hg)
          · omega
          · have := HLB.out.2.2 b' hg; omega
        have c4 := HBX7.out.1.cell
        have hl10 := HLB.out.2.1
        have HV : Hid (Boxed w7 w5.heap.size 36 v) := hv
        have HKV : Hid (Kv w7 o 10 2 R7) := hkv
        clear hv hkv hbut
        rcases Nat.lt_or_ge 10 r.length with hlt | hle
        · cases a3 with
          | none => exact absurd (HRM.out.2 rfl).1 (by omega)
          | some ad =>
            rw [show min r.length 10 = 10 from by omega] at hown hR7
            obtain ⟨a7, cap7, rfl, hc7, _⟩ := cells_of_own hown (k := .i64) (z := atL (r.take 10)) (fun j hj => encL_at2 (by rw [List.length_take]; omega))
            have HR7 : Hid (R7 0 = leftL d r 10) := hR7
            have hsame := rsame5_true a7 (some ad) 10 cap7 cap3 _ _ w7.drew (by omega) (hc7.below ((Below.refl _ w7).drew)) ((show Cells w7 .i64 (some ad) 10 (atL r) from fun j hj => HC7.out j (by omega)).below ((Below.refl _ w7).drew)) (fun j hj => take_at (r := r) hj)
            have cq : w7.drew.cell? ⟨w5.heap.size, 0, none⟩ = some (.slice a7 10 cap7) := HV.out.cell
            have hcap : 10 ≤ cap3 := by have := HRM.out.1; omega
            have hca1 : 10 ≤ (cap3 : Int) := by omega
            have hca2 : (0 : Int) ≤ 10 := by omega
            clear hown hc7 hR7
            go_wp2_with fail
            go_region_held3 (fun W => W.cell? ⟨w5.heap.size, 0, none⟩ = some (.slice a7 10 cap7)) (first | assumption | exact cq | exact dq) (first
              | (go_at_call 17; (with_reducible refine hsame.mono ?_); rintro e w8 ⟨rfl, hb8⟩; have dq := (hb8.cell (p := ⟨w5.heap.size, 0, none⟩) (cell_lt cq)).trans cq))
            have hb78 : Below w7.heap.size w7 w8 := Below.onto ((Below.refl _ w7).drew) hb8
            have c5 := (show Boxed w8 _ _ _ from (hb78.block _ HBX7.out.2.1.lt).trans HBX7.out.2.1).cell
            have c7 := (show Boxed w8 _ _ _ from (hb78.block _ HBX7.out.2.2.lt).trans HBX7.out.2.2).cell
            have HL8 : Hid (Below w0.heap.size w0 w8) := HL7.out.trans (hb78.mono HL7.out.size)
            have hlen8 := klen_k o 10 2 R7 0 w8 (HKV.out.below hb78)
            rw [len_left HR7.out] at hlen8
            clear hb8 hb78 dq cq hsame c4
            cases d
            · rw [show ((leftL false r 10).length : Int) = (r.length : Int) from rfl] at hlen8
              go_wp2_with fail
              refine hlen8.mono ?_
              rintro e w9 ⟨rfl, e9⟩
              subst e9
              go_wp2_with fail
              refine (alive_k _).mono ?_
              rintro e w10 ⟨rfl, hb10⟩
              go_wp2_with fail
              go_ret
              exact ⟨rfl, HL8.out.trans (hb10.mono HL8.out.size)⟩
            · rw [show ((leftL true r 10).length : Int) = (r.length : Int) - 10 from by rw [lenT]; omega] at hlen8
              go_wp2_with fail
              refine hlen8.mono ?_
              rintro e w9 ⟨rfl, e9⟩
              subst e9
              go_wp2_with fail
              refine (alive_k _).mono ?_
              rintro e w10 ⟨rfl, hb10⟩
              go_wp2_with fail
              go_ret
              exact ⟨rfl, HL8.out.trans (hb10.mono HL8.out.size)⟩
        · cases a3 with
          | none =>
            obtain ⟨hz, hz2⟩ := HRM.out.2 rfl
            subst hz2
            rw [show min r.length 10 = 0 from by omega] at hown hR7
            obtain ⟨a7, cap7, rfl, hc7, _⟩ := cells_of_own hown (k := .i64) (z := atL (r.take 0)) (fun j hj => encL_at2 (by rw [List.length_take]; omega))
            have HR7 : Hid (R7 0 = leftL d r 0) := hR7
            have hsame := rsame5_true a7 none 0 cap7 0 _ _ w7.drew (by omega) (hc7.below ((Below.refl _ w7).drew)) ((show Cells w7 .i64 none 0 (atL r) from fun j hj => HC7.out j (by omega)).below ((Below.refl _ w7).drew)) (fun j hj => take_at (r := r) hj)
            have cq : w7.drew.cell? ⟨w5.heap.size, 0, none⟩ = some (.slice a7 0 cap7) := HV.out.cell
            clear hown hc7 hR7
            go_wp2_with fail
            go_region_held3 (fun W => W.cell? ⟨w5.heap.size, 0, none⟩ = some (.slice a7 0 cap7)) (first | assumption | exact cq | exact dq) (first
              | (go_at_call 17; (with_reducible refine hsame.mono ?_); rintro e w8 ⟨rfl, hb8⟩; have dq := (hb8.cell (p := ⟨w5.heap.size, 0, none⟩) (cell_lt cq)).trans cq))
            have hb78 : Below w7.heap.size w7 w8 := Below.onto ((Below.refl _ w7).drew) hb8
            have c5 := (show Boxed w8 _ _ _ from (hb78.block _ HBX7.out.2.1.lt).trans HBX7.out.2.1).cell
            have c7 := (show Boxed w8 _ _ _ from (hb78.block _ HBX7.out.2.2.lt).trans HBX7.out.2.2).cell
            have HL8 : Hid (Below w0.heap.size w0 w8) := HL7.out.trans (hb78.mono HL7.out.size)
            have hlen8 := klen_k o 10 2 R7 0 w8 (HKV.out.below hb78)
            rw [len_left HR7.out] at hlen8
            clear hb8 hb78 dq cq hsame c4
            cases d
            · rw [show ((leftL false r 0).length : Int) = (r.length : Int) from rfl] at hlen8
              go_wp2_with fail
              refine hlen8.mono ?_
              rintro e w9 ⟨rfl, e9⟩
              subst e9
              go_wp2_with fail
              refine (alive_k _).mono ?_
              rintro e w10 ⟨rfl, hb10⟩
              go_wp2_with fail
              go_ret
              exact ⟨rfl, HL8.out.trans (hb10.mono HL8.out.size)⟩
            · rw [show ((leftL true r 0).length : Int) = 0 from by rw [lenT]; omega] at hlen8
              go_wp2_with fail
              refine hlen8.mono ?_
              rintro e w9 ⟨rfl, e9⟩
              subst e9
              go_wp2_with fail
              refine (alive_k _).mono ?_
              rintro e w10 ⟨rfl, hb10⟩
              go_wp2_with fail
              go_ret
              exact ⟨rfl, HL8.out.trans (hb10.mono HL8.out.size)⟩
          | some ad =>
            rw [show min r.length 10 = r.length from by omega] at hown hR7
            obtain ⟨a7, cap7, rfl, hc7, _⟩ := cells_of_own hown (k := .i64) (z := atL (r.take r.length)) (fun j hj => encL_at2 (by rw [List.length_take]; omega))
            have HR7 : Hid (R7 0 = leftL d r r.length) := hR7
            have hsame := rsame5_true a7 (some ad) r.length cap7 cap3 _ _ w7.drew (by omega) (hc7.below ((Below.refl _ w7).drew)) ((show Cells w7 .i64 (some ad) r.length (atL r) from fun j hj => HC7.out j (by omega)).below ((Below.refl _ w7).drew)) (fun j hj => take_at (r := r) hj)
            have cq : w7.drew.cell? ⟨w5.heap.size, 0, none⟩ = some (.slice a7 r.length cap7) := HV.out.cell
            have hcap := HRM.out.1
            clear hown hc7 hR7
            go_wp2_with fail
            go_region_held3 (fun W => W.cell? ⟨w5.heap.size, 0, none⟩ = some (.slice a7 r.length cap7)) (first | assumption | exact cq | exact dq) (first
              | (go_at_call 17; (with_reducible refine hsame.mono ?_); rintro e w8 ⟨rfl, hb8⟩; have dq := (hb8.cell (p := ⟨w5.heap.size, 0, none⟩) (cell_lt cq)).trans cq))
            have hb78 : Below w7.heap.size w7 w8 := Below.onto ((Below.refl _ w7).drew) hb8
            have c5 := (show Boxed w8 _ _ _ from (hb78.block _ HBX7.out.2.1.lt).trans HBX7.out.2.1).cell
            have c7 := (show Boxed w8 _ _ _ from (hb78.block _ HBX7.out.2.2.lt).trans HBX7.out.2.2).cell
            have HL8 : Hid (Below w0.heap.size w0 w8) := HL7.out.trans (hb78.mono HL7.out.size)
            have hlen8 := klen_k o 10 2 R7 0 w8 (HKV.out.below hb78)
            rw [len_left HR7.out] at hlen8
            clear hb8 hb78 dq cq hsame c4
            cases d
            · rw [show ((leftL false r r.length).length : Int) = (r.length : Int) from rfl] at hlen8
              go_wp2_with fail
              refine hlen8.mono ?_
              rintro e w9 ⟨rfl, e9⟩
              subst e9
              go_wp2_with fail
              refine (alive_k _).mono ?_
              rintro e w10 ⟨rfl, hb10⟩
              go_wp2_with fail
              go_ret
              exact ⟨rfl, HL8.out.trans (hb10.mono HL8.out.size)⟩
            · rw [show ((leftL true r r.length).length : Int) = 0 from by rw [lenT]; omega] at hlen8
              go_wp2_with fail
              refine hlen8.mono ?_
              rintro e w9 ⟨rfl, e9⟩
              subst e9
              go_wp2_with fail
              refine (alive_k _).mono ?_
              rintro e w10 ⟨rfl, hb10⟩
              go_wp2_with fail
              go_ret
              exact ⟨rfl, HL8.out.trans (hb10.mono HL8.out.size)⟩
set_option maxRecDepth 100000 in
set_option maxHeartbeats 4000000 in
theorem walkB (a : Option Addr) (len cap : Nat) (K I X : Nat → Int) (most : Int) (d : Bool) (w0 : World) (hS : ORow w0 a len cap K I X) (h1 : ¬ most < 1) (h2 : 10 < most) :
    Calls Try.prog 4 #[.slice a len cap, .int .i64 most, .bool d] w0 fun e w' => e = .returned (.bool true) ∧ Below w0.heap.size w0 w' := by
  have HS : Hid (ORow w0 a len cap K I X) := hS
  have hlen : len ≤ 9223372036854775807 := by have h1 := hS.2.1; have h2 := hS.2.2; unfold maxLen at h2; omega
  clear hS
  have hb0 : Below w0.heap.size w0 ((w0.alloc (.cells #[.int .i64 most] 3)).alloc (.cells #[.bool d] 4)) := ((Below.refl _ w0).alloc (Nat.le_refl _) _).alloc (by simp) _
  have b4 : Boxed ((w0.alloc (.cells #[.int .i64 most] 3)).alloc (.cells #[.bool d] 4)) w0.heap.size 3 (.int .i64 most) := (Boxed.new w0 _ _).alloc _
  have b5 : Boxed ((w0.alloc (.cells #[.int .i64 most] 3)).alloc (.cells #[.bool d] 4)) (w0.heap.size + 1) 4 (.bool d) := by
    have := Boxed.new (w0.alloc (.cells #[.int .i64 most] 3)) 4 (.bool d)
    rwa [World.size_alloc] at this
  have hz0 : ((w0.alloc (.cells #[.int .i64 most] 3)).alloc (.cells #[.bool d] 4)).heap.size = w0.heap.size + 1 + 1 := by simp
  go_enter Try.func4, Try.ntmps4
  go_wp2_with fail
  generalize (w0.alloc (.cells #[.int .i64 most] 3)).alloc (.cells #[.bool d] 4) = W0 at *
  have HB0 : Hid (Below w0.heap.size w0 W0) := hb0
  have HBX : Hid (Boxed W0 w0.heap.size 3 (.int .i64 most) ∧ Boxed W0 (w0.heap.size + 1) 4 (.bool d) ∧ W0.heap.size = w0.heap.size + 1 + 1) := ⟨b4, b5, hz0⟩
  clear hb0 b4 b5 hz0
  refine (new_k 10 2 W0 (by omega) (by omega)).mono ?_
  rintro e w1 ⟨o, rfl, hk1, hb1, ho⟩
  have HO : Hid (∀ b, o.has b → W0.heap.size ≤ b ∧ b < w1.heap.size) := fun b hb => ⟨ho b hb, hk1.lt b hb⟩
  have HK1 : Hid (Kv w1 o 10 2 fun _ => []) := hk1
  have HB1 : Hid (Below W0.heap.size W0 w1) := hb1
  have b7 : Boxed (w1.alloc (.cells #[.pointer (some ⟨o.p, 0, none⟩)] 23)) w1.heap.size 23 o.ptr := Boxed.new w1 _ _
  have hbu : But (fun _ => False) w1 (w1.alloc (.cells #[.pointer (some ⟨o.p, 0, none⟩)] 23)) := (But.refl _ w1).alloc _
  have hz1 : (w1.alloc (.cells #[.pointer (some ⟨o.p, 0, none⟩)] 23)).heap.size = w1.heap.size + 1 := by simp
  clear ho hk1 hb1
  go_wp2_with fail
  generalize w1.alloc (.cells #[.pointer (some ⟨o.p, 0, none⟩)] 23) = W1 at *
  refine (rnew_k 10 2 W1 (by omega) (by omega)).mono ?_
  rintro e w2 ⟨p, b, rfl, hrx, hb2, hp, hb⟩
  have hbB : Below w1.heap.size w1 W1 := hbu.below (Nat.le_refl _) (fun _ h => h.elim)
  have HB2 : Hid (Below w0.heap.size w0 w2) := Below.onto (Below.onto (Below.onto HB0.out HB1.out) hbB) hb2
  have HBo : Hid (Both w2 o p b w2.heap.size 10 2 fun _ => []) := ⟨(HK1.out.below hbB).below hb2, hrx, fun g hg => by have h1 := (HO.out g hg).2; have h2 := hb2.size; exact ⟨by omega, by omega, by omega⟩⟩
  have HX : Hid ((Boxed w2 w0.heap.size 3 (.int .i64 most) ∧ Boxed w2 (w0.heap.size + 1) 4 (.bool d) ∧ Boxed w2 w1.heap.size 23 o.ptr) ∧ w1.heap.size < w2.heap.size ∧ w0.heap.size + 1 < w1.heap.size) := by
    obtain ⟨h4, h5, h6⟩ := HBX.out
    have g1 := Below.onto (Below.onto HB1.out hbB) hb2
    have g2 := hb2.size
    have g3 := HB1.out.size
    exact ⟨⟨(g1.block _ h4.lt).trans h4, (g1.block _ h5.lt).trans h5, (hb2.block _ b7.lt).trans b7⟩, by omega, by omega⟩
  have HN : Hid (∀ g, o.or b g → w0.heap.size ≤ g ∧ g ≠ w0.heap.size ∧ g ≠ w0.heap.size + 1 ∧ g ≠ w1.heap.size) := by
    have h6 := HBX.out.2.2
    have h7 := HB1.out.size
    rintro g (hg | rfl)
    · have := HO.out g hg; exact ⟨by omega, by omega, by omega, by omega⟩
    · exact ⟨by omega, by omega, by omega, by omega⟩
  clear hrx hb2 hp hb hbu hbB b7 hz1 HO HK1 HB1 HBX HB0
  have c7 := HX.out.1.2.2.cell
  generalize w1.heap.size = B7 at *
  generalize w2.heap.size = BB at *
  go_wp2_with fail
  go_loopw [11] (fun vi wr => ∃ i : Nat, i ≤ 60 ∧ i ≤ len ∧ vi = .int .i64 i ∧ Hid (Below w0.heap.size w0 wr) ∧ Hid (∃ R, Both wr o p b BB 10 2 R) ∧ Hid (Boxed wr w0.heap.size 3 (.int .i64 most) ∧ Boxed wr (w0.heap.size + 1) 4 (.bool d) ∧ Boxed wr B7 23 o.ptr)) (fun vi _ => 60 - (intOf vi).toNat)
  case atStart => exact ⟨0, by omega, by omega, rfl, HB2.out, ⟨_, HBo.out⟩, HX.out.1⟩
  case round =>
    clear c7 HB2 HBo
    obtain ⟨i, hi6, hil, rfl, hbel, HR, HY⟩ := hrel
    by_cases hgo : i < len ∧ i < 60
    · obtain ⟨hg1, hg2⟩ := hgo
      obtain ⟨bb, off, rfl, q0, q1, q2⟩ := HS.out.1 i hg1
      have hbb := cell_lt q0
      have no1 : ¬ o.or b bb := fun h => by have := HN.out bb h; omega
      have no7 : ¬ o.or b B7 := fun h => (HN.out B7 h).2.2.2 rfl
      obtain ⟨R, hR⟩ := HR.out
      have HD : Hid (Both wr.drew o p b BB 10 2 R) := hR.below ((Below.refl _ wr).drew)
      have c0 : wr.drew.cell? ⟨bb, off + i * 3, none⟩ = some (.int .i64 (K i)) := (hbel.out.cell (p := ⟨bb, off + i * 3, none⟩) hbb).trans q0
      have c1 : wr.drew.cell? ⟨bb, off + i * 3 + 1, none⟩ = some (.int .i64 (I i)) := (hbel.out.cell (p := ⟨bb, off + i * 3 + 1, none⟩) hbb).trans q1
      have c2 : wr.drew.cell? ⟨bb, off + i * 3 + 2, none⟩ = some (.int .i64 (X i)) := (hbel.out.cell (p := ⟨bb, off + i * 3 + 2, none⟩) hbb).trans q2
      have c7 : wr.drew.cell? ⟨B7, 0, none⟩ = some o.ptr := HY.out.2.2.cell
      have hcall := do_k o p b BB 10 2 R (K i) (I i) (X i) _ HD.out
      clear hR HR q0 q1 q2
      go_wp2_with fail
      go_region_held3 (fun W => W.cell? ⟨B7, 0, none⟩ = some o.ptr ∧ W.cell? ⟨bb, off + i * 3, none⟩ = some (.int .i64 (K i)) ∧ W.cell? ⟨bb, off + i * 3 + 1, none⟩ = some (.int .i64 (I i)) ∧ W.cell? ⟨bb, off + i * 3 + 2, none⟩ = some (.int .i64 (X i))) (first | assumption | exact ⟨c7, c0, c1, c2⟩ | exact ⟨d7, d0, d1, d2⟩) (first
        | (go_at_call 11; (with_reducible refine hcall.mono ?_); rintro e w3 ⟨rfl, ⟨R', hB3⟩, hb3⟩; have d7 := hb3.cell c7 no7; have d0 := hb3.cell c0 no1; have d1 := hb3.cell c1 no1; have d2 := hb3.cell c2 no1))
      have HB3 : Hid (∃ R, Both w3 o p b BB 10 2 R) := ⟨R', hB3⟩
      have hbD : Below w0.heap.size w0 wr.drew := hbel.out.drew
      have HL3 : Hid (Below w0.heap.size w0 w3) := hbD.trans (hb3.below hbD.size fun g hg => (HN.out g hg).1)
      have HY3 : Hid (Boxed w3 w0.heap.size 3 (.int .i64 most) ∧ Boxed w3 (w0.heap.size + 1) 4 (.bool d) ∧ Boxed w3 B7 23 o.ptr) :=
        ⟨(hb3.block _ HY.out.1.lt (fun h => (HN.out _ h).2.1 rfl)).trans HY.out.1, (hb3.block _ HY.out.2.1.lt (fun h => (HN.out _ h).2.2.1 rfl)).trans HY.out.2.1, (hb3.block _ HY.out.2.2.lt no7).trans HY.out.2.2⟩
      clear hcall hB3 hb3 c0 c1 c2 c7 d0 d1 d2 d7 HD hbD
      go_wp2_with fail
      go_roundw
      case rel => exact ⟨i + 1, by omega, by omega, by go_num, HL3.out, HB3.out, HY3.out⟩
      case measure => simp [intOf]; omega
    · have HD : Hid (i = len ∨ (i < len ∧ i = 60)) := by show i = len ∨ (i < len ∧ i = 60); omega
      clear hgo
      obtain ⟨R, hR⟩ := HR.out
      have HBo : Hid (Both wr o p b BB 10 2 R) := hR
      obtain ⟨r, hr⟩ : ∃ r, R 0 = r := ⟨_, rfl⟩
      have hra := rall_k p b BB 10 2 R 0 wr hR.rx
      rw [show rowR 2 R 0 = r from hr ▸ (by have h : inR 2 (0 : Int) = true := by decide
                                            simp [rowR, h])] at hra
      have HLB : Hid (BB ≤ wr.heap.size ∧ r.length ≤ 10 ∧ ∀ g, o.has g → g < BB) := ⟨hR.rx.lt.2.2, hr ▸ (hR.kv.len (k := 0) (by omega)).1, fun g hg => (hR.ap g hg).2.2⟩
      have HRR : Hid (R 0 = r) := hr
      clear hR HR hr
      rcases HD.out with rfl | ⟨hx9, rfl⟩
      all_goals
        clear HD
        go_wp2_with fail
        refine hra.mono ?_
        rintro e w3 ⟨⟨v, rfl, hown⟩, e1⟩
        subst e1
        obtain ⟨a3, cap3, rfl, hcells, hge⟩ := cells_of_own hown (k := .i64) (z := atL r) (fun j hj => encL_at2 hj)
        have HRM : Hid (r.length ≤ cap3 ∧ (a3 = none → r.length = 0 ∧ cap3 = 0)) := own_room hown
        have HC3 : Hid (Cells w3 .i64 a3 r.length (atL r)) := hcells
        have HG3 : Hid (∀ b o p, a3 = some ⟨b, o, p⟩ → BB ≤ b) := hge
        have c4 := HY.out.1.cell
        have f4 := HY.out.1.frozen
        have hbs : But (fun g => g = w0.heap.size) w3 (w3.setCell ⟨w0.heap.size, 0, none⟩ (.int .i64 10)) := (But.refl (fun g => g = w0.heap.size) w3).setCell (p := ⟨w0.heap.size, 0, none⟩) rfl _
        have y4 := HY.out.1.set (.int .i64 10)
        have c7 := hbs.cell HY.out.2.2.cell (by have := HX.out.2.2; omega)
        clear hcells hge hown hra
        go_wp2_with fail
        clear f4
        generalize w3.setCell ⟨w0.heap.size, 0, none⟩ (.int .i64 10) = w4 at *
        have HL4 : Hid (Below w0.heap.size w0 w4) := hbel.out.trans (hbs.below hbel.out.size (fun k e => by omega))
        have HK4 : Hid (Kv w4 o 10 2 R) := HBo.out.kv.but hbs (fun g hg e => (HN.out g (.inl hg)).2.1 e)
        have HC4 : Hid (Cells w4 .i64 a3 r.length (atL r)) := fun j hj => by
          obtain ⟨b', off, e, hc⟩ := HC3.out j hj
          have h1 := HG3.out b' off none e
          have h2 := HX.out.2
          exact ⟨b', off, e, hbs.cell hc (by omega)⟩
        have HY4 : Hid (Boxed w4 w0.heap.size 3 (.int .i64 10) ∧ Boxed w4 (w0.heap.size + 1) 4 (.bool d) ∧ Boxed w4 B7 23 o.ptr) := ⟨y4, (hbs.block _ HY.out.2.1.lt (by omega)).trans HY.out.2.1, (hbs.block _ HY.out.2.2.lt (by have := HX.out.2.2; omega)).trans HY.out.2.2⟩
        have HSZ : Hid (BB ≤ w4.heap.size) := Nat.le_trans HLB.out.1 hbs.size
        clear hbs y4 c4 c7
        have hnil := eql_tell_nil w4.heap.size (w4.heap.size + 1) (w4.heap.size + 1 + 1)
        refine (all_k (some ⟨o.p, 0, none⟩) 0 w4).mono ?_
        rintro e w5 ⟨rfl, hw5⟩
        obtain ⟨hB5, x1, x2, x3, hz5⟩ := boxes3 hw5
        clear hw5
        have hB6 : Below w4.heap.size w4 (w5.alloc (.cells #[.slice none 0 0] 36)) := hB5.alloc hB5.size _
        have HB6 : Hid (Below w4.heap.size w4 (w5.alloc (.cells #[.slice none 0 0] 36)) ∧ w4.heap.size ≤ w5.heap.size ∧ (w5.alloc (.cells #[.slice none 0 0] 36)).heap.size = w5.heap.size + 1) := ⟨hB6, hB5.size, by simp⟩
        have HBS : Hid (Bxs (w5.alloc (.cells #[.slice none 0 0] 36)) w5.heap.size (w0.heap.size + 1) B7 w0.heap.size d ((10 : Nat) : Int) o (w5.alloc (.cells #[.slice none 0 0] 36)).heap.size) := by
          obtain ⟨g1, g2, g3⟩ := HB6.out
          have g4 := HSZ.out
          have g5 := HX.out.2
          have g6 := HLB.out.2.2
          have g7 : ∀ g, o.has g → _ := fun g hg => HN.out g (.inl hg)
          exact ⟨(g1.block _ HY4.out.2.1.lt).trans HY4.out.2.1, (g1.block _ HY4.out.2.2.lt).trans HY4.out.2.2, (g1.block _ HY4.out.1.lt).trans HY4.out.1, ⟨by omega, fun h => (g7 _ h).2.2.1 rfl, by omega⟩, ⟨by omega, fun h => (g7 _ h).2.2.2 rfl, by omega⟩, ⟨by omega, fun h => (g7 _ h).2.1 rfl, by omega⟩, ⟨fun h => by have := g6 _ h; omega, by omega⟩, fun g hg => by have := g6 g hg; omega⟩
        have hcall := tell_stops w5.heap.size (w0.heap.size + 1) B7 w0.heap.size w4.heap.size (w4.heap.size + 1) (w4.heap.size + 1 + 1) d 10 (by omega) o 10 2 R 0 (by omega) (by omega) r HRR.out (w5.alloc (.cells #[.slice none 0 0] 36)) (x1.alloc _) (x2.alloc _) (x3.alloc _) (HK4.out.below hB6) (Boxed.new w5 _ _) HBS.out
        clear hB5 x1 x2 x3 hz5 hB6
        go_wp2_with fail
        refine hcall.mono ?_
        rintro e w7 ⟨rfl, v, R7, hv, hown, hkv, hR7, hbut⟩
        clear hnil hcall
        have HBX7 : Hid (Boxed w7 w0.heap.size 3 (.int .i64 10) ∧ Boxed w7 (w0.heap.size + 1) 4 (.bool d) ∧ Boxed w7 B7 23 o.ptr) := by
          have h := HBS.out.but (hbut.mono fun i h => h.elim .inl fun h => .inr (.inl h))
          exact ⟨h.b4, h.b5, h.b7⟩
        have HL7 : Hid (Below w0.heap.size w0 w7) := by
          have h1 := HL4.out.trans (HB6.out.1.mono HL4.out.size)
          refine h1.trans (hbut.below h1.size ?_)
          have h2 := HL4.out.size
          have h3 := HB6.out.2.1
          rintro g (e | hg)
          · omega
          · exact (HN.out g (.inl hg)).1
        have HC7 : Hid (Cells w7 .i64 a3 r.length (atL r)) := fun j hj => by
          obtain ⟨b', off, e, hc⟩ := HC4.out j hj
          have h1 := HG3.out b' off none e
          have h2 := cell_lt hc
          have h3 := HB6.out.2.1
          refine ⟨b', off, e, hbut.cell ((HB6.out.1.cell (p := ⟨b', off + j, none⟩) h2).trans hc) ?_⟩
          rintro (e | hg)
          · omega
          · have := HLB.out.2.2 b' hg; omega
        have c4 := HBX7.out.1.cell
        have hl10 := HLB.out.2.1
        have HV : Hid (Boxed w7 w5.heap.size 36 v) := hv
        have HKV : Hid (Kv w7 o 10 2 R7) := hkv
        clear hv hkv hbut
        rcases Nat.lt_or_ge 10 r.length with hlt | hle
        · cases a3 with
          | none => exact absurd (HRM.out.2 rfl).1 (by omega)
          | some ad =>
            rw [show min r.length 10 = 10 from by omega] at hown hR7
            obtain ⟨a7, cap7, rfl, hc7, _⟩ := cells_of_own hown (k := .i64) (z := atL (r.take 10)) (fun j hj => encL_at2 (by rw [List.length_take]; omega))
            have HR7 : Hid (R7 0 = leftL d r 10) := hR7
            have hsame := rsame5_true a7 (some ad) 10 cap7 cap3 _ _ w7.drew (by omega) (hc7.below ((Below.refl _ w7).drew)) ((show Cells w7 .i64 (some ad) 10 (atL r) from fun j hj => HC7.out j (by omega)).below ((Below.refl _ w7).drew)) (fun j hj => take_at (r := r) hj)
            have cq : w7.drew.cell? ⟨w5.heap.size, 0, none⟩ = some (.slice a7 10 cap7) := HV.out.cell
            have hcap : 10 ≤ cap3 := by have := HRM.out.1; omega
            have hca1 : 10 ≤ (cap3 : Int) := by omega
            have hca2 : (0 : Int) ≤ 10 := by omega
            clear hown hc7 hR7
            go_wp2_with fail
            go_region_held3 (fun W => W.cell? ⟨w5.heap.size, 0, none⟩ = some (.slice a7 10 cap7)) (first | assumption | exact cq | exact dq) (first
              | (go_at_call 17; (with_reducible refine hsame.mono ?_); rintro e w8 ⟨rfl, hb8⟩; have dq := (hb8.cell (p := ⟨w5.heap.size, 0, none⟩) (cell_lt cq)).trans cq))
            have hb78 : Below w7.heap.size w7 w8 := Below.onto ((Below.refl _ w7).drew) hb8
            have c5 := (show Boxed w8 _ _ _ from (hb78.block _ HBX7.out.2.1.lt).trans HBX7.out.2.1).cell
            have c7 := (show Boxed w8 _ _ _ from (hb78.block _ HBX7.out.2.2.lt).trans HBX7.out.2.2).cell
            have HL8 : Hid (Below w0.heap.size w0 w8) := HL7.out.trans (hb78.mono HL7.out.size)
            have hlen8 := klen_k o 10 2 R7 0 w8 (HKV.out.below hb78)
            rw [len_left HR7.out] at hlen8
            clear hb8 hb78 dq cq hsame c4
            cases d
            · rw [show ((leftL false r 10).length : Int) = (r.length : Int) from rfl] at hlen8
              go_wp2_with fail
              refine hlen8.mono ?_
              rintro e w9 ⟨rfl, e9⟩
              subst e9
              go_wp2_with fail
              refine (alive_k _).mono ?_
              rintro e w10 ⟨rfl, hb10⟩
              go_wp2_with fail
              go_ret
              exact ⟨rfl, HL8.out.trans (hb10.mono HL8.out.size)⟩
            · rw [show ((leftL true r 10).length : Int) = (r.length : Int) - 10 from by rw [lenT]; omega] at hlen8
              go_wp2_with fail
              refine hlen8.mono ?_
              rintro e w9 ⟨rfl, e9⟩
              subst e9
              go_wp2_with fail
              refine (alive_k _).mono ?_
              rintro e w10 ⟨rfl, hb10⟩
              go_wp2_with fail
              go_ret
              exact ⟨rfl, HL8.out.trans (hb10.mono HL8.out.size)⟩
        · cases a3 with
          | none =>
            obtain ⟨hz, hz2⟩ := HRM.out.2 rfl
            subst hz2
            rw [show min r.length 10 = 0 from by omega] at hown hR7
            obtain ⟨a7, cap7, rfl, hc7, _⟩ := cells_of_own hown (k := .i64) (z := atL (r.take 0)) (fun j hj => encL_at2 (by rw [List.length_take]; omega))
            have HR7 : Hid (R7 0 = leftL d r 0) := hR7
            have hsame := rsame5_true a7 none 0 cap7 0 _ _ w7.drew (by omega) (hc7.below ((Below.refl _ w7).drew)) ((show Cells w7 .i64 none 0 (atL r) from fun j hj => HC7.out j (by omega)).below ((Below.refl _ w7).drew)) (fun j hj => take_at (r := r) hj)
            have cq : w7.drew.cell? ⟨w5.heap.size, 0, none⟩ = some (.slice a7 0 cap7) := HV.out.cell
            clear hown hc7 hR7
            go_wp2_with fail
            go_region_held3 (fun W => W.cell? ⟨w5.heap.size, 0, none⟩ = some (.slice a7 0 cap7)) (first | assumption | exact cq | exact dq) (first
              | (go_at_call 17; (with_reducible refine hsame.mono ?_); rintro e w8 ⟨rfl, hb8⟩; have dq := (hb8.cell (p := ⟨w5.heap.size, 0, none⟩) (cell_lt cq)).trans cq))
            have hb78 : Below w7.heap.size w7 w8 := Below.onto ((Below.refl _ w7).drew) hb8
            have c5 := (show Boxed w8 _ _ _ from (hb78.block _ HBX7.out.2.1.lt).trans HBX7.out.2.1).cell
            have c7 := (show Boxed w8 _ _ _ from (hb78.block _ HBX7.out.2.2.lt).trans HBX7.out.2.2).cell
            have HL8 : Hid (Below w0.heap.size w0 w8) := HL7.out.trans (hb78.mono HL7.out.size)
            have hlen8 := klen_k o 10 2 R7 0 w8 (HKV.out.below hb78)
            rw [len_left HR7.out] at hlen8
            clear hb8 hb78 dq cq hsame c4
            cases d
            · rw [show ((leftL false r 0).length : Int) = (r.length : Int) from rfl] at hlen8
              go_wp2_with fail
              refine hlen8.mono ?_
              rintro e w9 ⟨rfl, e9⟩
              subst e9
              go_wp2_with fail
              refine (alive_k _).mono ?_
              rintro e w10 ⟨rfl, hb10⟩
              go_wp2_with fail
              go_ret
              exact ⟨rfl, HL8.out.trans (hb10.mono HL8.out.size)⟩
            · rw [show ((leftL true r 0).length : Int) = 0 from by rw [lenT]; omega] at hlen8
              go_wp2_with fail
              refine hlen8.mono ?_
              rintro e w9 ⟨rfl, e9⟩
              subst e9
              go_wp2_with fail
              refine (alive_k _).mono ?_
              rintro e w10 ⟨rfl, hb10⟩
              go_wp2_with fail
              go_ret
              exact ⟨rfl, HL8.out.trans (hb10.mono HL8.out.size)⟩
          | some ad =>
            rw [show min r.length 10 = r.length from by omega] at hown hR7
            obtain ⟨a7, cap7, rfl, hc7, _⟩ := cells_of_own hown (k := .i64) (z := atL (r.take r.length)) (fun j hj => encL_at2 (by rw [List.length_take]; omega))
            have HR7 : Hid (R7 0 = leftL d r r.length) := hR7
            have hsame := rsame5_true a7 (some ad) r.length cap7 cap3 _ _ w7.drew (by omega) (hc7.below ((Below.refl _ w7).drew)) ((show Cells w7 .i64 (some ad) r.length (atL r) from fun j hj => HC7.out j (by omega)).below ((Below.refl _ w7).drew)) (fun j hj => take_at (r := r) hj)
            have cq : w7.drew.cell? ⟨w5.heap.size, 0, none⟩ = some (.slice a7 r.length cap7) := HV.out.cell
            have hcap := HRM.out.1
            clear hown hc7 hR7
            go_wp2_with fail
            go_region_held3 (fun W => W.cell? ⟨w5.heap.size, 0, none⟩ = some (.slice a7 r.length cap7)) (first | assumption | exact cq | exact dq) (first
              | (go_at_call 17; (with_reducible refine hsame.mono ?_); rintro e w8 ⟨rfl, hb8⟩; have dq := (hb8.cell (p := ⟨w5.heap.size, 0, none⟩) (cell_lt cq)).trans cq))
            have hb78 : Below w7.heap.size w7 w8 := Below.onto ((Below.refl _ w7).drew) hb8
            have c5 := (show Boxed w8 _ _ _ from (hb78.block _ HBX7.out.2.1.lt).trans HBX7.out.2.1).cell
            have c7 := (show Boxed w8 _ _ _ from (hb78.block _ HBX7.out.2.2.lt).trans HBX7.out.2.2).cell
            have HL8 : Hid (Below w0.heap.size w0 w8) := HL7.out.trans (hb78.mono HL7.out.size)
            have hlen8 := klen_k o 10 2 R7 0 w8 (HKV.out.below hb78)
            rw [len_left HR7.out] at hlen8
            clear hb8 hb78 dq cq hsame c4
            cases d
            · rw [show ((leftL false r r.length).length : Int) = (r.length : Int) from rfl] at hlen8
              go_wp2_with fail
              refine hlen8.mono ?_
              rintro e w9 ⟨rfl, e9⟩
              subst e9
              go_wp2_with fail
              refine (alive_k _).mono ?_
              rintro e w10 ⟨rfl, hb10⟩
              go_wp2_with fail
              go_ret
              exact ⟨rfl, HL8.out.trans (hb10.mono HL8.out.size)⟩
            · rw [show ((leftL true r r.length).length : Int) = 0 from by rw [lenT]; omega] at hlen8
              go_wp2_with fail
              refine hlen8.mono ?_
              rintro e w9 ⟨rfl, e9⟩
              subst e9
              go_wp2_with fail
              refine (alive_k _).mono ?_
              rintro e w10 ⟨rfl, hb10⟩
              go_wp2_with fail
              go_ret
              exact ⟨rfl, HL8.out.trans (hb10.mono HL8.out.size)⟩

theorem walk (a : Option Addr) (len cap : Nat) (K I X : Nat → Int) (most : Int) (d : Bool) (w0 : World) (hS : ORow w0 a len cap K I X) :
    Calls Try.prog 4 #[.slice a len cap, .int .i64 most, .bool d] w0 fun e w' => e = .returned (.bool true) ∧ Below w0.heap.size w0 w' := by
  by_cases h1 : most < 1
  · exact walkA a len cap K I X most d w0 hS h1
  · by_cases h2 : 10 < most
    · exact walkB a len cap K I X most d w0 hS h1 h2
    · obtain ⟨mo, rfl⟩ : ∃ n : Nat, most = (n : Int) := ⟨most.toNat, by omega⟩
      exact walkC a len cap K I X mo d w0 hS h1 h2

set_option maxRecDepth 100000 in
theorem lifted (os : Os) (started : os.Started) (H : Type) (enc : TypeId × Value → H) :
    ReturnsInHanded {} Try.checked os 4 .any (Rows.listStopsSpec.pre6 enc Try.prog Try.f4 Rows.listStopsRow.domain false) (Rows.listStopsSpec.post enc Try.prog Try.f4 false true false false) := by
  refine returnsInHanded_of_change (C := Try.checked) own started (by kernel_rfl) Try.func4
    (ChangeSpec.witness6 (enc := enc) (C := Try.checked) false ⟨#[], #[.slice none 0 0, .int .i64 0, .bool false], []⟩ 8 (by kernel_rfl) (by kernel_rfl) (by kernel_rfl) (by kernel_rfl)) ?_
  intro W base args ds gs before hval0 hW hcnd _
  have hval : ∀ (j : Nat) t v, Try.f4.params[j]? = some t → args[j]? = some v → Value.okWide Try.prog W .any base t v := hval0
  have hW' := hW
  obtain ⟨p, q, hA0, hV, rfl, hfz, hnd⟩ := hW
  have hA : DataW.TrodAll enc Try.prog W 0 (fun _ => true) true Try.f4.params.toList args.toList ds p := hA0
  rw [Try.params4] at hA hval
  obtain ⟨v0, vs0, d0, ds0, p0, q0, hargs, rfl, rfl, h0, r0⟩ := trodAll_cons hA
  obtain ⟨v1, vs1, d1, ds1, p1, q1, rfl, rfl, rfl, h1, r1⟩ := trodAll_cons r0
  obtain ⟨v2, vs2, d2, ds2, p2, q2, rfl, rfl, rfl, h2, r2⟩ := trodAll_cons r1
  obtain ⟨rfl, rfl, rfl⟩ := trodAll_nil r2
  obtain rfl : args = #[v0, v1, v2] := by cases args; simp_all
  obtain ⟨rfl, rfl⟩ := trodVars_none hV
  have k0 := h0
  have lt0 : ∀ x ∈ p0, x.block < W.heap.size := by obtain ⟨m, hm⟩ := k0; exact DataW.trod_lt m _ _ _ hm
  obtain ⟨a, len, cap, K, I, X, rfl, w0⟩ := open_ops (hval 0 22 v0 rfl rfl) h0
  obtain ⟨a1, rfl, rfl, rfl, w1⟩ := open_int Try.underlying3 (hval 1 3 v1 rfl rfl) h1
  have k2 := h2
  have lt2 : ∀ x ∈ p2, x.block < W.heap.size := by obtain ⟨m, hm⟩ := k2; exact DataW.trod_lt m _ _ _ hm
  obtain ⟨b, rfl, w2⟩ := open_bool1 (hval 2 4 v2 rfl rfl) h2
  clear hA0 hval0
  refine (walk a len cap K I X a1 b W w0).mono fun e W' ⟨he, bel⟩ => ?_
  subst he
  exact ⟨_, rfl, _, _, _, [], _, [], hW', trodAll_mk1 (shut_bool Try.underlying4 _), (trodAll_cons_mk (Below.trod laidOut (by kernel_rfl) (of_decide_eq_true (by kernel_rfl)) k0 bel lt0) (trodAll_cons_mk (shut_int Try.underlying3 w1) (trodAll_cons_mk (Below.trod laidOut (by kernel_rfl) (of_decide_eq_true (by kernel_rfl)) k2 bel lt2) trodAll_mk0))), rfl, bel.frame _, fun h => by cases h⟩

end Go.Proofs.Ytiaacjollcccaaa.listStops
namespace Go.Proofs.Ytiaacjollcccaaa

/-- The statement ListStops. -/
theorem ListStopsHolds : Rows.ListStopsSaid :=
  OpenClaim.holds_of_wide 4 Try.f4 rfl rfl rfl rfl rfl rfl rfl ⟨rfl, rfl, rfl, rfl, rfl⟩ rfl rfl rfl rfl rfl (by kernel_rfl) Try.func4 (by kernel_rfl)
    (of_decide_eq_true (by kernel_rfl)) (by unfold Func.isWrapper; first | (rw [if_pos (by decide +kernel)]; kernel_rfl) | (rw [if_neg (by decide +kernel)]; exact ⟨rfl, rfl⟩))
    (fun os started H enc _ => listStops.lifted os started H enc)

end Go.Proofs.Ytiaacjollcccaaa
