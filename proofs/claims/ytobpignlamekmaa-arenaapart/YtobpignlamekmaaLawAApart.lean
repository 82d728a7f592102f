/- PROVED: for every row of quotas, every partition and every row of acts the statement ArenaApart returns true: what calls in one partition tell hangs on no call in another one (P6.6). No condition. -/
import Derived.Test.YtobpignlamekmaaRows
import Derived.Test.YtobpignlamekmaaAPure
import Derived.Deep.RegionHeld3
import Derived.Test.YtobpignlamekmaaARow
import Derived.ProofKit
import Derived.ShutString
import Derived.ChangeOld
import Derived.OpenShut
namespace Go.Proofs.Ytobpignlamekmaa.arenaApart
open Go.ChangeShapes Go.WideShapes Go.ChangeAt Go.RowKit

theorem own : ownKnob Try.prog.godebug = none := by kernel_rfl
theorem laidOut : laidOutB Try.prog = true := by kernel_rfl

/-- two arenas in one memory -/
structure Duo (w : World) (o q : Po) (h : Sh) (part : Int) (x y : Da) : Prop where
  a : Ax w o h x
  b : Ax w q h y
  ag : Ag h part x y
  no : ∀ g, o.has g → ¬ q.has g
def Po.duo (o q : Po) (g : Nat) : Prop := o.has g ∨ q.has g
theorem Duo.below {w w' : World} {o q : Po} {h : Sh} {part : Int} {x y : Da} (d : Duo w o q h part x y) (hb : Below w.heap.size w w') : Duo w' o q h part x y := ⟨d.a.below hb, d.b.below hb, d.ag, d.no⟩
theorem Duo.lt {w : World} {o q : Po} {h : Sh} {part : Int} {x y : Da} (d : Duo w o q h part x y) : ∀ g, Po.duo o q g → g < w.heap.size := fun g hg => hg.elim (d.a.lt g) (d.b.lt g)

set_option maxRecDepth 100000 in
set_option maxHeartbeats 16000000 in
theorem walk (aq : Option Addr) (nq cq : Nat) (z : Nat → Int) (part : Int) (ad : Option Addr) (len cap : Nat) (K P N G X : Nat → Int) (w0 : World) (hQ : IsRow .i64 w0 aq nq cq z) (hS : AOps w0 ad len cap K P N G X) :
    Calls Try.prog 5 #[.slice aq nq cq, .int .i64 part, .slice ad len cap] w0 fun e w' => e = .returned (.bool true) ∧ Below w0.heap.size w0 w' := by
  have HS : Hid (AOps w0 ad len cap K P N G X) := hS
  have hlen : len ≤ 9223372036854775807 := by have h1 := hS.2.1; have h2 := hS.2.2; unfold maxLen at h2; omega
  have HQ : Hid (Cells w0 .i64 aq (min nq 17) z) := hQ.1.mono (by omega)
  have haw := awake_a w0
  have hfew := fun W => few6_any aq nq cq W hQ.2.2.1 hQ.2.1
  clear hS hQ
  go_enter Try.func5, Try.ntmps5
  go_wp2_with fail
  refine haw.mono ?_
  rintro e w1 ⟨rfl, hb1⟩
  go_wp2_with fail
  refine (hfew w1).mono ?_
  rintro e w2 ⟨rfl, e2⟩
  subst e2
  have hm17 : min nq 17 ≤ 17 := by omega
  generalize min nq 17 = n at *
  clear haw hfew
  cases hq : mayQ n z
  · have hn1 := anew_bad aq n cq z w2 (by omega) (HQ.out.below hb1) hq
    go_wp2_with fail
    refine hn1.mono ?_
    rintro e w3 ⟨rfl, e3⟩
    subst e3
    go_wp2_with fail
    refine hn1.mono ?_
    rintro e w4 ⟨rfl, e4⟩
    subst e4
    go_wp2_with fail
    go_ret
    exact ⟨rfl, hb1⟩
  · have hn1 := anew_ok aq n cq z w2 (HQ.out.below hb1) hq
    have hq2 := hq
    go_wp2_with fail
    refine hn1.mono ?_
    rintro e w3 ⟨o, rfl, ha3, hb3, ho3⟩
    have B3 := Below.onto hb1 hb3
    have hn2 := anew_ok aq n cq z w3 (HQ.out.below B3) hq2
    have H3 : Hid (Ax w3 o _ _) := ha3
    clear hn1 ha3
    go_wp2_with fail
    refine hn2.mono ?_
    rintro e w4 ⟨q, rfl, ha4, hb4, ho4⟩
    have B4 := Below.onto B3 hb4
    have HD : Hid (Duo w4 o q (shOf z n) part (daN (shOf z n) (shOf z n).N) (daN (shOf z n) (shOf z n).N)) := ⟨H3.out.below hb4, ha4, Ag.refl _ _ _, fun g h1 h2 => by have e1 := H3.out.lt g h1; have e2 := ho4 g h2; omega⟩
    have HO : Hid (∀ g, Po.duo o q g → w0.heap.size ≤ g) := fun g hg => by
      have e1 := hb1.size
      have e2 := hb3.size
      rcases hg with hg | hg
      · have := ho3 g hg; omega
      · have := ho4 g hg; omega
    clear hn2 ha4 hb4 ho4 hb3 ho3 H3 B3 hb1 hq2
    generalize shOf z n = h at *
    generalize daN h h.N = x0 at *
    go_wp2_with fail
    go_loopw [11] (fun vi wr => ∃ i : Nat, i ≤ 60 ∧ i ≤ len ∧ vi = .int .i64 i ∧ Below w0.heap.size w0 wr ∧ Hid (∃ x y, Duo wr o q h part x y)) (fun vi _ => 60 - (intOf vi).toNat)
    case atStart => exact ⟨0, by omega, by omega, rfl, B4, _, _, HD.out⟩
    case round =>
      obtain ⟨i, hi6, hil, rfl, hbel, HR⟩ := hrel
      obtain ⟨x, y, hd⟩ := HR.out
      have HD : Hid (Duo wr o q h part x y) := hd
      clear HR hd
      by_cases hgo : i < len ∧ i < 60
      · obtain ⟨hg1, hg2⟩ := hgo
        obtain ⟨bb, off, rfl, q0, q1, q2, q3, q4, hX⟩ := (HS.out.below hbel).1 i hg1
        have hbx := below_box wr (.cells #[.int .i64 (K i), .int .i64 (P i), .int .i64 (N i), .int .u64 (G i), .int .u64 (X i)] 38)
        have F5 : Hid (Five _ _ _ _ _ _ _) := five_box wr (.int .i64 (K i)) (.int .i64 (P i)) (.int .i64 (N i)) (.int .u64 (G i)) (.int .u64 (X i)) 38
        obtain ⟨W, hW⟩ : ∃ W, wr.alloc (.cells #[.int .i64 (K i), .int .i64 (P i), .int .i64 (N i), .int .u64 (G i), .int .u64 (X i)] 38) = W := ⟨_, rfl⟩
        rw [hW] at hbx F5
        have HDW : Hid (Duo W o q h part x y) := HD.out.below hbx
        have BW := Below.onto hbel hbx
        have nB : Hid (¬ Po.duo o q wr.heap.size) := fun hb => by have := HD.out.lt _ hb; omega
        have HX : Hid (0 ≤ X i ∧ X i < 18446744073709551616) := hX
        obtain ⟨c0, c1, c2, c3, c4⟩ := F5.out
        clear hbx hX HD
        generalize hB : wr.heap.size = B at *
        generalize K i = ki at *
        generalize P i = pi at *
        generalize N i = ni at *
        generalize G i = gi at *
        generalize X i = xi at *
        clear hbel HS
        by_cases hk1 : ki = 1
        · subst hk1
          by_cases hpp : pi = part
          · subst hpp
            have hc1 := alloc_a o h x pi W HDW.out.a
            go_wp2_with fail
            refine hc1.mono ?_
            rintro e w5 ⟨rfl, ha5, hb5⟩
            have hbx := below_box w5 (.cells #[.int .i64 (alN h x pi), .int .u64 (alG h x pi)] 36)
            have A5 : Hid (Ax _ o h (alD h x pi)) := ha5.below hbx
            have Q5 : Hid (Ax _ q h y) := (HDW.out.b.but hb5 (fun b h1 h2 => HDW.out.no b h2 h1)).below hbx
            have B5 := (BW.trans (hb5.below BW.size (fun g hg => HO.out g (.inl hg)))).trans (hbx.mono (Nat.le_trans BW.size hb5.size))
            have hc2 := alloc_a q h y pi _ Q5.out
            have n5 : Hid (¬ q.has w5.heap.size) := fun hb => by have := (HDW.out.b.but hb5 (fun b h1 h2 => HDW.out.no b h2 h1)).lt _ hb; omega
            have T5 : Hid (Two _ _ _ _) := two_box w5 (.int .i64 (alN h x pi)) (.int .u64 (alG h x pi)) 36
            clear hc1 ha5 hb5 hbx
            go_wp2_with fail
            refine hc2.mono ?_
            rintro e w6 ⟨rfl, ha6, hb6⟩
            have hag := HDW.out.ag
            have eE := ag_alE hag
            have eN := ag_alN hag
            have eG := ag_alG hag HDW.out.a.da (fun k hk n hn => HDW.out.a.rng hk hn)
            rw [← eE, ← eN, ← eG]
            have hbx := below_box w6 (.cells #[.int .i64 (alN h x pi), .int .u64 (alG h x pi)] 36)
            have D6 : Hid (Duo _ o q h pi (alD h x pi) (alD h y pi)) := ⟨(A5.out.but hb6 HDW.out.no).below hbx, ha6.below hbx, ag_alD hag, HDW.out.no⟩
            have B6 := (B5.trans (hb6.below B5.size (fun g hg => HO.out g (.inr hg)))).trans (hbx.mono (Nat.le_trans B5.size hb6.size))
            obtain ⟨t0, t1⟩ := (T5.out.but hb6 n5.out).below hbx
            obtain ⟨u0, u1⟩ := two_box w6 (.int .i64 (alN h x pi)) (.int .u64 (alG h x pi)) 36
            clear eE eN eG hag ha6 hb6 hbx hc2 A5 Q5 T5
            generalize alN h x pi = n1 at *
            generalize alG h x pi = g1 at *
            generalize alE h x pi = e1 at *
            go_wp2_with fail
            go_roundw
            case rel => exact ⟨i + 1, by omega, by omega, by go_num, B6, _, _, D6.out⟩
            case measure => simp [intOf]; omega
          · have hc1 := alloc_a o h x pi W HDW.out.a
            go_wp2_with fail
            refine hc1.mono ?_
            rintro e w5 ⟨rfl, ha5, hb5⟩
            have D5 : Hid (Duo w5 o q h part (alD h x pi) y) := ⟨ha5, HDW.out.b.but hb5 (fun b h1 h2 => HDW.out.no b h2 h1), ag_alD_other HDW.out.ag hpp, HDW.out.no⟩
            have B5 := BW.trans (hb5.below BW.size (fun g hg => HO.out g (.inl hg)))
            clear ha5 hb5 hc1
            go_wp2_with fail
            go_roundw
            case rel => exact ⟨i + 1, by omega, by omega, by go_num, B5, _, _, D5.out⟩
            case measure => simp [intOf]; omega
        · have hpart := part_a o h x ni W HDW.out.a
          have HOK : Hid h.Ok := HDW.out.a.sh
          go_wp2_with fail
          refine hpart.mono ?_
          rintro e w5 ⟨rfl, e5⟩
          subst e5
          obtain ⟨own, hown⟩ : ∃ own, ptI h ni = own := ⟨_, rfl⟩
          rw [hown]
          have HOwn : Hid (ptI h ni = own) := hown
          clear hown hpart
          by_cases hop : own = part
          · subst hop
            by_cases hk4 : ki = 4
            · subst hk4
              have hag := HDW.out.ag
              have eE := ag_alvE hag HOK.out (g := gi) HOwn.out
              have z0 : w5.drew.cell? ⟨B, 2, none⟩ = some (.int .i64 ni) := c2
              have z1 : w5.drew.cell? ⟨B, 3, none⟩ = some (.int .u64 gi) := c3
              have DD : Hid (Duo w5.drew o q h own x y) := HDW.out.below ((Below.refl _ _).drew)
              have hc1 := free_a o h x ni gi _ DD.out.a
              have hc2 : Hid (∀ W', But o.has w5.drew W' → Calls Try.prog 25 #[q.ptr, .agg #[.int .i64 ni, .int .u64 gi]] W' fun e w' => e = .returned (.int .i64 (alvE h x ni gi)) ∧ Ax w' q h (frD h y ni gi) ∧ But q.has W' w') := fun W' hW' => by
                have := free_a q h y ni gi W' (DD.out.b.but hW' (fun b h1 h2 => DD.out.no b h2 h1))
                rwa [← eE] at this
              have nB1 : ¬ o.has B := fun hb => nB.out (.inl hb)
              have nB2 : ¬ q.has B := fun hb => nB.out (.inr hb)
              clear eE hag
              go_wp2_with fail
              go_region_held3 (fun W => W.cell? ⟨B, 2, none⟩ = some (.int .i64 ni) ∧ W.cell? ⟨B, 3, none⟩ = some (.int .u64 gi)) (first | assumption | exact ⟨z0, z1⟩ | exact ⟨y0, y1⟩ | exact ⟨x0', x1'⟩) (first
                | (go_at_call 25; (with_reducible refine hc1.mono ?_); rintro e w6 ⟨rfl, ha6, hb6⟩; have y0 := hb6.cell z0 nB1; have y1 := hb6.cell z1 nB1; have hc3 := hc2.out w6 hb6)
                | (go_at_call 25; (with_reducible refine hc3.mono ?_); rintro e w7 ⟨rfl, ha7, hb7⟩; have x0' := hb7.cell y0 nB2; have x1' := hb7.cell y1 nB2))
              have D7 : Hid (Duo w7 o q h own (frD h x ni gi) (frD h y ni gi)) := ⟨ha6.but hb7 DD.out.no, ha7, ag_frD HDW.out.ag HOK.out HOwn.out, HDW.out.no⟩
              have B6 := BW.drew.trans (hb6.below BW.drew.size (fun g hg => HO.out g (.inl hg)))
              have B7 := B6.trans (hb7.below B6.size (fun g hg => HO.out g (.inr hg)))
              clear ha6 hb6 ha7 hb7 hc1 hc2 hc3 x0' x1' y0 y1 z0 z1
              go_wp2_with fail
              go_roundw
              case rel => exact ⟨i + 1, by omega, by omega, by go_num, B7, _, _, D7.out⟩
              case measure => simp [intOf]; omega
            · by_cases hk2 : ki = 2
              · subst hk2
                have hag := HDW.out.ag
                have eE := ag_alvE hag HOK.out (g := gi) HOwn.out
                have z0 : w5.drew.cell? ⟨B, 2, none⟩ = some (.int .i64 ni) := c2
                have z1 : w5.drew.cell? ⟨B, 3, none⟩ = some (.int .u64 gi) := c3
                have z2 : w5.drew.cell? ⟨B, 4, none⟩ = some (.int .u64 xi) := c4
                have DD : Hid (Duo w5.drew o q h own x y) := HDW.out.below ((Below.refl _ _).drew)
                have hc1 := write_a o h x ni gi xi _ DD.out.a HX.out
                have hc2 : Hid (∀ W', But o.has w5.drew W' → Calls Try.prog 24 #[q.ptr, .agg #[.int .i64 ni, .int .u64 gi], .int .u64 xi] W' fun e w' => e = .returned (.int .i64 (alvE h x ni gi)) ∧ Ax w' q h (wrD h y ni gi xi) ∧ But q.has W' w') := fun W' hW' => by
                  have := write_a q h y ni gi xi W' (DD.out.b.but hW' (fun b h1 h2 => DD.out.no b h2 h1)) HX.out
                  rwa [← eE] at this
                have nB1 : ¬ o.has B := fun hb => nB.out (.inl hb)
                have nB2 : ¬ q.has B := fun hb => nB.out (.inr hb)
                clear eE hag
                go_wp2_with fail
                go_region_held3 (fun W => W.cell? ⟨B, 2, none⟩ = some (.int .i64 ni) ∧ W.cell? ⟨B, 3, none⟩ = some (.int .u64 gi) ∧ W.cell? ⟨B, 4, none⟩ = some (.int .u64 xi)) (first | assumption | exact ⟨z0, z1, z2⟩ | exact ⟨y0, y1, y2⟩ | exact ⟨x0', x1', x2'⟩) (first
                  | (go_at_call 24; (with_reducible refine hc1.mono ?_); rintro e w6 ⟨rfl, ha6, hb6⟩; have y0 := hb6.cell z0 nB1; have y1 := hb6.cell z1 nB1; have y2 := hb6.cell z2 nB1; have hc3 := hc2.out w6 hb6)
                  | (go_at_call 24; (with_reducible refine hc3.mono ?_); rintro e w7 ⟨rfl, ha7, hb7⟩; have x0' := hb7.cell y0 nB2; have x1' := hb7.cell y1 nB2; have x2' := hb7.cell y2 nB2))
                have D7 : Hid (Duo w7 o q h own (wrD h x ni gi xi) (wrD h y ni gi xi)) := ⟨ha6.but hb7 DD.out.no, ha7, ag_wrD HDW.out.ag HOK.out HOwn.out, HDW.out.no⟩
                have B6 := BW.drew.trans (hb6.below BW.drew.size (fun g hg => HO.out g (.inl hg)))
                have B7 := B6.trans (hb7.below B6.size (fun g hg => HO.out g (.inr hg)))
                clear ha6 hb6 ha7 hb7 hc1 hc2 hc3 x0' x1' x2' y0 y1 y2 z0 z1 z2
                go_wp2_with fail
                go_roundw
                case rel => exact ⟨i + 1, by omega, by omega, by go_num, B7, _, _, D7.out⟩
                case measure => simp [intOf]; omega
              · have hag := HDW.out.ag
                have eE := ag_alvE hag HOK.out (g := gi) HOwn.out
                have eI := ag_rdI hag HOK.out (g := gi) HOwn.out
                have hc1 := read_a o h x ni gi _ HDW.out.a
                go_wp2_with fail
                refine hc1.mono ?_
                rintro e w6 ⟨rfl, hb6⟩
                have D6 : Hid (Duo w6 o q h own x y) := HDW.out.below hb6
                have B6 := Below.onto BW hb6
                obtain ⟨_, _, y2, y3, _⟩ := F5.out.below hb6
                have hc2 := read_a q h y ni gi _ D6.out.b
                rw [← eE, ← eI] at hc2
                clear hc1 hb6 eE eI hag
                go_wp2_with fail
                refine hc2.mono ?_
                rintro e w7 ⟨rfl, hb7⟩
                have D7 : Hid (Duo w7 o q h own x y) := D6.out.below hb7
                have B7 := Below.onto B6 hb7
                clear hc2 hb7 D6 B6
                go_wp2_with fail
                go_roundw
                case rel => exact ⟨i + 1, by omega, by omega, by go_num, B7, _, _, D7.out⟩
                case measure => simp [intOf]; omega
          · by_cases hk4 : ki = 4
            · subst hk4
              have hc1 := free_a o h x ni gi _ HDW.out.a
              go_wp2_with fail
              refine hc1.mono ?_
              rintro e w6 ⟨rfl, ha6, hb6⟩
              have D6 : Hid (Duo w6 o q h part (frD h x ni gi) y) := ⟨ha6, HDW.out.b.but hb6 (fun b h1 h2 => HDW.out.no b h2 h1), ag_frD_other HDW.out.ag (by rw [HOwn.out]; exact hop), HDW.out.no⟩
              have B6 := BW.trans (hb6.below BW.size (fun g hg => HO.out g (.inl hg)))
              clear ha6 hb6 hc1
              go_wp2_with fail
              go_roundw
              case rel => exact ⟨i + 1, by omega, by omega, by go_num, B6, _, _, D6.out⟩
              case measure => simp [intOf]; omega
            · have hc1 := write_a o h x ni gi xi _ HDW.out.a HX.out
              by_cases hk2 : ki = 2
              · subst hk2
                go_wp2_with fail
                refine hc1.mono ?_
                rintro e w6 ⟨rfl, ha6, hb6⟩
                have D6 : Hid (Duo w6 o q h part (wrD h x ni gi xi) y) := ⟨ha6, HDW.out.b.but hb6 (fun b h1 h2 => HDW.out.no b h2 h1), ag_wrD_other HDW.out.ag (by rw [HOwn.out]; exact hop), HDW.out.no⟩
                have B6 := BW.trans (hb6.below BW.size (fun g hg => HO.out g (.inl hg)))
                clear ha6 hb6 hc1
                go_wp2_with fail
                go_roundw
                case rel => exact ⟨i + 1, by omega, by omega, by go_num, B6, _, _, D6.out⟩
                case measure => simp [intOf]; omega
              · go_wp2_with fail
                refine hc1.mono ?_
                rintro e w6 ⟨rfl, ha6, hb6⟩
                have D6 : Hid (Duo w6 o q h part (wrD h x ni gi xi) y) := ⟨ha6, HDW.out.b.but hb6 (fun b h1 h2 => HDW.out.no b h2 h1), ag_wrD_other HDW.out.ag (by rw [HOwn.out]; exact hop), HDW.out.no⟩
                have B6 := BW.trans (hb6.below BW.size (fun g hg => HO.out g (.inl hg)))
                clear ha6 hb6 hc1
                go_wp2_with fail
                go_roundw
                case rel => exact ⟨i + 1, by omega, by omega, by go_num, B6, _, _, D6.out⟩
                case measure => simp [intOf]; omega
      · have HE : Hid (i = len ∨ (i < len ∧ i = 60)) := by show i = len ∨ (i < len ∧ i = 60); omega
        clear hgo HS
        have hend : i = len ∨ (i < len ∧ i = 60) := HE.out
        clear HE
        rcases hend with rfl | ⟨hx9, rfl⟩
        all_goals
          go_wp2_with fail
          go_ret
          exact ⟨rfl, hbel⟩

set_option maxRecDepth 100000 in
theorem lifted (os : Os) (started : os.Started) (H : Type) (enc : TypeId × Value → H) :
    ReturnsInHanded {} Try.checked os 5 .any (Rows.arenaApartSpec.pre6 enc Try.prog Try.f5 Rows.arenaApartRow.domain false) (Rows.arenaApartSpec.post enc Try.prog Try.f5 false true false false) := by
  refine returnsInHanded_of_change (C := Try.checked) own started (by kernel_rfl) Try.func5
    (ChangeSpec.witness6 (enc := enc) (C := Try.checked) false ⟨#[], #[.slice none 0 0, .int .i64 0, .slice none 0 0], []⟩ 8 (by kernel_rfl) (by kernel_rfl) (by kernel_rfl) (by kernel_rfl)) ?_
  intro W base args ds gs before hval0 hW hcnd _
  have hval : ∀ (j : Nat) t v, Try.f5.params[j]? = some t → args[j]? = some v → Value.okWide Try.prog W .any base t v := hval0
  have hW' := hW
  obtain ⟨p, q, hA0, hV, rfl, hfz, hnd⟩ := hW
  have hA : DataW.TrodAll enc Try.prog W 0 (fun _ => true) true Try.f5.params.toList args.toList ds p := hA0
  rw [Try.params5] at hA hval
  obtain ⟨v0, vs0, d0, ds0, p0, q0, hargs, rfl, rfl, h0, r0⟩ := trodAll_cons hA
  obtain ⟨v1, vs1, d1, ds1, p1, q1, rfl, rfl, rfl, h1, r1⟩ := trodAll_cons r0
  obtain ⟨v2, vs2, d2, ds2, p2, q2, rfl, rfl, rfl, h2, r2⟩ := trodAll_cons r1
  obtain ⟨rfl, rfl, rfl⟩ := trodAll_nil r2
  obtain rfl : args = #[v0, v1, v2] := by cases args; simp_all
  obtain ⟨rfl, rfl⟩ := trodVars_none hV
  obtain ⟨a0, len0, cap0, rfl⟩ := okWide_slice Try.underlying22 (hval 0 22 v0 rfl rfl)
  have k0 := h0
  have lt0 : ∀ x ∈ p0, x.block < W.heap.size := by obtain ⟨m, hm⟩ := k0; exact DataW.trod_lt m _ _ _ hm
  obtain ⟨z0, w0⟩ : ∃ z, IsRow .i64 W a0 len0 cap0 z := by
    obtain ⟨fuel, hf⟩ := h0
    rcases open_ints Try.underlying22 Try.underlying3 (by kernel_rfl) hf with ⟨hcs, _⟩ | ⟨x, l, c, zs, hcs, _, hl, hm, hz, _, hcell, hwz⟩
    · simp [Value.cells] at hcs
      obtain ⟨rfl, rfl, rfl⟩ := hcs
      exact ⟨_, isRow_nil _ _⟩
    · simp [Value.cells] at hcs
      obtain ⟨rfl, rfl, rfl⟩ := hcs
      exact ⟨_, isRow_some hl hm (by simpa using hz) hcell hwz⟩
  obtain ⟨a1, rfl, rfl, rfl, w1⟩ := open_int Try.underlying3 (hval 1 3 v1 rfl rfl) h1
  have k2 := h2
  have lt2 : ∀ x ∈ p2, x.block < W.heap.size := by obtain ⟨m, hm⟩ := k2; exact DataW.trod_lt m _ _ _ hm
  obtain ⟨a, len, cap, K, P, N, G, X, rfl, w2⟩ := open_aops (hval 2 23 v2 rfl rfl) h2
  clear hA0 hval0
  refine (walk a0 len0 cap0 z0 a1 a len cap K P N G X W w0 w2).mono fun e W' ⟨he, bel⟩ => ?_
  subst he
  exact ⟨_, rfl, _, _, _, [], _, [], hW', trodAll_mk1 (shut_bool Try.underlying4 _), (trodAll_cons_mk (Below.trod laidOut (by kernel_rfl) (of_decide_eq_true (by kernel_rfl)) k0 bel lt0) (trodAll_cons_mk (shut_int Try.underlying3 w1) (trodAll_cons_mk (Below.trod laidOut (by kernel_rfl) (of_decide_eq_true (by kernel_rfl)) k2 bel lt2) trodAll_mk0))), rfl, bel.frame _, fun h => by cases h⟩

end Go.Proofs.Ytobpignlamekmaa.arenaApart
namespace Go.Proofs.Ytobpignlamekmaa

/-- The statement ArenaApart. -/
theorem ArenaApartHolds : Rows.ArenaApartSaid :=
  OpenClaim.holds_of_wide 5 Try.f5 rfl rfl rfl rfl rfl rfl rfl ⟨rfl, rfl, rfl, rfl, rfl⟩ rfl rfl rfl rfl rfl (by kernel_rfl) Try.func5 (by kernel_rfl)
    (of_decide_eq_true (by kernel_rfl)) (by unfold Func.isWrapper; first | (rw [if_pos (by decide +kernel)]; kernel_rfl) | (rw [if_neg (by decide +kernel)]; exact ⟨rfl, rfl⟩))
    (fun os started H enc _ => arenaApart.lifted os started H enc)

end Go.Proofs.Ytobpignlamekmaa
