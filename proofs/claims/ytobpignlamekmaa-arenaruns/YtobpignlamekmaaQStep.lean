/- The law's step: an act of the program's arena and of the document's. -/
import Derived.Test.YtobpignlamekmaaQNew
import Derived.Deep.RegionHeld3
namespace Go.Proofs.Ytobpignlamekmaa
open Go.RowKit Go.Sort
set_option maxRecDepth 100000

/-- the program's arena and the document's in one memory, alike -/
structure Q2 (w : World) (o : Po) (q : Qo) (h : Sh) (d : Da) : Prop where
  a : Ax w o h d
  b : Qx w q h (qOf h d)
  c : Cont h
  lo : ∀ b, o.has b → b < q.B
  cl : ∀ b, q.cl = some ⟨b, 0, none⟩ → b < w.heap.size
def Qo.both (o : Po) (q : Qo) (g : Nat) : Prop := o.has g ∨ q.wr g
section
variable {w w' : World} {o : Po} {q : Qo} {h : Sh} {d d' : Da}
theorem Q2.hi (s : Q2 w o q h d) : ∀ g, q.wr g → q.B ≤ g := fun g hg => by
  rcases hg with rfl | hg
  · exact s.b.lo.2.2.1
  · exact s.b.lo.2.2.2 g hg
theorem Q2.no (s : Q2 w o q h d) : ∀ g, o.has g → ¬ q.wr g := fun g h1 h2 => by
  have := s.lo g h1
  have := s.hi g h2
  omega
theorem Q2.lt (s : Q2 w o q h d) : ∀ g, Qo.both o q g → g < w.heap.size := fun g hg => by
  rcases hg with hg | rfl | hg
  · exact s.a.lt g hg
  · exact s.b.lt.2.2.1
  · exact s.cl g hg
theorem Q2.below (s : Q2 w o q h d) (hb : Below w.heap.size w w') : Q2 w' o q h d := ⟨s.a.below hb, s.b.below hb, s.c, s.lo, fun b e => Nat.lt_of_lt_of_le (s.cl b e) hb.size⟩
/-- both acts, one behind the other -/
theorem Q2.acts {w1 w2 : World} (s : Q2 w o q h d) (a1 : Ax w1 o h d') (h1 : But o.has w w1) (b2 : Qx w2 q h (qOf h d')) (h2 : But q.wr w1 w2) : Q2 w2 o q h d' ∧ But (Qo.both o q) w w2 :=
  ⟨⟨a1.but h2 s.no, b2, s.c, s.lo, fun b e => Nat.lt_of_lt_of_le (s.cl b e) (Nat.le_trans h1.size h2.size)⟩, (h1.mono fun _ => .inl).trans (h2.mono fun _ => .inr)⟩
end

set_option maxHeartbeats 8000000 in
theorem step_q (o : Po) (q : Qo) (h : Sh) (d : Da) (ki pi ni gi xi : Int) (w : World) (s : Q2 w o q h d) (hX : 0 ≤ xi ∧ xi < 18446744073709551616) :
    Calls Try.prog 12 #[o.ptr, q.ptr, .agg #[.int .i64 ki, .int .i64 pi, .int .i64 ni, .int .u64 gi, .int .u64 xi]] w fun e w' => e = .returned (.bool true) ∧ (∃ d', Q2 w' o q h d') ∧ But (Qo.both o q) w w' := by
  have hbx := below_box w (.cells #[.int .i64 ki, .int .i64 pi, .int .i64 ni, .int .u64 gi, .int .u64 xi] 38)
  have F5 : Hid (Five _ _ _ _ _ _ _) := five_box w (.int .i64 ki) (.int .i64 pi) (.int .i64 ni) (.int .u64 gi) (.int .u64 xi) 38
  obtain ⟨W, hW⟩ : ∃ W, w.alloc (.cells #[.int .i64 ki, .int .i64 pi, .int .i64 ni, .int .u64 gi, .int .u64 xi] 38) = W := ⟨_, rfl⟩
  rw [hW] at hbx F5
  have HS : Hid (Q2 W o q h d) := s.below hbx
  have BW : Hid (But (Qo.both o q) w W) := But.of hbx
  have nB : Hid (¬ Qo.both o q w.heap.size) := fun hb => by have := s.lt _ hb; omega
  have HX : Hid (0 ≤ xi ∧ xi < 18446744073709551616) := hX
  obtain ⟨c0, c1, c2, c3, c4⟩ := F5.out
  clear hbx hX s
  generalize hB : w.heap.size = B at *
  go_enter Try.func12, Try.ntmps12
  by_cases hk1 : ki = 1
  · subst hk1
    have hc1 := alloc_a o h d pi W HS.out.a
    go_wp2_with fail
    refine hc1.mono ?_
    rintro e w5 ⟨rfl, ha5, hb5⟩
    have hbx := below_box w5 (.cells #[.int .i64 (alN h d pi), .int .u64 (alG h d pi)] 36)
    have Q5 : Hid (Qx _ q h (qOf h d)) := (HS.out.b.but hb5 HS.out.lo).below hbx
    have hc2 := ralloc_q q h d pi _ Q5.out HS.out.a.fr'
    have hw5 := hb5.size
    have n5 : Hid (¬ q.wr w5.heap.size) := fun hb => by have := HS.out.lt _ (.inr hb); omega
    have T5 : Hid (Two _ _ _ _) := two_box w5 (.int .i64 (alN h d pi)) (.int .u64 (alG h d pi)) 36
    have A5 : Hid (Ax _ o h (alD h d pi)) := ha5.below hbx
    have B5 : Hid (But o.has W _) := hb5.trans (But.of hbx)
    obtain ⟨_, y1, _⟩ := (F5.out.but hb5 (fun hb => nB.out (.inl hb))).below hbx
    clear hc1 ha5 hb5 hbx hw5
    go_wp2_with fail
    refine hc2.mono ?_
    rintro e w6 ⟨rfl, ha6, hb6⟩
    have hbx := below_box w6 (.cells #[.int .i64 (alN h d pi), .int .u64 (alG h d pi)] 36)
    obtain ⟨D6, E6⟩ := HS.out.acts A5.out B5.out ha6 hb6
    have S6 : Hid (Q2 _ o q h (alD h d pi)) := D6.below hbx
    have B6 : Hid (But (Qo.both o q) w _) := (BW.out.trans E6).trans (But.of hbx)
    obtain ⟨t0, t1⟩ := (T5.out.but hb6 n5.out).below hbx
    obtain ⟨u0, u1⟩ := two_box w6 (.int .i64 (alN h d pi)) (.int .u64 (alG h d pi)) 36
    clear ha6 hb6 hbx hc2 A5 Q5 T5 D6 E6
    generalize alN h d pi = n1 at *
    generalize alG h d pi = g1 at *
    generalize alE h d pi = e1 at *
    go_wp2_with fail
    go_ret
    exact ⟨ret_bool (by simp), ⟨_, S6.out⟩, B6.out⟩
  by_cases hk2 : ki = 2
  · subst hk2
    have z0 : W.drew.cell? ⟨B, 2, none⟩ = some (.int .i64 ni) := c2
    have z1 : W.drew.cell? ⟨B, 3, none⟩ = some (.int .u64 gi) := c3
    have z2 : W.drew.cell? ⟨B, 4, none⟩ = some (.int .u64 xi) := c4
    have DD : Hid (Q2 W.drew o q h d) := HS.out.below ((Below.refl _ _).drew)
    have hc1 := write_a o h d ni gi xi _ DD.out.a HX.out
    have hc2 : Hid (∀ W', But o.has W.drew W' → Calls Try.prog 30 #[q.ptr, .agg #[.int .i64 ni, .int .u64 gi], .int .u64 xi] W' fun e w' => e = .returned (.int .i64 (alvE h d ni gi)) ∧ Qx w' q h (qOf h (wrD h d ni gi xi)) ∧ But q.wr W' w') := fun W' hW' => rwrite_q q h d ni gi xi W' (DD.out.b.but hW' DD.out.lo)
    have nB1 : ¬ o.has B := fun hb => nB.out (.inl hb)
    have nB2 : ¬ q.wr B := fun hb => nB.out (.inr hb)
    go_wp2_with fail
    go_region_held3 (fun W => W.cell? ⟨B, 2, none⟩ = some (.int .i64 ni) ∧ W.cell? ⟨B, 3, none⟩ = some (.int .u64 gi) ∧ W.cell? ⟨B, 4, none⟩ = some (.int .u64 xi)) (first | assumption | exact ⟨z0, z1, z2⟩ | exact ⟨y0, y1, y2⟩ | exact ⟨x0', x1', x2'⟩) (first
      | (go_at_call 24; (with_reducible refine hc1.mono ?_); rintro e w6 ⟨rfl, ha6, hb6⟩; have y0 := hb6.cell z0 nB1; have y1 := hb6.cell z1 nB1; have y2 := hb6.cell z2 nB1; have hc3 := hc2.out w6 hb6)
      | (go_at_call 30; (with_reducible refine hc3.mono ?_); rintro e w7 ⟨rfl, ha7, hb7⟩; have x0' := hb7.cell y0 nB2; have x1' := hb7.cell y1 nB2; have x2' := hb7.cell y2 nB2))
    obtain ⟨D7, E7⟩ := DD.out.acts ha6 hb6 ha7 hb7
    have S7 : Hid (Q2 w7 o q h (wrD h d ni gi xi)) := D7
    have B7 : Hid (But (Qo.both o q) w w7) := BW.out.drew.trans E7
    clear ha6 hb6 ha7 hb7 hc1 hc2 hc3 x0' x1' x2' y0 y1 y2 z0 z1 z2 D7 E7
    go_wp2_with fail
    go_ret
    exact ⟨ret_bool (by simp), ⟨_, S7.out⟩, B7.out⟩
  by_cases hk3 : ki = 3
  · subst hk3
    have hc1 := read_a o h d ni gi _ HS.out.a
    go_wp2_with fail
    refine hc1.mono ?_
    rintro e w6 ⟨rfl, hb6⟩
    have D6 : Hid (Q2 w6 o q h d) := HS.out.below hb6
    have B6 : Hid (But (Qo.both o q) w w6) := BW.out.trans (But.of hb6)
    obtain ⟨_, _, y2, y3, _⟩ := F5.out.below hb6
    have hc2 := rread_q q h d ni gi _ D6.out.b
    clear hc1 hb6
    go_wp2_with fail
    refine hc2.mono ?_
    rintro e w7 ⟨rfl, hb7⟩
    have D7 : Hid (Q2 w7 o q h d) := D6.out.below hb7
    have B7 : Hid (But (Qo.both o q) w w7) := B6.out.trans (But.of hb7)
    clear hc2 hb7 D6 B6
    generalize rdI h d ni gi = n1 at *
    generalize alvE h d ni gi = e1 at *
    go_wp2_with fail
    go_ret
    exact ⟨ret_bool (by simp), ⟨_, D7.out⟩, B7.out⟩
  by_cases hk4 : ki = 4
  · subst hk4
    have z0 : W.drew.cell? ⟨B, 2, none⟩ = some (.int .i64 ni) := c2
    have z1 : W.drew.cell? ⟨B, 3, none⟩ = some (.int .u64 gi) := c3
    have DD : Hid (Q2 W.drew o q h d) := HS.out.below ((Below.refl _ _).drew)
    have hc1 := free_a o h d ni gi _ DD.out.a
    have hc2 : Hid (∀ W', But o.has W.drew W' → Calls Try.prog 32 #[q.ptr, .agg #[.int .i64 ni, .int .u64 gi]] W' fun e w' => e = .returned (.int .i64 (alvE h d ni gi)) ∧ Qx w' q h (qOf h (frD h d ni gi)) ∧ But q.wr W' w') := fun W' hW' => rdrop_q q h d ni gi W' (DD.out.b.but hW' DD.out.lo) DD.out.a.fr' DD.out.c
    have nB1 : ¬ o.has B := fun hb => nB.out (.inl hb)
    have nB2 : ¬ q.wr B := fun hb => nB.out (.inr hb)
    go_wp2_with fail
    go_region_held3 (fun W => W.cell? ⟨B, 2, none⟩ = some (.int .i64 ni) ∧ W.cell? ⟨B, 3, none⟩ = some (.int .u64 gi)) (first | assumption | exact ⟨z0, z1⟩ | exact ⟨y0, y1⟩ | exact ⟨x0', x1'⟩) (first
      | (go_at_call 25; (with_reducible refine hc1.mono ?_); rintro e w6 ⟨rfl, ha6, hb6⟩; have y0 := hb6.cell z0 nB1; have y1 := hb6.cell z1 nB1; have hc3 := hc2.out w6 hb6)
      | (go_at_call 32; (with_reducible refine hc3.mono ?_); rintro e w7 ⟨rfl, ha7, hb7⟩; have x0' := hb7.cell y0 nB2; have x1' := hb7.cell y1 nB2))
    obtain ⟨D7, E7⟩ := DD.out.acts ha6 hb6 ha7 hb7
    have S7 : Hid (Q2 w7 o q h (frD h d ni gi)) := D7
    have B7 : Hid (But (Qo.both o q) w w7) := BW.out.drew.trans E7
    clear ha6 hb6 ha7 hb7 hc1 hc2 hc3 x0' x1' y0 y1 z0 z1 D7 E7
    go_wp2_with fail
    go_ret
    exact ⟨ret_bool (by simp), ⟨_, S7.out⟩, B7.out⟩
  go_wp2_with fail
  go_ret
  exact ⟨rfl, ⟨_, HS.out⟩, BW.out⟩
end Go.Proofs.Ytobpignlamekmaa
