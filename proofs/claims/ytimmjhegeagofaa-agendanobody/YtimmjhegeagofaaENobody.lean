/- AgendaNobody: agendas that nobody made, or that have no less, refuse all. -/
import Derived.Test.YtimmjhegeagofaaENob2
import Derived.Test.YtimmjhegeagofaaEAlive
import Derived.Test.YtimmjhegeagofaaEDo
namespace Go.Proofs.Ytimmjhegeagofaa
open Go.RowKit Go.Sort Go.Shelf
set_option maxRecDepth 100000

set_option maxHeartbeats 2000000 in
/-- Order without less, at one thing -/
theorem norder (B : Nat) (k m : Int) (w : World) (b : Blk w B 27 [.int .i8 k, .int .i64 m]) :
    Calls Try.prog 18 #[.nilFunc, .slice (some ⟨B, 0, none⟩) 1 1] w fun e w' => e = .returned (.slice none 0 0) ∧ Below w.heap.size w w' := by
  have cN := nnew w
  have HBl : Hid (Blk w B 27 [.int .i8 k, .int .i64 m]) := b
  clear b
  go_enter Try.func18, Try.ntmps18
  go_wp2_with fail
  refine cN.mono ?_
  rintro e w1 ⟨rfl, rfl⟩
  clear cN
  go_wp2_with fail
  have n1 : Nb (w.alloc (.cells #[.pointer none] 60)) (ptr w.heap.size) := .inr ⟨_, rfl, blk_new w _ _⟩
  have hb1 : Below w.heap.size w (w.alloc (.cells #[.pointer none] 60)) := (Below.refl _ w).alloc (Nat.le_refl _) _
  have b1 : Blk (w.alloc (.cells #[.pointer none] 60)) B 27 [.int .i8 k, .int .i64 m] := HBl.out.below hb1
  generalize w.alloc (.cells #[.pointer none] 60) = w1 at *
  have H1 : Hid (Nb w1 (ptr w.heap.size) ∧ Below w.heap.size w w1 ∧ Blk w1 B 27 [.int .i8 k, .int .i64 m]) := ⟨n1, hb1, b1⟩
  clear n1 hb1 b1 HBl
  generalize hq : w.heap.size = q at *
  go_loopw [12] (fun v wr => (v = .int .i64 0 ∧ wr = w1) ∨ (v = .int .i64 1 ∧ Hid (Below w1.heap.size w1 wr))) (fun v _ => 1 - (intOf v).toNat)
  case atStart => exact .inl ⟨rfl, rfl⟩
  case round =>
    rcases hrel with ⟨rfl, rfl⟩ | ⟨rfl, hb⟩
    · have l1 := H1.out.2.2.cell (i := 0) rfl
      have l2 := H1.out.2.2.cell (i := 1) rfl
      have HX : Hid (Below wr.heap.size wr (bxV wr k m)) := (Below.refl _ wr).alloc (Nat.le_refl _) _
      have cP := npush (bxV wr k m) (ptr q) (H1.out.1.below HX.out) k m
      unfold bxV thV at cP
      go_wp2_with fail
      refine cP.mono ?_
      rintro e w2 ⟨rfl, hb2⟩
      have HY : Hid (Below wr.heap.size wr w2) := Below.onto HX.out hb2
      clear cP hb2
      go_wp2_with fail
      go_roundw
      case rel => exact .inr ⟨rfl, HY.out⟩
      case measure => simp [intOf]
    · have n2 := H1.out.1.below hb.out
      have hbw : Below q w wr := H1.out.2.1.trans (hb.out.mono (by rw [← hq]; exact H1.out.2.1.size))
      have cD := nDrain (ptr q) wr
      have HD : Hid (Below wr.heap.size wr (bx1 wr (pvV (ptr q)) 38)) := (Below.refl _ wr).alloc (Nat.le_refl _) _
      have cC := ncollect wr.heap.size (ptr q) (bx1 wr (pvV (ptr q)) 38) (n2.below HD.out) (blk_new wr _ _)
      have HW : Hid (Below q w wr) := hbw
      clear n2 hbw
      go_wp2_with fail
      refine cD.mono ?_
      rintro e w2 ⟨rfl, hw2⟩
      rw [← hw2] at cC HD
      clear cD hw2
      go_wp2_with fail
      refine cC.mono ?_
      rintro e w3 ⟨rfl, hb3⟩
      have HZ : Hid (Below q w w3) := HW.out.trans ((Below.onto HD.out hb3).mono (by have := HW.out.size; omega))
      clear cC hb3
      go_wp2_with fail
      go_ret
      exact ⟨rfl, by rw [hq]; exact HZ.out⟩
set_option maxHeartbeats 2000000 in
theorem enobody (o : Eo) (w : World) (_ : o.okk) :
    Calls Try.prog 7 #[eoV o] w fun e w' => e = .returned (.bool true) ∧ Below w.heap.size w w' := by
  have cN := nnew
  have hny := nilA
  go_enter Try.func7, Try.ntmps7
  go_wp2_with fail
  refine (cN _).mono ?_
  rintro e w1 ⟨rfl, hw1⟩
  go_wp2_with fail
  have S0 : Hid (∃ w0 : World, w0 = w1.alloc (.cells #[.pointer none, ptr (w.heap.size + 1), ptr (w.heap.size + 1 + 1)] 23) ∧ Below w.heap.size w w0 ∧ Blk w0 w.heap.size 35 [.int .i64 o.kd, .int .i8 o.k, .int .i64 o.m, .int .i64 o.id, .int .i64 o.n] ∧ Blk w0 (w.heap.size + 1 + 1 + 1) 23 [.pointer none, ptr (w.heap.size + 1), ptr (w.heap.size + 1 + 1)] ∧ Nb w0 (ptr (w.heap.size + 1)) ∧ Nb w0 (ptr (w.heap.size + 1 + 1))) := by
    subst hw1
    refine ⟨_, rfl, ?_⟩
    have d0 := blk_new w [.int .i64 o.kd, .int .i8 o.k, .int .i64 o.m, .int .i64 o.id, .int .i64 o.n] 35
    have e0 : Below w.heap.size w (w.alloc (.cells [Value.int .i64 o.kd, .int .i8 o.k, .int .i64 o.m, .int .i64 o.id, .int .i64 o.n].toArray 35)) := (Below.refl _ w).alloc (Nat.le_refl _) _
    have z0 : (w.alloc (.cells [Value.int .i64 o.kd, .int .i8 o.k, .int .i64 o.m, .int .i64 o.id, .int .i64 o.n].toArray 35)).heap.size = w.heap.size + 1 := by simp
    show Below _ w (((World.alloc (w.alloc (.cells [Value.int .i64 o.kd, .int .i8 o.k, .int .i64 o.m, .int .i64 o.id, .int .i64 o.n].toArray 35)) (.cells #[.pointer none] 60)).alloc (.cells #[.pointer none] 60)).alloc (.cells #[.pointer none, ptr (w.heap.size + 1), ptr (w.heap.size + 1 + 1)] 23)) ∧ Blk (((World.alloc (w.alloc (.cells [Value.int .i64 o.kd, .int .i8 o.k, .int .i64 o.m, .int .i64 o.id, .int .i64 o.n].toArray 35)) (.cells #[.pointer none] 60)).alloc (.cells #[.pointer none] 60)).alloc (.cells #[.pointer none, ptr (w.heap.size + 1), ptr (w.heap.size + 1 + 1)] 23)) _ _ _ ∧ _
    generalize w.alloc (.cells [Value.int .i64 o.kd, .int .i8 o.k, .int .i64 o.m, .int .i64 o.id, .int .i64 o.n].toArray 35) = x0 at *
    have d1 := blk_new x0 [.pointer none] 60
    have e1 : Below x0.heap.size x0 (x0.alloc (.cells [Value.pointer none].toArray 60)) := (Below.refl _ _).alloc (Nat.le_refl _) _
    have z1 : (x0.alloc (.cells [Value.pointer none].toArray 60)).heap.size = x0.heap.size + 1 := by simp
    change Below x0.heap.size x0 (x0.alloc (.cells #[.pointer none] 60)) at e1
    change Blk (x0.alloc (.cells #[.pointer none] 60)) _ _ _ at d1
    change (x0.alloc (.cells #[.pointer none] 60)).heap.size = _ at z1
    generalize x0.alloc (.cells #[.pointer none] 60) = x1 at *
    have d2 := blk_new x1 [.pointer none] 60
    have e2 : Below x1.heap.size x1 (x1.alloc (.cells #[.pointer none] 60)) := (Below.refl _ _).alloc (Nat.le_refl _) _
    have z2 : (x1.alloc (.cells #[.pointer none] 60)).heap.size = x1.heap.size + 1 := by simp
    change Blk (x1.alloc (.cells #[.pointer none] 60)) _ _ _ at d2
    generalize x1.alloc (.cells #[.pointer none] 60) = x2 at *
    have d3 := blk_new x2 [.pointer none, ptr (w.heap.size + 1), ptr (w.heap.size + 1 + 1)] 23
    have e3 : Below x2.heap.size x2 (x2.alloc (.cells #[.pointer none, ptr (w.heap.size + 1), ptr (w.heap.size + 1 + 1)] 23)) := (Below.refl _ _).alloc (Nat.le_refl _) _
    change Blk (x2.alloc (.cells #[.pointer none, ptr (w.heap.size + 1), ptr (w.heap.size + 1 + 1)] 23)) _ _ _ at d3
    generalize x2.alloc (.cells #[.pointer none, ptr (w.heap.size + 1), ptr (w.heap.size + 1 + 1)] 23) = x3 at *
    rw [z2, z1, z0] at d3
    rw [z1, z0] at d2
    rw [z0] at d1
    refine ⟨Below.onto (Below.onto (Below.onto e0 e1) e2) e3, ((d0.below e1).below e2).below e3, d3, .inr ⟨_, rfl, (d1.below e2).below e3⟩, .inr ⟨_, rfl, d2.below e3⟩⟩
  rw [← hw1]
  obtain ⟨w0, hw0, S0⟩ := S0
  change Code.wp _ _ _ _ (w1.alloc (.cells #[.pointer none, ptr (w.heap.size + 1), ptr (w.heap.size + 1 + 1)] 23))
  rw [← hw0]
  clear hw0 hw1 cN
  generalize hq : w.heap.size = q at *
  go_loopw [22] (fun v wr => ∃ i : Nat, i ≤ 3 ∧ v = .int .i64 (i : Int) ∧ Hid (Below w0.heap.size w0 wr)) (fun v _ => 3 - (intOf v).toNat)
  case atStart => exact ⟨0, by omega, rfl, Below.refl _ _⟩
  case round =>
    obtain ⟨i, hi, rfl, HB⟩ := hrel
    by_cases hlt : i < 3
    · obtain ⟨av, HA⟩ : ∃ av, Hid (w0.cell? ⟨q + 1 + 1 + 1, i, none⟩ = some av ∧ Nb w0 av) := by
        have k := S0.2.2.1
        match i, hlt with
        | 0, _ => exact ⟨_, k.cell (i := 0) rfl, .inl rfl⟩
        | 1, _ => exact ⟨_, k.cell (i := 1) rfl, S0.2.2.2.1⟩
        | 2, _ => exact ⟨_, k.cell (i := 2) rfl, S0.2.2.2.2⟩
      have c1 := (HB.out.block (q + 1 + 1 + 1) S0.2.2.1.lt)
      have l0 : wr.cell? ⟨q + 1 + 1 + 1, i, none⟩ = some av := (World.cell?_of_block c1).trans HA.out.1
      have hx := (S0.2.1.below HB.out)
      have l1 := hx.cell (i := 1) rfl
      have l2 := hx.cell (i := 2) rfl
      clear c1 hx
      go_wp2_with fail
      refine (npush wr av (HA.out.2.below HB.out) o.k o.m).mono ?_
      rintro e w1 ⟨rfl, h1⟩
      have HB1 : Hid (Below w0.heap.size w0 w1) := Below.onto HB.out h1
      clear h1 l0 l1 l2 HB
      go_wp2_with fail
      refine (nfirst w1 av (HA.out.2.below HB1.out)).mono ?_
      rintro e w2 ⟨rfl, h1⟩
      have HB2 : Hid (Below w0.heap.size w0 (bxV w2 0 0)) := (Below.onto HB1.out h1).alloc (by have := (Below.onto HB1.out h1).size; exact this) _
      have X2 : Hid (Blk (bxV w2 0 0) w2.heap.size 27 [.int .i8 0, .int .i64 0]) := blk_new w2 _ _
      clear h1 HB1
      unfold tl0 thV
      go_wp2_with fail
      refine (npop (bxV w2 0 0) av (HA.out.2.below HB2.out)).mono ?_
      rintro e w3 ⟨rfl, h1⟩
      have HB3 : Hid (Below w0.heap.size w0 (bxV w3 0 0)) := (Below.onto HB2.out h1).alloc (by have := (Below.onto HB2.out h1).size; exact this) _
      have hz : Below w3.heap.size w3 (bxV w3 0 0) := (Below.refl _ w3).alloc (Nat.le_refl _) _
      have X3 : Hid (Blk (bxV w3 0 0) w2.heap.size 27 [.int .i8 0, .int .i64 0]) := (X2.out.below h1).below hz
      have Y3 : Hid (Blk (bxV w3 0 0) w3.heap.size 27 [.int .i8 0, .int .i64 0]) := blk_new w3 _ _
      clear h1 hz HB2 X2
      unfold tl0 thV
      go_wp2_with fail
      refine (nget (bxV w3 0 0) av (HA.out.2.below HB3.out) 1).mono ?_
      rintro e w4 ⟨rfl, h1⟩
      have HB4 : Hid (Below w0.heap.size w0 (bxV w4 0 0)) := (Below.onto HB3.out h1).alloc (by have := (Below.onto HB3.out h1).size; exact this) _
      have hz : Below w4.heap.size w4 (bxV w4 0 0) := (Below.refl _ w4).alloc (Nat.le_refl _) _
      have X4 : Hid (Blk (bxV w4 0 0) w2.heap.size 27 [.int .i8 0, .int .i64 0]) := (X3.out.below h1).below hz
      have Y4 : Hid (Blk (bxV w4 0 0) w3.heap.size 27 [.int .i8 0, .int .i64 0]) := (Y3.out.below h1).below hz
      have Z4 : Hid (Blk (bxV w4 0 0) w4.heap.size 27 [.int .i8 0, .int .i64 0]) := blk_new w4 _ _
      clear h1 hz HB3 X3 Y3
      have hx := (S0.2.1.below HB4.out)
      have l1 := hx.cell (i := 1) rfl
      have l2 := hx.cell (i := 2) rfl
      clear hx
      unfold bxV at l1 l2
      unfold thV
      generalize hxx : w2.heap.size = bx at *
      generalize hyy : w3.heap.size = bY at *
      clear hxx hyy
      go_wp2_with fail
      refine (nset (bxV w4 0 0) av (HA.out.2.below HB4.out) 1 o.k o.m).mono ?_
      rintro e w5 ⟨rfl, h1⟩
      have HB5 : Hid (Below w0.heap.size w0 w5) := Below.onto HB4.out h1
      have X5 := X4.out.below h1
      have Y5 := Y4.out.below h1
      have Z5 := Z4.out.below h1
      clear h1 l1 l2 HB4 X4 Y4 Z4
      have cd := ndrop w5 av (HA.out.2.below HB5.out) 1
      have cl := nlen w5 av (HA.out.2.below HB5.out)
      have cr := ndrain av w5 (HA.out.2.below HB5.out)
      have a1 := X5.cell (i := 0) rfl
      have a2 := X5.cell (i := 1) rfl
      have a3 := Y5.cell (i := 0) rfl
      have a4 := Y5.cell (i := 1) rfl
      have a5 := Z5.cell (i := 0) rfl
      have a6 := Z5.cell (i := 1) rfl
      clear X5 Y5 Z5
      go_wp2_with fail
      refine cd.mono ?_
      rintro e w' ⟨rfl, hw'⟩
      subst hw'
      clear cd
      go_wp2_with fail
      refine cl.mono ?_
      rintro e w5 ⟨rfl, hw'⟩
      subst hw'
      clear cl
      go_wp2_with fail
      refine cr.mono ?_
      rintro e w6 ⟨rfl, h6⟩
      have HB6 : Hid (Below w0.heap.size w0 w6) := Below.onto HB5.out h6
      clear cr h6 HB5 a1 a2 a3 a4 a5 a6
      go_wp2_with fail
      go_roundw
      case rel => exact ⟨i + 1, by omega, by simp, HB6.out⟩
      case measure => simp only [intOf]; omega
    · obtain rfl : i = 3 := by omega
      have hx := (S0.2.1.below HB.out)
      have l1 := hx.cell (i := 1) rfl
      have l2 := hx.cell (i := 2) rfl
      clear hx
      go_wp2_with fail
      have hz : Below wr.heap.size wr (bxV wr o.k o.m) := (Below.refl _ wr).alloc (Nat.le_refl _) _
      refine (norder wr.heap.size o.k o.m (bxV wr o.k o.m) (blk_new wr _ _)).mono ?_
      rintro e w1 ⟨rfl, h1⟩
      have HB1 : Hid (Below w0.heap.size w0 w1) := Below.onto HB.out (Below.onto hz h1)
      clear h1 hz HB l1 l2
      go_wp2_with fail
      refine (ealive w1).mono ?_
      rintro e w2 ⟨rfl, h1⟩
      have HB2 : Hid (Below q w w2) := S0.1.trans ((Below.onto HB1.out h1).mono (by have := S0.1.size; omega))
      clear h1 HB1
      go_wp2_with fail
      go_ret
      exact ⟨rfl, by rw [hq]; exact HB2.out⟩
end Go.Proofs.Ytimmjhegeagofaa
