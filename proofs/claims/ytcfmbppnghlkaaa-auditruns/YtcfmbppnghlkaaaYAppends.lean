/- AuditAppends, walked. -/
import Derived.Test.YtcfmbppnghlkaaaYOf
import Derived.Test.YtcfmbppnghlkaaaYArg
namespace Go.Proofs.Ytcfmbppnghlkaaa
open Go.RowKit Go.Sort Go.Shelf
set_option maxRecDepth 100000

theorem rcAt_own2 {w : World} {base : Nat} {v : Value} {l : List Rc} (h : w.ownsRow base 38 4 v l.length (encRs l)) : ∃ a c, v = .slice a l.length c ∧ l.length ≤ c ∧ RcAt w a l ∧ ∀ b off, a = some ⟨b, off, none⟩ → base ≤ b ∧ b < w.heap.size := by
  obtain ⟨a, c, hv, hc, _⟩ := own_at h
  obtain ⟨a', c', hv', hr⟩ := rcAt_own h
  rw [hv] at hv'
  injection hv' with e1 e2 e3
  subst e1 e3
  refine ⟨a, c, hv, hc, hr, fun b off e => ?_⟩
  have hb : v.ownBlock = some b := by rw [hv, e]; rfl
  exact h.lt b hb
theorem RcAt.take {w : World} {a : Option Addr} {l : List Rc} (h : RcAt w a l) (n : Nat) : RcAt w a (l.take n) := fun j r hr => by
  rw [List.getElem?_take] at hr
  split at hr
  · exact h j r hr
  · cases hr
theorem RcAt.but {w w' : World} {a : Option Addr} {l : List Rc} {S : Nat → Prop} (h : RcAt w a l) (hb : But S w w') (hS : ∀ b off, a = some ⟨b, off, none⟩ → ¬ S b) : RcAt w' a l := fun j r hr => by
  obtain ⟨b, off, e, hc⟩ := h j r hr
  exact ⟨b, off, e, fun k v hv => hb.cell (hc k v hv) (hS b off e)⟩
/-- an Add, with what it leaves alone -/
theorem Yw.addB {w0 w : World} {p : Nat} {R : List Int} {L : List Rc} {o : Yo} (y : Yw w0 w p R L o) {r : Rc} (hr : r.Ok) :
    Calls Try.prog 12 #[ptr p, recV r] w fun e w' => e = .returned (.int .i64 (addE R L r)) ∧ ∃ o', Yw w0 w' p R (addL R L r) o' ∧ But (o.has R p) w w' ∧ ∀ b, o'.has R p b → o.has R p b ∨ w.heap.size ≤ b := by
  refine (yAdd w p o R L r y.x hr).mono ?_
  rintro e w' ⟨rfl, o', h1, h2, h3⟩
  exact ⟨rfl, o', ⟨h1, below_but y.b h2 y.ge, fun b hb => (h3 b hb).elim (y.ge b) (fun h => Nat.le_trans y.b.size h)⟩, h2, h3⟩
theorem allR_add (R : List Int) (L : List Rc) (s : Int) (r : Rc) : ∃ m, allR (addL R L r) s = allR L s ++ m ∧ m.length ≤ 1 := by
  unfold addL
  split
  · unfold allR
    rw [List.filter_append]
    exact ⟨_, rfl, List.length_filter_le _ _⟩
  · exact ⟨[], by simp, by simp⟩
/-- a row that was told, beside the logs -/
structure Was (w : World) (o : Yo) (R : List Int) (p : Nat) (v : Value) (l : List Rc) : Prop where
  v : ∃ a c, v = .slice a l.length c ∧ l.length ≤ c ∧ RcAt w a l ∧ ∀ b off, a = some ⟨b, off, none⟩ → ¬ o.has R p b ∧ b < w.heap.size
set_option maxHeartbeats 8000000 in
theorem yappends (a1 : Option Addr) (n1 c1 : Nat) (z1 : Nat → Int) (la : Option Addr) (ll lc : Nat) (lg : Nat → Rc) (s : Int) (w : World) (hs : 0 ≤ s ∧ s < 18446744073709551616)
    (h1 : Cells w .i64 a1 n1 z1) (hc1 : n1 ≤ c1) (h3 : RcRow w la ll lc lg) :
    Calls Try.prog 5 #[.slice a1 n1 c1, .slice la ll lc, .int .u64 s] w fun e w' => e = .returned (.bool true) ∧ Below w.heap.size w w' := by
  have f1 := yfew a1 n1 c1 hc1 w
  have g1 : Cells w .i64 a1 (min n1 18) z1 := h1.mono (Nat.min_le_left _ _)
  have H3 : Hid (RcRow w la ll lc lg) := h3
  have HS : Hid (0 ≤ s ∧ s < 18446744073709551616) := hs
  clear h1 h3 hs
  generalize min n1 18 = m1 at *
  have cA := yNewE w a1 m1 c1 z1 g1
  clear g1
  go_enter Try.func5, Try.ntmps5
  go_wp2_with fail
  refine f1.mono ?_
  rintro e w1 ⟨rfl, hw⟩
  subst hw
  clear f1
  go_wp2_with fail
  refine cA.mono ?_
  rintro e w3 ⟨P, er, rfl, hN, hb3⟩
  have HN : Hid (NewIs w1 w3 (roomsI m1 z1) P er ∧ Below w1.heap.size w1 w3) := ⟨hN, hb3⟩
  clear cA hN hb3
  rcases HN.out.1 with ⟨her, rfl⟩ | ⟨rfl, p, o, rfl, xa, hlo⟩
  · go_wp2_with fail
    refine (yalive _).mono ?_
    rintro e w9 ⟨rfl, hb9⟩
    have HE : Hid (Below w1.heap.size w1 w9) := Below.onto HN.out.2 hb9
    clear hb9
    go_wp2_with fail
    go_ret
    exact ⟨ret_bool (by simp [her]), HE.out⟩
  have A0 : Hid (Yw w1 w3 p (roomsI m1 z1) [] o) := ⟨xa, HN.out.2, hlo⟩
  clear xa hlo HN hc1
  generalize roomsI m1 z1 = RA at *
  have cAll := yAll w3 p o RA [] A0.out.x s HS.out
  go_wp2_with fail
  refine cAll.mono ?_
  rintro e w4 ⟨U, rfl, ho, hb4⟩
  have W4 : Hid (Yw w1 w4 p RA [] o ∧ Was w4 o RA p U (allR [] s)) := by
    refine ⟨A0.out.below hb4, ?_⟩
    obtain ⟨a, c, e1, e2, e3, e4⟩ := rcAt_own2 ho
    exact ⟨a, c, e1, e2, e3, fun b off e => ⟨fun h => by have := A0.out.x.lt h; have := (e4 b off e).1; omega, (e4 b off e).2⟩⟩
  obtain ⟨ua, uc, hU, _⟩ := own_at ho
  subst hU
  clear cAll ho hb4 A0
  go_wp2_with fail
  go_loopw [9, 10] (fun v i wr => ∃ (j : Nat), j ≤ 60 ∧ i = .int .i64 j ∧ Hid (∃ (L : List Rc) (o : Yo), Yw w1 wr p RA L o ∧ Was wr o RA p v (allR L s))) (fun _ i _ => 60 - (intOf i).toNat)
  case atStart => exact ⟨0, by omega, rfl, [], o, W4.out.1, W4.out.2⟩
  case round =>
    obtain ⟨j, hj, rfl, hM⟩ := hrel
    clear W4
    by_cases hlt : j < ll ∧ j < 60
    · obtain ⟨hlt, hlt2⟩ := hlt
      obtain ⟨L, o, ya, hw⟩ := hM.out
      obtain ⟨va, vc, rfl, hvc, hva, hvs⟩ := hw.v
      obtain ⟨bl, off, rfl, hcell⟩ := H3.out.1 j hlt
      have hok := H3.out.2 j hlt
      have q0 := hcell 0 (by decide)
      have k0 : wr.cell? ⟨bl, off + j * 4, none⟩ = some (.int .i64 (lg j).t) := (ya.b.cell (p := ⟨bl, off + j * 4, none⟩) (cell_lt q0)).trans q0
      have k1 : wr.cell? ⟨bl, off + j * 4 + 1, none⟩ = some (.int .i64 (lg j).s) := (ya.b.cell (p := ⟨bl, off + j * 4 + 1, none⟩) (cell_lt q0)).trans (hcell 1 (by decide))
      have k2 : wr.cell? ⟨bl, off + j * 4 + 2, none⟩ = some (.int .i64 (lg j).g) := (ya.b.cell (p := ⟨bl, off + j * 4 + 2, none⟩) (cell_lt q0)).trans (hcell 2 (by decide))
      have k3 : wr.cell? ⟨bl, off + j * 4 + 3, none⟩ = some (.int .u64 (lg j).p) := (ya.b.cell (p := ⟨bl, off + j * 4 + 3, none⟩) (cell_lt q0)).trans (hcell 3 (by decide))
      have cA := ya.addB hok
      have HW : Hid (RcAt wr va (allR L s) ∧ ∀ b off, va = some ⟨b, off, none⟩ → ¬ o.has RA p b ∧ b < wr.heap.size) := ⟨hva, hvs⟩
      obtain ⟨m, hm, hm1⟩ := allR_add RA L s (lg j)
      clear q0 hcell ya hw hva hvs hM
      unfold recV at cA
      go_wp2_with fail
      refine cA.mono ?_
      rintro e w4 ⟨rfl, o4, y4, b4, s4⟩
      have W4 : Hid (Yw w1 w4 p RA (addL RA L (lg j)) o4 ∧ RcAt w4 va (allR L s) ∧ ∀ b off, va = some ⟨b, off, none⟩ → ¬ o4.has RA p b ∧ b < w4.heap.size) :=
        ⟨y4, HW.out.1.but b4 fun b off e => (HW.out.2 b off e).1, fun b off e => ⟨fun h => (s4 b h).elim (HW.out.2 b off e).1 (fun h => by have := (HW.out.2 b off e).2; omega), Nat.lt_of_lt_of_le (HW.out.2 b off e).2 b4.size⟩⟩
      have cAll := yAll w4 p o4 RA _ y4.x s HS.out
      have htot := y4.x.ok.total
      have hlen : (allR (addL RA L (lg j)) s).length ≤ (addL RA L (lg j)).length := List.length_filter_le _ _
      rw [hm] at cAll hlen
      have HM : Hid (allR (addL RA L (lg j)) s = allR L s ++ m) := hm
      clear cA y4 b4 s4 k0 k1 k2 k3 hm
      go_wp2_with fail
      refine cAll.mono ?_
      rintro e w5 ⟨V, rfl, ho, hb5⟩
      obtain ⟨xa, xc, rfl, hxc, hx, hxs⟩ := rcAt_own2 ho
      have W5 : Hid (Yw w1 w5 p RA (addL RA L (lg j)) o4 ∧ Was w5 o4 RA p (.slice xa (allR L s ++ m).length xc) (allR (addL RA L (lg j)) s)) := by
        refine ⟨W4.out.1.below hb5, ?_⟩
        rw [HM.out]
        exact ⟨xa, xc, rfl, hxc, hx, fun b off e => ⟨fun h => by have := W4.out.1.x.lt h; have := (hxs b off e).1; omega, (hxs b off e).2⟩⟩
      have hlm : (allR L s ++ m).length = (allR L s).length + m.length := List.length_append
      have htk : (allR L s ++ m).take (allR L s).length = allR L s := List.take_left
      have cS := rsame15 xa va xc vc ((allR L s ++ m).take (allR L s).length) (allR L s) w5 (by rw [htk]; omega) (hx.take _) (W4.out.2.1.below hb5)
      rw [htk] at cS
      rw [hlm] at hxc W5 ⊢
      clear cAll ho hb5 hx hxs W4 HW HM htk
      generalize (allR L s).length = nl at *
      generalize m.length = ml at *
      have hc1 : ¬ ((nl + ml : Nat) : Int) < (nl : Int) := by omega
      have hc2 : ¬ (nl : Int) + 1 < ((nl + ml : Nat) : Int) := by omega
      go_wp2_with fail
      refine cS.mono ?_
      rintro e w6 ⟨t, rfl, ht, hb6⟩
      obtain rfl : t = true := ht.2 trivial
      have W6 : Hid (∃ (L : List Rc) (o : Yo), Yw w1 w6 p RA L o ∧ Was w6 o RA p (.slice xa (nl + ml) xc) (allR L s)) := by
        refine ⟨_, o4, W5.out.1.below hb6, ?_⟩
        obtain ⟨a, c, e1, e2, e3, e4⟩ := W5.out.2.v
        exact ⟨a, c, e1, e2, e3.below hb6, fun b off e => ⟨(e4 b off e).1, Nat.lt_of_lt_of_le (e4 b off e).2 hb6.size⟩⟩
      clear cS ht hb6 W5
      go_wp2_with fail
      go_roundw
      case rel => exact ⟨j + 1, by omega, by go_num, W6⟩
      case measure => simp [intOf]; omega
    · obtain ⟨L, o, ya, hw⟩ := hM.out
      have HB : Hid (Below w1.heap.size w1 wr) := ya.b
      obtain ⟨va, vc, rfl, _⟩ := hw.v
      clear ya hw hM
      by_cases hl1 : j < ll
      · have hl2 : j = 60 := by omega
        subst hl2
        go_wp2_with fail
        refine (yalive _).mono ?_
        rintro e w9 ⟨rfl, hb9⟩
        have HE : Hid (Below w1.heap.size w1 w9) := Below.onto HB.out hb9
        clear hb9
        go_wp2_with fail
        go_ret
        exact ⟨rfl, HE.out⟩
      · go_wp2_with fail
        refine (yalive _).mono ?_
        rintro e w9 ⟨rfl, hb9⟩
        have HE : Hid (Below w1.heap.size w1 w9) := Below.onto HB.out hb9
        clear hb9
        go_wp2_with fail
        go_ret
        exact ⟨rfl, HE.out⟩
end Go.Proofs.Ytcfmbppnghlkaaa
