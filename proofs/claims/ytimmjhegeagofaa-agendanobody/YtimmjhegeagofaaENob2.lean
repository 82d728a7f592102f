/- Nobody's agendas: New without less, drain, Order. -/
import Derived.Test.YtimmjhegeagofaaENob
import Derived.RangeFuncNested
import Derived.RangeFuncBound
import Derived.RangeFuncCalls
import Derived.RangeFuncLeaves
import Derived.RangeFuncWrites
import Derived.RangeFuncBox
import Derived.Shelf.Abstract
import Derived.Shelf.RegionOpen
import Derived.OwnWalkIn
import Derived.TacticsInMore
import Derived.LoopNIn
import Derived.LoopIn
import Derived.Maps.AppendAt
namespace Go.Proofs.Ytimmjhegeagofaa
open Go.RowKit Go.Sort Go.Shelf
set_option maxRecDepth 100000

set_option maxHeartbeats 1000000 in
theorem nnew (w : World) : Calls Try.prog 9 #[.nilFunc] w fun v w' => v = .returned (ptr w.heap.size) ∧ w' = w.alloc (.cells #[.pointer none] 60) := by
  have hnf : ∀ W : World, (binOp .eql 28 .nilFunc .nilFunc).run Try.prog W = .ok (.bool true) W := fun W => by kernel_rfl
  go_enter Try.func9, Try.ntmps9
  go_wp2_with fail
  go_ret
  exact ⟨rfl, rfl⟩
abbrev pvV (av : Value) : Value := .func (.func 24) #[av] #[]
set_option maxHeartbeats 1000000 in
theorem neach0 (av : Value) (w : World) : Calls Try.prog 68 #[pvV av] w fun e w' => e = .returned (sqV w.heap.size) ∧ w' = bx1 w (pvV av) 38 := by
  go_enter Try.func68, Try.ntmps68
  go_wp2_with fail
  go_ret
  exact ⟨rfl, rfl⟩
set_option maxHeartbeats 1000000 in
theorem nDrain (av : Value) (w : World) : Calls Try.prog 49 #[av] w fun e w' => e = .returned (sqV w.heap.size) ∧ w' = bx1 w (pvV av) 38 := by
  have c := neach0 av w
  go_enter Try.func49, Try.ntmps49
  go_wp2_with fail
  refine c.mono ?_
  rintro e w' ⟨rfl, rfl⟩
  go_wp2_with fail
  go_ret
  exact ⟨rfl, rfl⟩
set_option maxHeartbeats 1000000 in
theorem neach (N1 N2 N3 : Nat) (av : Value) (w : World) (n : Nb w av) (b2 : Blk w N2 38 [pvV av]) :
    Calls Try.prog 90 #[yV N1 N3, ptr N2] w fun e w' => e = .returned (.tuple #[]) ∧ Below w.heap.size w w' := by
  have hf1 := fpop
  have hny := nilY N1 N3
  have c2 := b2.cell (i := 0) rfl
  have cP := npop w av n
  clear b2 n
  unfold tl0 thV at cP
  go_enter Try.func90, Try.ntmps90
  go_wp2_with fail
  go_loopw [4] (fun _ wr => wr = w) (fun _ _ => 0)
  case atStart => rfl
  case round =>
    subst hrel
    go_wp2_with fail
    refine cP.mono ?_
    rintro e w2 ⟨rfl, hb2⟩
    have HB : Hid (Below wr.heap.size wr (bxV w2 0 0)) := Below.onto hb2 ((Below.refl _ w2).alloc (Nat.le_refl _) _)
    clear cP hb2
    go_wp2_with fail
    refine bodyPost_ret (results_none rfl _ _ _) rfl ?_
    exact ⟨rfl, HB.out⟩
set_option maxHeartbeats 2000000 in
theorem ndrain (av : Value) (w : World) (n : Nb w av) : Calls Try.prog 21 #[av, .int .i64 0] w fun e w' => e = .returned (.slice none 0 0) ∧ Below w.heap.size w w' := by
  have hf := feach
  obtain ⟨w1, hw1⟩ : ∃ w1, bx1 w (.int .i64 0) 3 = w1 := ⟨_, rfl⟩
  obtain ⟨w2, hw2⟩ : ∃ w2, bx1 w1 (.slice none 0 0) 43 = w2 := ⟨_, rfl⟩
  have s1 : w1.heap.size = w.heap.size + 1 := by rw [← hw1]; simp
  have s2 : w2.heap.size = w.heap.size + 2 := by rw [← hw2]; simp [s1]
  have cD := nDrain av w2
  obtain ⟨w3, hw3⟩ : ∃ w3, bx1 w2 (pvV av) 38 = w3 := ⟨_, rfl⟩
  rw [hw3] at cD
  have b1 : Below w.heap.size w w1 := by rw [← hw1]; exact (Below.refl _ w).alloc (Nat.le_refl _) _
  have b2 : Below w1.heap.size w1 w2 := by rw [← hw2]; exact (Below.refl _ w1).alloc (Nat.le_refl _) _
  have b3 : Below w2.heap.size w2 w3 := by rw [← hw3]; exact (Below.refl _ w2).alloc (Nat.le_refl _) _
  have k3 : Blk w3 w.heap.size 3 [.int .i64 0] := ((show Blk w1 w.heap.size _ _ by rw [← hw1]; exact blk_new w _ _).below b2).below b3
  have k1 : Blk w3 w1.heap.size 43 [.slice none 0 0] := (show Blk w2 w1.heap.size _ _ by rw [← hw2]; exact blk_new w1 _ _).below b3
  have k2 : Blk w3 w2.heap.size 38 [pvV av] := by rw [← hw3]; exact blk_new w2 _ _
  have b03 : Below w.heap.size w w3 := Below.onto (Below.onto b1 b2) b3
  have hb4 : Below w.heap.size w (w3.setCell ⟨w.heap.size, 0, none⟩ (.int .i64 120)) := b03.setCell (Nat.le_refl _) _
  have n4 : Nb (w3.setCell ⟨w.heap.size, 0, none⟩ (.int .i64 120)) av := n.below hb4
  have cE := neach w1.heap.size w2.heap.size w.heap.size av (w3.setCell ⟨w.heap.size, 0, none⟩ (.int .i64 120)) n4 (k2.setO (by omega) _)
  have K1 : Hid (Blk (w3.setCell ⟨w.heap.size, 0, none⟩ (.int .i64 120)) w1.heap.size 43 [.slice none 0 0]) := k1.setO (by omega) _
  have HB : Hid (Below w.heap.size w (w3.setCell ⟨w.heap.size, 0, none⟩ (.int .i64 120))) := hb4
  have hns := nilS w2.heap.size
  have t3 := k3.cell (i := 0) rfl
  have tf := k3.fz
  clear n n4 b1 b2 b3 b03 k1 k2 k3 s1 s2 hb4
  unfold bx1 at hw1 hw2 hw3
  generalize hN2 : w2.heap.size = N2 at *
  generalize hN1 : w1.heap.size = N1 at *
  generalize hN3 : w.heap.size = N3 at *
  go_enter Try.func21, Try.ntmps21
  go_wp2_with fail
  refine cD.mono ?_
  rintro e w' ⟨rfl, hw'⟩
  subst hw'
  clear cD hw1 hw2 hw3
  go_wp2_with fail
  refine cE.mono ?_
  rintro e w5 ⟨rfl, b5⟩
  have c1 := (K1.out.below b5).cell (i := 0) rfl
  have HB5 : Hid (Below N3 w w5) := HB.out.trans (b5.mono (Nat.le_trans (Nat.le_of_eq hN3.symm) HB.out.size))
  clear cE b5
  go_wp2_with fail
  go_ret
  exact ⟨rfl, HB5.out⟩
/-- .. inside a range over it -/
theorem nilYl (l : Nat) (W : World) : (binOp .eql 90 (.func (.yield l) #[] #[]) .nilFunc).run Try.prog W = .ok (.bool false) W := by kernel_rfl
attribute [local go_sem] Oper.semAt_some
set_option maxHeartbeats 2000000 in
theorem neach_in (q : Nat) (hq : 1 ≤ q) (l N2 : Nat) (av : Value) (w : World) (n : Nb w av) (b2 : Blk w N2 38 [pvV av]) :
    CallsIn Fence.wide q Try.prog 90 #[.func (.yield l) #[] #[], ptr N2] w fun e w' => (∃ v, e = .returned v) ∧ Below w.heap.size w w' := by
  have hf1 := fpop
  have hny := nilYl l
  have c2 := b2.cell (i := 0) rfl
  have cP := npop w av n
  clear b2 n
  unfold tl0 thV at cP
  refine callsIn_of_wp Try.func90 rfl trivial ?_ rfl
  simp only [Try.ntmps90, List.size_toArray, List.length_cons, List.length_nil, Nat.reduceAdd, Nat.reduceSub, Array.replicate_succ, Array.replicate_zero, List.push_toArray, List.append_toArray, List.nil_append, List.cons_append]
  gi_wp2
  gi_loopw [4] (fun _ wr => wr = w) (fun _ _ => 0)
  case atStart => rfl
  case round =>
    subst hrel
    gi_wp2_with (refine ⟨trivial, ?_⟩; gi_at_call 24; refine (callsIn_wide.2 cP).mono ?_; rintro e w2 ⟨rfl, hb2⟩)
    have HB : Hid (Below wr.heap.size wr (bxV w2 0 0)) := Below.onto hb2 ((Below.refl _ w2).alloc (Nat.le_refl _) _)
    clear cP hb2
    gi_wp2
    refine ⟨fun _ h => (by cases h), ?_⟩
    gi_wp2
    refine bodyPost_ret (results_none rfl _ _ _) rfl ?_
    exact ⟨⟨_, rfl⟩, HB.out⟩
theorem below_gn {W W' : World} (h : Below W.heap.size W W') : W.grownBy W' none := ⟨h.os, h.tape, h.output, h.size, fun k hk _ => h.block k hk⟩
theorem neach_stops (q : Nat) (hq : 1 ≤ q) (N2 : Nat) (av : Value) (w : World) (n : Nb w av) (b2 : Blk w N2 38 [pvV av]) (Kp : World → World → Prop) :
    SeqStopsK (α := Empty) Fence.wide q Try.prog 90 #[ptr N2] (fun x => x.elim) Kp (fun _ => True) (fun _ => False) 0 w := by
  intro l J Jx W hb hJ _ _ h0
  refine (neach_in q hq l N2 av W (n.below hb) (b2.below hb)).mono ?_
  rintro e W' ⟨hv, hb'⟩
  exact ⟨hv, .inl ⟨[], trivial, hJ _ _ _ none h0 (below_gn hb') (fun _ h => by cases h)⟩⟩
set_option maxHeartbeats 4000000 in
theorem nappend (N2 : Nat) (av : Value) (w : World) (n : Nb w av) (b2 : Blk w N2 38 [pvV av]) :
    Calls Try.prog 67 #[.slice none 0 0, sqV N2] w fun e w' => e = .returned (.slice none 0 0) ∧ Below w.heap.size w w' := by
  refine (callsIn_wide (n := 6)).1 ?_
  refine callsIn_of_wp_marks Try.func67 rfl trivial ?_ rfl
  simp only [Try.ntmps67, List.size_toArray, List.length_cons, List.length_nil, Nat.reduceAdd, Nat.reduceSub, Array.replicate_succ, Array.replicate_zero, List.push_toArray, List.append_toArray, List.nil_append, List.cons_append]
  gi_wp2
  have bL := Boxed.new w 43 (Value.slice none 0 0)
  have hB0 : Below w.heap.size w (w.alloc (.cells #[Value.slice none 0 0] 43)) := (Below.refl _ w).alloc (Nat.le_refl _) _
  refine wpIn_rangeFunc_ownG (α := Empty) rfl (by omega) (gf := 90) (lb := #[ptr N2]) rfl trivial (enters_of Try.func90 (by kernel_rfl) rfl)
    (neach_stops 5 (by omega) N2 av _ (n.below hB0) (b2.below hB0) (fun _ _ => True)) (fun _ _ => trivial) (fun _ _ _ _ _ _ _ _ => trivial) (Below.refl _ _) (fun x => x.elim)
    (fun _ W => Boxed W w.heap.size 43 (.slice none 0 0) ∧ Below w.heap.size w W)
    (fun _ _ _ => False)
    (OwnFrom.and (Own.from (boxed_own w.heap.size 43 (fun _ => .slice none 0 0)) _) (ownFrom_below (Nat.le_refl _) (by simp)))
    (fun _ _ _ _ _ hs _ _ => hs)
    ⟨bL, hB0⟩
    (fun x => x.elim) (fun _ x => x.elim) (fun _ _ x => x.elim) ?done ?stop
  case done =>
    rintro D ys W hD _ ⟨hv, hB⟩ hK
    have hc := hv.cell
    gi_wp2
    refine ⟨by simp, .inl ⟨_, _, rfl, run_takeDeferred hK, ?_⟩⟩
    exact ⟨_, results_tmp rfl _ _ _, rfl, hB.trans (belowK_b (w := w) (Nat.le_refl _) W D _ _ (by simp at hD; omega) hK rfl rfl)⟩
  case stop =>
    rintro D c pre W _ _ h _
    exact h.elim
set_option maxHeartbeats 1000000 in
theorem ncollect (N2 : Nat) (av : Value) (w : World) (n : Nb w av) (b2 : Blk w N2 38 [pvV av]) :
    Calls Try.prog 48 #[sqV N2] w fun e w' => e = .returned (.slice none 0 0) ∧ Below w.heap.size w w' := by
  have ha := nappend N2 av w n b2
  clear n b2
  go_enter Try.func48, Try.ntmps48
  go_wp2_with fail
  refine ha.mono ?_
  rintro e w1 ⟨rfl, h2⟩
  go_wp2_with fail
  go_ret
  exact ⟨rfl, h2⟩
end Go.Proofs.Ytimmjhegeagofaa
