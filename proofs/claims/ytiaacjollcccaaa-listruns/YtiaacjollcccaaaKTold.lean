/- What the statements gather of a list. -/
import Derived.Test.YtiaacjollcccaaaKTell
namespace Go.Proofs.Ytiaacjollcccaaa
open Go.RowKit

theorem nodup_rev {l : List Nat} (h : l.Nodup) : l.reverse.Nodup := List.pairwise_reverse.2 (h.imp fun h => Ne.symm h)
theorem restAll_k (o : Pl) (n m : Nat) (R : Nat → List Nat) (i : Int) (w w1 : World) (h : Kv w o n m R) (hn : n < 80)
    (hw : w1 = ((w.alloc (.cells #[o.ptr] 23)).alloc (.cells #[.int .i64 i] 3)).alloc (.cells #[.func (.func 40) #[o.ptr] #[]] 43)) :
    Calls Try.prog 26 #[.func (.func 57) #[] #[.pointer (some ⟨w.heap.size, 0, none⟩), .pointer (some ⟨w.heap.size + 1, 0, none⟩), .pointer (some ⟨w.heap.size + 1 + 1, 0, none⟩)]] w1 fun e w' => ∃ v, e = .returned v ∧ w'.ownsRow w1.heap.size 3 1 v (rowR m R i).length (encL (rowR m R i)) ∧ Below w1.heap.size w1 w' := by
  obtain ⟨hB, b1, b2, b3, _⟩ := boxes3 hw
  obtain ⟨s, rfl, rfl, hk, hi⟩ := h
  have e : (rowR s.m R i).length = (rowR s.m R i).length := rfl
  rw [e]
  refine rest_of _ _ _ w1 _ fun W hW bC => ?_
  have hk2 : Kx W o s := (hk.below hB).below hW
  have c1 : Boxed W w.heap.size 23 o.ptr := (hW.block _ b1.lt).trans b1
  have c2 : Boxed W (w.heap.size + 1) 3 (.int .i64 i) := (hW.block _ b2.lt).trans b2
  have c3 : Boxed W (w.heap.size + 1 + 1) 43 (.func (.func 40) #[o.ptr] #[]) := (hW.block _ b3.lt).trans b3
  cases hr : inR s.m i
  · have e0 : rowR s.m R i = [] := by simp [rowR, hr]
    rw [e0]
    refine (tell_rest_none _ _ _ o s i hr _ W c1 c2 hk2).mono ?_
    rintro e W' ⟨rfl, e1⟩
    subst e1
    exact ⟨rfl, _, bC, World.ownsRow_nil _ _ _ _, But.refl _ _⟩
  · have hr' := hr
    obtain ⟨k, rfl, hkm⟩ := inR_nat hr
    have e0 : rowR s.m R k = R k := by simp [rowR, hr']
    rw [e0]
    have hl := len_le (hi.nod k hkm) (hi.rng k hkm)
    exact tellB_rest _ _ _ _ o s k hkm _ (nxt_fwd (hi.ring k hkm)) (hi.nod k hkm) (fun x hx => hi.rng k hkm x hx) (by omega) W c1 c2 c3 hk2 bC

theorem restBack_k (o : Pl) (n m : Nat) (R : Nat → List Nat) (i : Int) (w w1 : World) (h : Kv w o n m R) (hn : n < 80)
    (hw : w1 = ((w.alloc (.cells #[o.ptr] 23)).alloc (.cells #[.int .i64 i] 3)).alloc (.cells #[.func (.func 48) #[o.ptr] #[]] 43)) :
    Calls Try.prog 26 #[.func (.func 57) #[] #[.pointer (some ⟨w.heap.size, 0, none⟩), .pointer (some ⟨w.heap.size + 1, 0, none⟩), .pointer (some ⟨w.heap.size + 1 + 1, 0, none⟩)]] w1 fun e w' => ∃ v, e = .returned v ∧ w'.ownsRow w1.heap.size 3 1 v (rowR m R i).length (encL (rowR m R i).reverse) ∧ Below w1.heap.size w1 w' := by
  obtain ⟨hB, b1, b2, b3, _⟩ := boxes3 hw
  obtain ⟨s, rfl, rfl, hk, hi⟩ := h
  have e : (rowR s.m R i).length = (rowR s.m R i).reverse.length := by simp
  rw [e]
  refine rest_of _ _ _ w1 _ fun W hW bC => ?_
  have hk2 : Kx W o s := (hk.below hB).below hW
  have c1 : Boxed W w.heap.size 23 o.ptr := (hW.block _ b1.lt).trans b1
  have c2 : Boxed W (w.heap.size + 1) 3 (.int .i64 i) := (hW.block _ b2.lt).trans b2
  have c3 : Boxed W (w.heap.size + 1 + 1) 43 (.func (.func 48) #[o.ptr] #[]) := (hW.block _ b3.lt).trans b3
  cases hr : inR s.m i
  · have e0 : rowR s.m R i = [] := by simp [rowR, hr]
    rw [e0]
    refine (tell_rest_none _ _ _ o s i hr _ W c1 c2 hk2).mono ?_
    rintro e W' ⟨rfl, e1⟩
    subst e1
    exact ⟨rfl, _, bC, World.ownsRow_nil _ _ _ _, But.refl _ _⟩
  · have hr' := hr
    obtain ⟨k, rfl, hkm⟩ := inR_nat hr
    have e0 : rowR s.m R k = R k := by simp [rowR, hr']
    rw [e0]
    have hl := len_le (hi.nod k hkm) (hi.rng k hkm)
    exact tellA_rest _ _ _ _ o s k hkm _ (nxt_back (hi.ring k hkm)) (nodup_rev (hi.nod k hkm)) (fun x hx => hi.rng k hkm x (List.mem_reverse.1 hx)) (by rw [List.length_reverse]; omega) W c1 c2 c3 hk2 bC

set_option maxHeartbeats 1000000 in
theorem told_k (o : Pl) (n m : Nat) (R : Nat → List Nat) (i : Int) (w : World) (h : Kv w o n m R) (hn : n < 80) :
    Calls Try.prog 19 #[o.ptr, .int .i64 i] w fun e w' => ∃ v, e = .returned v ∧ w'.ownsRow w.heap.size 3 1 v (rowR m R i).length (encL (rowR m R i)) ∧ Below w.heap.size w w' := by
  have HK : Hid (Kv w o n m R) := h
  clear h
  go_enter Try.func19, Try.ntmps19
  go_wp2_with fail
  refine (all_k _ _ _).mono ?_
  rintro e w1 ⟨rfl, hw⟩
  have hb := (boxes3 hw).1
  have hcall := restAll_k o n m R i w w1 HK.out hn hw
  clear hw
  go_wp2_with fail
  refine hcall.mono ?_
  rintro e w2 ⟨v, rfl, hown, hb2⟩
  go_wp2_with fail
  go_ret
  exact ⟨v, rfl, own_mono hown hb.size, Below.onto hb hb2⟩

end Go.Proofs.Ytiaacjollcccaaa
