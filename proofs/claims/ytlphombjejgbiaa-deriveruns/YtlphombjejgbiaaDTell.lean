/- A list's nodes told to the rounds of a loop: All under a range. -/
import Derived.Test.YtlphombjejgbiaaKTell
import Derived.RangeFuncNested
import Derived.RangeFuncBound
import Derived.RangeFuncCalls
import Derived.RangeFuncLeaves
import Derived.RangeFuncWrites
import Derived.RangeFuncBox
import Derived.OwnWalkIn
import Derived.TacticsInMore
import Derived.LoopNIn
import Derived.LoopIn
namespace Go.Proofs.Ytlphombjejgbiaa
open Go.RowKit Go.Shelf
attribute [local go_sem] Oper.semAt_some
set_option maxRecDepth 100000

/-- blocks of cells stay, but those of S -/
structure KeepC (S : Nat → Prop) (W W' : World) : Prop where
  size : W.heap.size ≤ W'.heap.size
  same : ∀ (k : Nat) (o : Obj), W.heap[k]? = some o → o.isCells = true → ¬ S k → W'.heap[k]? = some o
theorem KeepC.refl (S : Nat → Prop) (W : World) : KeepC S W W := ⟨Nat.le_refl _, fun _ _ h _ _ => h⟩
theorem KeepC.trans {S : Nat → Prop} {X Y Z : World} (h : KeepC S X Y) (k : KeepC S Y Z) : KeepC S X Z := ⟨Nat.le_trans h.size k.size, fun i o hi hc hs => k.same i o (h.same i o hi hc hs) hc hs⟩
theorem KeepC.of {S : Nat → Prop} {W W' : World} (h : But S W W') : KeepC S W W' := ⟨h.size, fun k _ hk _ hs => (h.block k (Array.getElem?_eq_some_iff.1 hk).1 hs).trans hk⟩
theorem cells_of_cell {W : World} {b i : Nat} {v : Value} (h : W.cell? ⟨b, i, none⟩ = some v) : ∃ o, W.heap[b]? = some o ∧ o.isCells = true := by
  cases hb : W.heap[b]? with
  | none => simp [World.cell?, hb] at h
  | some x => cases x <;> simp [World.cell?, hb] at h; exact ⟨_, rfl, rfl⟩
theorem KeepC.cell {S : Nat → Prop} {W W' : World} (h : KeepC S W W') {b i : Nat} {v : Value} (hc : W.cell? ⟨b, i, none⟩ = some v) (hs : ¬ S b) : W'.cell? ⟨b, i, none⟩ = some v := by
  obtain ⟨o, ho, hi⟩ := cells_of_cell hc
  exact (World.cell?_of_block (w := W) (a := ⟨b, i, none⟩) ((h.same b o ho hi hs).trans ho.symm)).trans hc

theorem eql_yieldI_nil (l : Nat) (w : World) : Sem.run Try.prog (binOp BinOp.eql 75 (Value.func (Fn.yield l) #[] #[]) Value.nilFunc) w = .ok (.bool false) w := by kernel_rfl

set_option maxHeartbeats 4000000 in
theorem tell1_in (q : Nat) (hq : 1 ≤ q) (L B1 B2 B3 : Nat) (o : Pl) (s : Sx) (k : Nat) (hk : k < s.m) (r : List Nat) (hr : Nxt s.bh (s.n + k) (s.n + k) r) (nd : r.Nodup) (hlt : ∀ x, x ∈ r → x < s.n) (hlen : r.length ≤ 70000) (S : Nat → Prop) (J : Nat → World → Prop) (W : World) (hS : ∀ b, S b → b < W.heap.size)
    (b1 : Boxed W B1 59 o.ptr) (b2 : Boxed W B2 3 (.int .i64 (k : Int))) (b3 : Boxed W B3 76 (.func (.func 92) #[o.ptr] #[])) (hK : Kx W o s)
    (hJ0 : ∀ W', Below W.heap.size W W' → J 0 W')
    (hY : ∀ j, j < r.length → ∀ W1, J j W1 → YieldAt Fence.wide (q - 1) Try.prog L #[.int .i64 (atL r j)] W1 fun e W' => e = .returned (.bool true) ∧ J (j + 1) W' ∧ KeepC S W1 W') :
    CallsIn Fence.wide q Try.prog 98 #[.func (.yield L) #[] #[], .pointer (some ⟨B1, 0, none⟩), .pointer (some ⟨B2, 0, none⟩), .pointer (some ⟨B3, 0, none⟩)] W fun e W' => (∃ v, e = .returned v) ∧ J r.length W' := by
  have hnil := eql_yieldI_nil L
  have c1 := b1.cell
  have c2 := b2.cell
  have c3 := b3.cell
  have hl := hasList_k o s (k : Int) W hK
  rw [show inR s.m (k : Int) = true from inR_iff.2 (by omega)] at hl
  have HK : Hid (Kx W o s) := hK
  have HS : Hid (∀ b, S b → b < W.heap.size) := hS
  have HJ0 : Hid (∀ W', Below W.heap.size W W' → J 0 W') := hJ0
  have HY : Hid (∀ j, j < r.length → ∀ W1, J j W1 → YieldAt Fence.wide (q - 1) Try.prog L #[.int .i64 (atL r j)] W1 fun e W' => e = .returned (.bool true) ∧ J (j + 1) W' ∧ KeepC S W1 W') := hY
  obtain ⟨r0, hr0⟩ := lift_nd hlt
  have HR : Hid (Nxt s.bh (s.n + k) (s.n + k) (nat r0)) := hr0 ▸ hr
  have HN : Hid ((nat r0).Nodup) := hr0 ▸ nd
  have HE : Hid (nat r0 = r) := hr0
  clear hr0
  clear hK hr nd hlt b1 b2 b3 hS hJ0 hY
  refine callsIn_of_wp Try.func98 rfl trivial ?_ rfl
  simp only [Try.ntmps98, List.size_toArray, List.length_cons, List.length_nil, Nat.reduceAdd, Nat.reduceSub, Array.replicate_succ, Array.replicate_zero, List.push_toArray, List.append_toArray, List.nil_append, List.cons_append]
  gi_wp2_with (refine ⟨trivial, ?_⟩; gi_at_call 96; refine (callsIn_wide.2 hl).mono ?_; rintro e w1 ⟨rfl, rfl⟩)
  refine ⟨trivial, ?_⟩
  refine (callsIn_wide.2 (walk_any _ _ _ _ _ _)).mono ?_
  rintro e w2 ⟨rfl, hw2⟩
  have hB2 : Below w1.heap.size w1 w2 := by rw [hw2]; exact (((Below.refl _ w1).alloc (Nat.le_refl _) _).alloc (by simp) _).alloc (by simp; omega) _
  have HW : Hid (WkOk w1.heap.size (w1.heap.size + 1) (w1.heap.size + 1 + 1) o s k (.func (.func 92) #[o.ptr] #[]) w2) := by
    obtain ⟨_, x1, x2, x3, _⟩ := boxes3 hw2
    exact ⟨x1, x2, x3, s, HK.out.below hB2, rfl, rfl, rfl, rfl⟩
  clear hw2 hnil c1 c2 c3 hl
  have hcol := collectwalkB _ _ _ o s k hk r0 HR.out HN.out (by rw [← nat_len, HE.out]; omega) w2 HW.out
  gi_wp2_with (refine ⟨trivial, ?_⟩; gi_at_call 99; refine (callsIn_wide.2 hcol).mono ?_; rintro e w3 ⟨v, rfl, hrow, hb3⟩; rw [← nat_len, HE.out] at hrow; obtain ⟨a, cap, rfl, hcells, hge⟩ := cells_of_own hrow (k := .i64) (z := atL r) (fun j hj => encL_at2 hj))
  have HC : Hid (Cells w3 .i64 a r.length (atL r)) := hcells
  have HG : Hid (∀ b o p, a = some ⟨b, o, p⟩ → w2.heap.size ≤ b) := hge
  have HB3 : Hid (Below w1.heap.size w1 w3) := Below.onto hB2 hb3
  have hsz := hB2.size
  clear hcells hge hrow HW hcol hb3 hB2
  gi_loopw [21] (fun i wr => ∃ j : Nat, j ≤ r.length ∧ i = .int .i64 j ∧ Hid (J j wr ∧ KeepC S w3 wr)) (fun i _ => r.length - (intOf i).toNat)
  case atStart => exact ⟨0, Nat.zero_le _, rfl, HJ0.out _ HB3.out, KeepC.refl _ _⟩
  case round =>
    obtain ⟨j, hj, rfl, hJ⟩ := hrel
    by_cases hlt : j < r.length
    · obtain ⟨b, off, rfl, hcell⟩ := HC.out j hlt
      have hb1 := HG.out b off none rfl
      have hcell2 := hJ.out.2.cell hcell (fun h => by have := HS.out _ h; omega)
      obtain ⟨fn, tmps, assign, body, hy, hR⟩ := HY.out j hlt wr hJ.out.1
      clear hcell
      gi_wp2
      refine hR.mono ?_
      rintro e w4 ⟨rfl, hJ4, hk4⟩
      have HJ4 : Hid (J (j + 1) w4 ∧ KeepC S w3 w4) := ⟨hJ4, hJ.out.2.trans hk4⟩
      clear hJ4 hk4 hy hR
      gi_wp2
      go_roundw
      case rel => exact ⟨j + 1, by omega, by go_num, HJ4.out⟩
      case measure => simp [intOf]; omega
    · obtain rfl : j = r.length := by omega
      gi_wp2
      refine bodyPost_end (results_none rfl _ _ _) rfl ?_
      exact ⟨⟨_, rfl⟩, hJ.out.1⟩

end Go.Proofs.Ytlphombjejgbiaa
