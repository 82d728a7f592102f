/- The iterator bits.All: what it tells, for whatever loop is ranged over it. -/
import Derived.RangeFuncNested
import Derived.RangeFuncBound
import Derived.RangeFuncCalls
import Derived.RangeFuncLeaves
import Derived.RangeFuncBox
import Derived.Shelf.Abstract
import Derived.Shelf.RegionOpen
import Derived.OwnWalkIn
import Derived.TacticsInMore
import Derived.LoopNIn
import Derived.LoopIn
import Derived.Maps.AppendAt
import Derived.Test.YtcfpfddbbhphgabRel
namespace Go.Proofs.Ytcfpfddbbhphgab
open Go.RowKit Go.Shelf
attribute [local go_sem] Oper.semAt_some

/-- a member of s -/
abbrev Mem (s : Int) : Type := { k : Nat // k < 64 ∧ tb s k = true }
/-- the members of s below n, rising -/
def memS (s : Int) (n : Nat) : List (Mem s) := (List.range n).filterMap fun j => if h : j < 64 ∧ tb s j = true then some ⟨j, h⟩ else none
theorem memS_hit (s : Int) (k : Nat) (h : k < 64) (ht : tb s k = true) : memS s (k + 1) = memS s k ++ [⟨k, h, ht⟩] := by
  unfold memS
  rw [List.range_succ, List.filterMap_append]
  simp [h, ht]
theorem memS_miss (s : Int) (k : Nat) (ht : tb s k = false) : memS s (k + 1) = memS s k := by
  unfold memS
  rw [List.range_succ, List.filterMap_append]
  simp [ht]
theorem memS_map (s : Int) (n : Nat) (hn : n ≤ 64) : (memS s n).map (·.1) = memsTo s n := by
  induction n with
  | zero => rfl
  | succ n ih =>
    cases ht : tb s n
    · rw [memS_miss s n ht, memsTo_miss s n ht, ih (by omega)]
    · rw [memS_hit s n (by omega) ht, memsTo_hit s n ht, List.map_append, ih (by omega)]; rfl
theorem memS_len (s : Int) (n : Nat) (hn : n ≤ 64) : (memS s n).length ≤ n := by
  have := memsTo_le s n
  rw [← memS_map s n hn, List.length_map] at this
  exact this

/-- a round that keeps the box of the set -/
def KeepsBox (Bs : Nat) (s : Int) (W W' : World) : Prop := Boxed W Bs 35 (.int .u64 s) → Boxed W' Bs 35 (.int .u64 s)
theorem keepsBox_t {Bs : Nat} {s : Int} {A B C : World} (h1 : KeepsBox Bs s A B) (h2 : KeepsBox Bs s B C) : KeepsBox Bs s A C := fun h => h2 (h1 h)
theorem keepsBox_b {Bs : Nat} {s : Int} (W : World) (l : Nat) (o o' : Obj) (hl : W.heap[l]? = some o) (hc : o.isCells = false) : KeepsBox Bs s W (W.putObj l o') := fun h =>
  h.kept (grownBy_putObj' W l o') (fun e => by
    obtain rfl : Bs = l := by simpa using e
    rw [show W.heap[Bs]? = _ from h] at hl; cases hl; cases hc)

theorem eql_yield_nil (l : Nat) (w : World) : Sem.run Try.prog (binOp BinOp.eql 70 (Value.func (Fn.yield l) #[] #[]) Value.nilFunc) w = .ok (.bool false) w := by kernel_rfl
set_option maxRecDepth 100000 in
set_option maxHeartbeats 2000000 in
theorem all1_in (n : Nat) (hn : 1 ≤ n) (l Bs : Nat) (s : Int) (hs0 : 0 ≤ s) (hs1 : s < 18446744073709551616) (J Jx : List (Mem s) → World → Prop)
    (hY : ∀ pre (x : Mem s) W, J pre W → pre.length < 64 → YieldAt Fence.wide (n - 1) Try.prog l #[.int .i64 (x.1 : Int)] W fun e W' =>
      (e = .returned (.bool true) ∧ J (pre ++ [x]) W' ∧ KeepsBox Bs s W W') ∨ (e = .returned (.bool false) ∧ Jx (pre ++ [x]) W'))
    (W : World) (hBs : Boxed W Bs 35 (.int .u64 s)) (h0 : J [] W) :
    CallsIn Fence.wide n Try.prog 37 #[.func (.yield l) #[] #[], .pointer (some ⟨Bs, 0, none⟩)] W fun e W' => (∃ v, e = .returned v) ∧
      ((∃ ys, ys = memS s 64 ∧ J ys W') ∨ (∃ pre, (∃ k, k ≤ 64 ∧ pre = memS s k) ∧ Jx pre W')) := by
  refine callsIn_of_wp Try.func37 rfl trivial ?_ rfl
  simp only [Try.ntmps37, List.size_toArray, List.length_cons, List.length_nil, Nat.reduceAdd, Nat.reduceSub, Array.replicate_succ, Array.replicate_zero, List.push_toArray, List.append_toArray, List.nil_append, List.cons_append]
  have hnil := fun w => eql_yield_nil l w
  gi_wp2
  clear hnil
  gi_loopw [6] (fun i wr => ∃ k : Nat, k ≤ 64 ∧ i = .int .i64 k ∧ J (memS s k) wr ∧ Boxed wr Bs 35 (.int .u64 s))
    (fun i _ => 64 - (intOf i).toNat)
  case atStart => exact ⟨0, Nat.zero_le _, rfl, h0, hBs⟩
  case round =>
    obtain ⟨k, hk, rfl, hJs, hbx⟩ := hrel
    have hcx := hbx.cell
    by_cases hlt : k < 64
    · cases ht : tb s k
      · have hh := fun w => has_at s k w hs0 hs1 hlt false ht
        have HM : Hid (memS s (k + 1) = memS s k) := memS_miss s k ht
        clear ht
        gi_wp2_with (refine ⟨trivial, ?_⟩; gi_at_call 38; refine (callsIn_wide.2 (hh _)).mono ?_; rintro e w' ⟨rfl, rfl⟩)
        refine ⟨fun _ h => (by cases h), ?_⟩
        gi_wp2
        go_roundw
        case rel => exact ⟨k + 1, by omega, by go_num, by rw [HM.out]; exact hJs, hbx⟩
        case measure => simp [intOf]; omega
      · have hh := fun w => has_at s k w hs0 hs1 hlt true ht
        have HM : Hid (memS s (k + 1) = memS s k ++ [⟨k, hlt, ht⟩]) := memS_hit s k hlt ht
        obtain ⟨fn, tmps, assign, body, hy, hR⟩ := hY _ ⟨k, hlt, ht⟩ wr hJs (by have := memS_len s k (by omega); omega)
        dsimp only at hy
        gi_wp2_with (refine ⟨trivial, ?_⟩; gi_at_call 38; refine (callsIn_wide.2 (hh _)).mono ?_; rintro e w' ⟨rfl, rfl⟩)
        refine hR.mono ?_
        rintro e W3 (⟨rfl, hJ3, hk3⟩ | ⟨rfl, hJx3⟩)
        · have hbx3 := hk3 hbx
          gi_wp2
          go_roundw
          case rel => exact ⟨k + 1, by omega, by go_num, by rw [HM.out]; exact hJ3, hbx3⟩
          case measure => simp [intOf]; omega
        · gi_wp2
          refine bodyPost_ret (results_none rfl _ _ _) rfl ?_
          exact ⟨⟨_, rfl⟩, .inr ⟨_, ⟨k + 1, by omega, HM.out.symm⟩, hJx3⟩⟩
    · obtain rfl : k = 64 := by omega
      gi_wp2
      go_end0
      exact ⟨⟨_, rfl⟩, .inl ⟨_, rfl, hJs⟩⟩

set_option maxHeartbeats 1000000 in
theorem all_any (s : Int) (w : World) :
    Calls Try.prog 26 #[.int .u64 s] w fun e w' => e = .returned (.func (.func 37) #[] #[.pointer (some ⟨w.heap.size, 0, none⟩)]) ∧ w' = w.alloc (.cells #[.int .u64 s] 35) := by
  go_enter Try.func26, Try.ntmps26
  go_wp2
  go_ret
  exact ⟨rfl, rfl⟩

theorem all_stops (n : Nat) (hn : 1 ≤ n) (Bs : Nat) (s : Int) (hs0 : 0 ≤ s) (hs1 : s < 18446744073709551616) (w : World) (hBs : Boxed w Bs 35 (.int .u64 s)) :
    SeqStopsK Fence.wide n Try.prog 37 #[.pointer (some ⟨Bs, 0, none⟩)] (fun x : Mem s => #[Value.int .i64 (x.1 : Int)]) (KeepsBox Bs s) (fun ys => ys = memS s 64) (fun pre => ∃ k, k ≤ 64 ∧ pre = memS s k) 64 w :=
  fun l J Jx W hW _ _ hY h0 => all1_in n hn l Bs s hs0 hs1 J Jx hY W ((hW.block Bs hBs.lt).trans hBs) h0

end Go.Proofs.Ytcfpfddbbhphgab
