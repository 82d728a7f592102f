/- The iterator bits.All: what it tells, for whatever loop is ranged over it. -/
import Derived.RangeFuncNested
import Derived.RangeFuncBound
import Derived.RangeFuncCalls
import Derived.RangeFuncLeaves
import Derived.RangeFuncBox
import Derived.Shelf.Abstract
import Derived.Shelf.RegionOpen
import Derived.OwnWalkIn
import Derived.TacticsInMore
import Derived.LoopNIn
import Derived.LoopIn
import Derived.Maps.AppendAt
import Derived.Test.YtiaacjollcccaaaRel
namespace Go.Proofs.Ytiaacjollcccaaa
open Go.RowKit Go.Shelf
attribute [local go_sem] Oper.semAt_some

/-- a member of s -/
abbrev Mem (s : Int) : Type := { k : Nat // k < 64 ∧ tb s k = true }
/-- the members of s below n, rising -/
def memS (s : Int) (n : Nat) : List (Mem s) := (List.range n).filterMap fun j => if h : j < 64 ∧ tb s j = true then some ⟨j, h⟩ else none
theorem memS_hit (s : Int) (k : Nat) (h : k < 64) (ht : tb s k = true) : memS s (k + 1) = memS s k ++ [⟨k, h, ht⟩] := by
  unfold memS
  rw [List.range_succ, List.filterMap_append]
  simp [h, ht]
theorem memS_miss (s : Int) (k : Nat) (ht : tb s k = false) : memS s (k + 1) = memS s k := by
  unfold memS
  rw [List.range_succ, List.filterMap_append]
  simp [ht]
theorem memS_map (s : Int) (n : Nat) (hn : n ≤ 64) : (memS s n).map (·.1) = memsTo s n := by
  induction n with
  | zero => rfl
  | succ n ih =>
    cases ht : tb s n
    · rw [memS_miss s n ht, memsTo_miss s n ht, ih (by omega)]
    · rw [memS_hit s n (by omega) ht, memsTo_hit s n ht, List.map_append, ih (by omega)]; rfl
theorem memS_len (s : Int) (n : Nat) (hn : n ≤ 64) : (memS s n).length ≤ n := by
  have := memsTo_le s n
  rw [← memS_map s n hn, List.length_map] at this
  exact this

theorem eql_yield_nil (l : Nat) (w : World) : Sem.run Try.prog (binOp BinOp.eql 41 (Value.func (Fn.yield l) #[] #[]) Value.nilFunc) w = .ok (.bool false) w := by kernel_rfl
end Go.Proofs.Ytiaacjollcccaaa
