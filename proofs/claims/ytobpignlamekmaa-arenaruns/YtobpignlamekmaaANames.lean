/- The numbers of a partition's slots, told; the names of its held ones. -/
import Derived.Test.YtobpignlamekmaaIter
import Derived.Test.YtobpignlamekmaaAFree
import Derived.Test.YtobpignlamekmaaANewM
namespace Go.Proofs.Ytobpignlamekmaa
open Go.RowKit Go.Shelf Go.Sort
attribute [local go_sem] Oper.semAt_some
set_option maxRecDepth 100000

abbrev Sn (N : Nat) : Type := { x : Nat // x < N }
/-- what the iterator leans on -/
def NmOk (B bp k f Z : Nat) (W : World) : Prop := Boxed W B 89 (.pointer (some ⟨bp, k * 258, none⟩)) ∧ W.cell? ⟨bp, k * 258, none⟩ = some (.int .i64 (f : Int)) ∧ W.cell? ⟨bp, k * 258 + 1, none⟩ = some (.int .i64 (Z : Int))
def KeepsNm (B bp k f Z : Nat) (W W' : World) : Prop := NmOk B bp k f Z W → NmOk B bp k f Z W'
theorem keepsNm_t {B bp k f Z : Nat} {X Y V : World} (h1 : KeepsNm B bp k f Z X Y) (h2 : KeepsNm B bp k f Z Y V) : KeepsNm B bp k f Z X V := fun h => h2 (h1 h)
theorem NmOk.onto {B bp k f Z : Nat} {W W' : World} (h : NmOk B bp k f Z W) (hb : Below W.heap.size W W') : NmOk B bp k f Z W' :=
  ⟨(hb.block _ h.1.lt).trans h.1, (hb.cell (p := ⟨bp, k * 258, none⟩) (cell_lt h.2.1)).trans h.2.1, (hb.cell (p := ⟨bp, k * 258 + 1, none⟩) (cell_lt h.2.1)).trans h.2.2⟩
theorem keepsNm_b {B bp k f Z : Nat} (W : World) (l : Nat) (x x' : Obj) (hl : W.heap[l]? = some x) (hc : x.isCells = false) : KeepsNm B bp k f Z W (W.putObj l x') := by
  rintro ⟨h1, h2, h3⟩
  have hne : bp ≠ l := by
    rintro rfl
    cases x <;> simp [World.cell?, hl, Obj.isCells] at h2 hc
  refine ⟨h1.kept (grownBy_putObj' W l x') (fun e => by
    obtain rfl : B = l := by simpa using e
    rw [show W.heap[B]? = _ from h1] at hl; cases hl; cases hc), ?_, ?_⟩
  · rw [World.cell?_of_block (w := W) (a := ⟨bp, k * 258, none⟩) (World.putObj_heap_other hne)]; exact h2
  · rw [World.cell?_of_block (w := W) (a := ⟨bp, k * 258 + 1, none⟩) (World.putObj_heap_other hne)]; exact h3

/-- the first i numbers of a partition -/
def numsTo (N f Z : Nat) (h : f + Z ≤ N) : Nat → List (Sn N)
  | 0 => []
  | i + 1 => if hi : i < Z then numsTo N f Z h i ++ [⟨f + i, by omega⟩] else numsTo N f Z h i
theorem numsTo_succ {N f Z : Nat} {h : f + Z ≤ N} {i : Nat} (hi : i < Z) : numsTo N f Z h (i + 1) = numsTo N f Z h i ++ [⟨f + i, by omega⟩] := by
  simp [numsTo, hi]
theorem numsTo_len {N f Z : Nat} {h : f + Z ≤ N} {i : Nat} (hi : i ≤ Z) : (numsTo N f Z h i).length = i := by
  induction i with
  | zero => rfl
  | succ i ih => rw [numsTo_succ (by omega), List.length_append, ih (by omega)]; rfl

set_option maxHeartbeats 4000000 in
theorem numbers1_in (q : Nat) (hq : 1 ≤ q) (l B bp k f Z N : Nat) (hN : f + Z ≤ N) (hb : f + Z ≤ 100000) (J Jx : List (Sn N) → World → Prop)
    (hY : ∀ pre (x : Sn N) W, J pre W → pre.length < Z → YieldAt Fence.wide (q - 1) Try.prog l #[.int .i64 (x.1 : Int)] W fun e W' =>
      (e = .returned (.bool true) ∧ J (pre ++ [x]) W' ∧ KeepsNm B bp k f Z W W') ∨ (e = .returned (.bool false) ∧ Jx (pre ++ [x]) W'))
    (W : World) (hW : NmOk B bp k f Z W) (h0 : J [] W) :
    CallsIn Fence.wide q Try.prog 65 #[.func (.yield l) #[] #[], .pointer (some ⟨B, 0, none⟩)] W fun e W' => (∃ v, e = .returned v) ∧
      ((∃ ys, ys = numsTo N f Z hN Z ∧ J ys W') ∨ (∃ pre, (∃ j, j ≤ Z ∧ pre = numsTo N f Z hN j) ∧ Jx pre W')) := by
  refine callsIn_of_wp Try.func65 rfl trivial ?_ rfl
  simp only [Try.ntmps65, List.size_toArray, List.length_cons, List.length_nil, Nat.reduceAdd, Nat.reduceSub, Array.replicate_succ, Array.replicate_zero, List.push_toArray, List.append_toArray, List.nil_append, List.cons_append]
  have HW : Hid (NmOk B bp k f Z W) := hW
  obtain ⟨b1, c2, c3⟩ := hW
  have c1 := b1.cell
  clear b1 c2
  gi_wp2
  clear c1 c3
  gi_loopw [8] (fun v wr => ∃ j : Nat, j ≤ Z ∧ v = .int .i64 j ∧ J (numsTo N f Z hN j) wr ∧ Hid (NmOk B bp k f Z wr))
    (fun v _ => Z - (intOf v).toNat)
  case atStart => exact ⟨0, Nat.zero_le _, rfl, h0, HW.out⟩
  case round =>
    obtain ⟨j, hj, rfl, hJ, hwk⟩ := hrel
    by_cases hlt : j < Z
    · have HT : Hid (numsTo N f Z hN (j + 1) = numsTo N f Z hN j ++ [⟨f + j, by omega⟩]) := numsTo_succ hlt
      obtain ⟨fn, tmps, assign, body, hy, hR⟩ := hY _ ⟨f + j, by omega⟩ _ hJ (by rw [numsTo_len (by omega)]; omega)
      obtain ⟨b1, c2, _⟩ := hwk.out
      have c1 := b1.cell
      rw [show (((f + j : Nat)) : Int) = (f : Int) + (j : Int) by omega] at hy
      clear hJ b1
      gi_wp2
      refine hR.mono ?_
      rintro e W3 (⟨rfl, hJ3, hk3⟩ | ⟨rfl, hJx3⟩)
      · have HW3 : Hid (NmOk B bp k f Z W3) := hk3 hwk.out
        clear c1 c2
        gi_wp2
        go_roundw
        case rel => exact ⟨j + 1, hlt, by go_num, by rw [HT.out]; exact hJ3, HW3.out⟩
        case measure => simp [intOf]; omega
      · gi_wp2
        refine bodyPost_ret (results_none rfl _ _ _) rfl ?_
        exact ⟨⟨_, rfl⟩, .inr ⟨_, ⟨j + 1, hlt, HT.out.symm⟩, hJx3⟩⟩
    · obtain rfl : j = Z := by omega
      gi_wp2
      go_end0
      exact ⟨⟨_, rfl⟩, .inl ⟨_, rfl, hJ⟩⟩

set_option maxHeartbeats 1000000 in
theorem numbers_any (v : Option Addr) (w : World) :
    Calls Try.prog 64 #[.pointer v] w fun e w' => e = .returned (.func (.func 65) #[] #[.pointer (some ⟨w.heap.size, 0, none⟩)]) ∧ w' = w.alloc (.cells #[.pointer v] 89) := by
  go_enter Try.func64, Try.ntmps64
  go_wp2_with fail
  go_ret
  exact ⟨rfl, rfl⟩
theorem numbers_stops (q : Nat) (hq : 1 ≤ q) (B bp k f Z N : Nat) (hN : f + Z ≤ N) (hb : f + Z ≤ 100000) (w : World) (hw : NmOk B bp k f Z w) :
    SeqStopsK Fence.wide q Try.prog 65 #[.pointer (some ⟨B, 0, none⟩)] (fun x : Sn N => #[Value.int .i64 (x.1 : Int)]) (KeepsNm B bp k f Z) (fun ys => ys = numsTo N f Z hN Z) (fun pre => ∃ j, j ≤ Z ∧ pre = numsTo N f Z hN j) Z w :=
  fun l J Jx W hW _ _ hY h0 => numbers1_in q hq l B bp k f Z N hN hb J Jx hY W (hw.onto hW) h0
end Go.Proofs.Ytobpignlamekmaa
