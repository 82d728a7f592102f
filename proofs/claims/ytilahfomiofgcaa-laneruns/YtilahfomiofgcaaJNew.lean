/- New. -/
import Derived.Test.YtilahfomiofgcaaJTake
import Derived.Carry
namespace Go.Proofs.Ytilahfomiofgcaa
open Go.RowKit Go.Sort
set_option maxRecDepth 100000

def okCr (c : Int) : Bool := decide (1 ≤ c) && decide (c ≤ 64)
set_option maxHeartbeats 400000 in
theorem jnew_no (c : Int) (two : Bool) (st : Int) (w : World) (h : okCr c = false) :
    Calls Try.prog 5 #[.int .i64 c, .bool two, .int .u64 st] w fun v w' => v = .returned (.tuple #[.pointer none, .int .i64 80]) ∧ w' = w := by
  by_cases h1 : 1 ≤ c
  · have h2 : 64 < c := by simp [okCr, h1] at h; omega
    go_enter Try.func5, Try.ntmps5
    go_wp2_with fail
    go_ret2
    exact ⟨rfl, rfl⟩
  · have h2 : c < 1 := by omega
    go_enter Try.func5, Try.ntmps5
    go_wp2_with fail
    go_ret2
    exact ⟨rfl, rfl⟩

/-- a lane's cells when it is made. (A seat whose program is greater names them itself, as 'zeroCells' and the type's number: there take that name for zcL.) -/
def zcL : Array Value := ([Value.int .i64 0, .bool false, .int .u64 0, .int .u64 0, .int .u64 0, .int .u64 0] ++ (List.replicate 64 [Value.int .u64 0, .int .i64 0, .int .u64 0, .bool false, .int .i64 0, .int .i64 0]).flatten ++ [Value.map none, .slice none 0 0]).toArray
theorem zcL_run (w : World) : (zeroValue 60).run Try.prog w = .ok (.agg zcL) w := by kernel_rfl
set_option maxHeartbeats 4000000 in
theorem jnew_ok (c : Nat) (two : Bool) (st : Int) (w : World) (h1 : 1 ≤ c) (h2 : c ≤ 64) (s0 : 0 ≤ st) (s1 : st < 18446744073709551616) :
    Calls Try.prog 5 #[.int .i64 (c : Int), .bool two, .int .u64 st] w fun v w' => ∃ o : Lo, v = .returned (.tuple #[o.ptr, .int .i64 0]) ∧ Lx w' o (newA c two st) ∧ Below w.heap.size w w' ∧ ∀ b, o.has b → w.heap.size ≤ b := by
  have hm := @run_makeMap Try.prog
  have hz : zcL.size = 392 := by kernel_rfl
  have z2 : zcL[2]? = some (.int .u64 0) := by kernel_rfl
  have z391 : zcL[391]? = some (.slice none 0 0) := by kernel_rfl
  have hzr := zcL_run
  generalize zcL = zc at *
  have hzn : ¬ zc = #[] := by intro e; rw [e] at hz; simp at hz
  go_enter Try.func5, Try.ntmps5
  go_wp2_with fail
  obtain ⟨cs, hcs⟩ : ∃ cs, cs = ((((((zc.setIfInBounds 0 (Value.int .i64 (c : Int))).setIfInBounds 1 (.bool two)).setIfInBounds 3 (.int .u64 st)).setIfInBounds 4 (.int .u64 st)).setIfInBounds 5 (.int .u64 st)).setIfInBounds 390 (.map (some w.heap.size))) := ⟨_, rfl⟩
  rw [← hcs]
  have hsz : cs.size = 392 := by rw [hcs]; simp [hz]
  have g0 : cs[0]? = some (.int .i64 (c : Int)) := by rw [hcs]; simp [hz]
  have g1 : cs[1]? = some (.bool two) := by rw [hcs]; simp [hz]
  have g2 : cs[2]? = some (.int .u64 0) := by rw [hcs]; simp [z2]
  have g3 : cs[3]? = some (.int .u64 st) := by rw [hcs]; simp [hz]
  have g4 : cs[4]? = some (.int .u64 st) := by rw [hcs]; simp [hz]
  have g5 : cs[5]? = some (.int .u64 st) := by rw [hcs]; simp [hz]
  have g6 : cs[390]? = some (.map (some w.heap.size)) := by rw [hcs]; simp [hz]
  have g7 : cs[391]? = some (.slice none 0 0) := by rw [hcs]; simp [z391]
  have hsq : sqI st 0 = st := by unfold sqI; omega
  have e1 : (w.alloc (.map #[] 0)).heap.size = w.heap.size + 1 := by simp
  have hbl : ((w.alloc (.map #[] 0)).alloc (.cells cs 60)).heap[w.heap.size + 1]? = some (.cells cs 60 (0, 0)) := by
    have := World.alloc_heap_new (w.alloc (.map #[] 0)) (.cells cs 60)
    rwa [e1] at this
  have hB : Below w.heap.size w ((w.alloc (.map #[] 0)).alloc (.cells cs 60)) := jalloc (jalloc (Below.refl _ _) _) _
  have hmp : Mp ((w.alloc (.map #[] 0)).alloc (.cells cs 60)) w.heap.size st [] := (mp_new w st).same (Below.heap_alloc _ _ _ (by simp))
  clear hcs
  generalize (w.alloc (.map #[] 0)).alloc (.cells cs 60) = w1 at *
  let o : Lo := ⟨w.heap.size + 1, w.heap.size, .slice none 0 0, [], [], fun i => cs[i]?.getD undef⟩
  have x : Lx w1 o (newA c two st) := by
    refine ⟨⟨⟨cs, 60, hbl, hsz⟩, fun i hi => ?_⟩, ⟨?_, ?_, ?_, ?_, ?_, ?_, by simp [newA], ?_, ?_⟩, hmp, World.ownsRow_nil _ _ _ _, by simp [newA, o], by simp [newA, o], ⟨by simp only [o, Lo.base]; omega, by simp only [o, Lo.base]; omega, by simp [o]⟩, newA_ok h1 h2 s0 s1⟩
    · show w1.cell? ⟨w.heap.size + 1, i, none⟩ = some (cs[i]?.getD undef)
      rw [cell_of_row _ _ i _ 60 (0, 0) hbl, Array.getElem?_eq_getElem (by omega)]
      rfl
    · show cs[0]?.getD undef = _; rw [g0]; rfl
    · show cs[1]?.getD undef = _; rw [g1]; rfl
    · show cs[2]?.getD undef = _; rw [g2]; rfl
    · show cs[3]?.getD undef = .int .u64 (sqI st 0); rw [g3, hsq]; rfl
    · show cs[4]?.getD undef = .int .u64 (sqI st 0); rw [g4, hsq]; rfl
    · show cs[5]?.getD undef = .int .u64 (sqI st 0); rw [g5, hsq]; rfl
    · show cs[390]?.getD undef = _; rw [g6]; rfl
    · show cs[391]?.getD undef = _; rw [g7]; rfl
  refine bodyPost_ret (v := .tuple #[o.ptr, .int .i64 0]) (by simp [results, Try.results5, go_sem, o]) rfl ⟨o, rfl, x, hB, fun b hb => ?_⟩
  rcases hb with rfl | rfl | hb
  · show w.heap.size ≤ w.heap.size + 1; omega
  · exact Nat.le_refl _
  · simp [o, Value.ownBlock] at hb
end Go.Proofs.Ytilahfomiofgcaa
