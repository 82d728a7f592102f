/- The statements' head of layer 2: the subsets of two things. -/
import Derived.Test.YtcfpfddbbhphgabLLat
import Derived.Test.YtcfpfddbbhphgabLMiss
import Derived.Test.YtcfpfddbbhphgabLPow
namespace Go.Proofs.Ytcfpfddbbhphgab
open Go.RowKit Go.Shelf

theorem missing_bad (a : Option Addr) (n cap : Nat) (z : Nat → Int) (w : World) (hn : n < 9223372036854775807) (hc : Cells w .u64 a n z) (hz : Bds n z) (hk : shpE n z ≠ 0) :
    Calls Try.prog 18 #[.slice a n cap] w fun e w' => e = .returned (.tuple #[.slice none 0 0, .int .i64 (shpE n z)]) ∧ Below w.heap.size w w' := by
  have hcl := closed_un a n cap z w hn hc hz
  have hne : (shpE n z != 0) = true := by simp [hk]
  have hl : lenIf (shpE n z) n = 0 := by simp [lenIf, hk]
  clear hc hz
  refine (callsIn_wide (n := 8)).1 ?_
  refine callsIn_of_wp_marks Try.func18 rfl trivial ?_ rfl
  simp only [Try.ntmps18, List.size_toArray, List.length_cons, List.length_nil, Nat.reduceAdd, Nat.reduceSub, Array.replicate_succ, Array.replicate_zero, List.push_toArray, List.append_toArray, List.nil_append, List.cons_append]
  gi_wp2_with fail
  refine ⟨trivial, (callsIn_wide.2 hcl).mono ?_⟩
  rintro e w1 ⟨v, cv, rfl, hv, hb⟩
  clear hv hcl
  gi_wp2
  exact ⟨_, results_tmp2 rfl _ _ _, rfl, hb⟩

def duo (x y : Int) : Nat → Int := fun j => if j = 0 then x else y
theorem two_cells (w : World) (x y : Int) (t : TypeId) : Cells (w.alloc (.cells #[.int .u64 x, .int .u64 y] t)) .u64 (some ⟨w.heap.size, 0, none⟩) 2 (duo x y) := by
  have hb : (w.alloc (.cells #[.int .u64 x, .int .u64 y] t)).heap[w.heap.size]? = some (.cells #[.int .u64 x, .int .u64 y] t (0, 0)) := World.alloc_heap_new w _
  intro j hj
  refine ⟨w.heap.size, 0, rfl, ?_⟩
  rw [Nat.zero_add, cell_of_row _ _ j _ t (0, 0) hb]
  match j, hj with
  | 0, _ => rfl
  | 1, _ => rfl
theorem one_cells (w : World) (x : Int) (t : TypeId) : Cells (w.alloc (.cells #[.int .u64 x] t)) .u64 (some ⟨w.heap.size, 0, none⟩) 1 (fun _ => x) := by
  have hb : (w.alloc (.cells #[.int .u64 x] t)).heap[w.heap.size]? = some (.cells #[.int .u64 x] t (0, 0)) := World.alloc_heap_new w _
  intro j hj
  refine ⟨w.heap.size, 0, rfl, ?_⟩
  rw [Nat.zero_add, cell_of_row _ _ j _ t (0, 0) hb]
  match j, hj with
  | 0, _ => rfl

theorem pol4 : polE 4 (pw 4) = 0 := by decide +kernel
theorem ask4 : askE 4 (pw 4) 1 2 = 0 := by decide +kernel
theorem jn4 : jnV 4 (pw 4) 1 2 = 8 := by decide +kernel
theorem bad4 : ∀ a b : Fin 4, badB 4 (pw 4) a.1 b.1 = false := by decide +kernel
theorem shp2 : shpE 2 (duo 2 0) = 0 := by decide +kernel
theorem ms2 : msTo 2 (duo 2 0) 2 = [(0, 0), (1, 1)] := by decide +kernel
theorem pol1 : polE 1 (fun _ => 1) = 0 := by decide +kernel

theorem aw_power (w : World) : Calls Try.prog 12 #[.int .i64 2] w fun e w' => ∃ f cf, e = .returned (.tuple #[.slice f 4 cf, .int .i64 0]) ∧ Cells w' .u64 f 4 (pw 4) ∧ Below w.heap.size w w' := by
  have h := power_ok 2 (by omega) w
  refine Calls.mono (show Calls Try.prog 12 #[.int .i64 2] w (Gives w 0 (2 ^ 2) (pw (2 ^ 2))) from h) ?_
  rintro e w1 ⟨f, cf, rfl, hf, h1⟩
  have hl : lenIf 0 (2 ^ 2) = 4 := by simp [lenIf]
  rw [hl] at hf
  rw [hl]
  exact ⟨f, cf, rfl, hf, h1⟩
theorem aw_joins (a : Option Addr) (cap : Nat) (w : World) (h : Cells w .u64 a 4 (pw 4)) : Calls Try.prog 13 #[.slice a 4 cap, .int .i64 1, .int .i64 2] w fun e w' => e = .returned (.tuple #[.int .u64 8, .int .i64 0]) ∧ Below w.heap.size w w' := by
  have := joins_un a 4 cap (pw 4) 1 2 w (by omega) h (pw_bds (by omega))
  rwa [ask4, jn4] at this
theorem aw_lattice (a : Option Addr) (cap : Nat) (w : World) (h : Cells w .u64 a 4 (pw 4)) : Calls Try.prog 8 #[.slice a 4 cap] w fun e w' => e = .returned (.tuple #[.agg #[.int .i64 0, .int .i64 0], .bool true, .int .i64 0]) ∧ Below w.heap.size w w' := by
  refine (lattice_ok a 4 cap (pw 4) w (by omega) h (pw_bds (by omega)) pol4).mono ?_
  rintro e w' ⟨x, y, ok, rfl, hl, hb⟩
  rcases hl with ⟨rfl, rfl, rfl, _⟩ | ⟨rfl, h1, h2, h3, _⟩
  · exact ⟨rfl, hb⟩
  · have := bad4 ⟨x, h1⟩ ⟨y, h2⟩
    rw [h3] at this; cases this
theorem aw_missing (w : World) (t : TypeId) : Calls Try.prog 18 #[.slice (some ⟨w.heap.size, 0, none⟩) 2 2] (w.alloc (.cells #[.int .u64 2, .int .u64 0] t)) fun e w' => ∃ g cap, e = .returned (.tuple #[.slice (some ⟨g, 0, none⟩) 2 cap, .int .i64 0]) ∧ w'.cell? ⟨g, 0, none⟩ = some (.int .i64 0) ∧ w'.cell? ⟨g, 1, none⟩ = some (.int .i64 0) ∧ Below w.heap.size w w' := by
  refine (missing_ok _ 2 2 (duo 2 0) _ (two_cells w 2 0 t) ?_ shp2).mono ?_
  · intro j hj
    match j, hj with
    | 0, _ => decide
    | 1, _ => decide
  · rintro e w' ⟨v, rfl, ho, hb⟩
    rw [ms2] at ho
    have ho' : w'.ownsRow (w.alloc (.cells #[.int .u64 2, .int .u64 0] t)).heap.size 26 2 v (1 + 1) [.int .i64 0, .int .i64 0, .int .i64 1, .int .i64 1] := ho
    obtain ⟨g, cap, rfl⟩ := ownsRow_succ ho'
    refine ⟨g, cap, rfl, ?_, ?_, ((Below.refl _ w).alloc (Nat.le_refl _) _).trans (hb.mono (by simp))⟩
    · rw [World.ownsRow.cellAt ho' 0 (by omega)]; rfl
    · rw [World.ownsRow.cellAt ho' 1 (by omega)]; rfl
theorem aw_missing' (w : World) (B : Nat) (hB : w.heap.size = B) (t : TypeId) : Calls Try.prog 18 #[.slice (some ⟨B, 0, none⟩) 2 2] (w.alloc (.cells #[.int .u64 2, .int .u64 0] t)) fun e w' => ∃ g cap, e = .returned (.tuple #[.slice (some ⟨g, 0, none⟩) 2 cap, .int .i64 0]) ∧ w'.cell? ⟨g, 0, none⟩ = some (.int .i64 0) ∧ w'.cell? ⟨g, 1, none⟩ = some (.int .i64 0) ∧ Below w.heap.size w w' := by
  subst hB; exact aw_missing w t
theorem aw_check (w : World) (t : TypeId) : Calls Try.prog 19 #[.slice (some ⟨w.heap.size, 0, none⟩) 1 1] (w.alloc (.cells #[.int .u64 1] t)) fun e w' => e = .returned (.int .i64 0) ∧ Below w.heap.size w w' := by
  refine (check2_un _ 1 1 (fun _ => 1) _ (by omega) (one_cells w 1 t) (fun _ _ => ⟨by show (0 : Int) ≤ 1; decide, by show (1 : Int) < 18446744073709551616; decide⟩)).mono ?_
  rintro e w' ⟨rfl, hb⟩
  exact ⟨by rw [pol1], ((Below.refl _ w).alloc (Nat.le_refl _) _).trans (hb.mono (by simp))⟩

set_option maxRecDepth 100000 in
set_option maxHeartbeats 2000000 in
theorem awake_any (w : World) : Calls Try.prog 6 #[] w fun e w' => e = .returned (.bool true) ∧ Below w.heap.size w w' := by
  go_enter Try.func6, Try.ntmps6
  go_wp2_with fail
  refine (aw_power w).mono ?_
  rintro e w1 ⟨f, cf, rfl, hf, h1⟩
  have HF : Hid (Cells w1 .u64 f 4 (pw 4)) := hf
  clear hf
  go_wp2_with fail
  refine (aw_joins f cf _ HF.out).mono ?_
  rintro e w2 ⟨rfl, h2⟩
  go_wp2_with fail
  refine (aw_lattice f cf _ (HF.out.below h2)).mono ?_
  rintro e w3 ⟨rfl, h3⟩
  have hb3 := Below.onto (Below.onto h1 h2) h3
  clear h1 h2 h3 HF
  go_wp2_with fail
  refine (aw_missing' (w3.alloc (.cells #[.int .i64 0, .int .i64 0] 26)) (w3.heap.size + 1) (by simp) 35).mono ?_
  rintro e w4 ⟨g, cg, rfl, k1, k2, h4⟩
  have hb4 : Below w.heap.size w w4 := Below.onto (hb3.alloc hb3.size _) h4
  clear h4 hb3
  go_wp2_with fail
  refine (aw_check _ _).mono ?_
  rintro e w5 ⟨rfl, h5⟩
  go_wp2_with fail
  go_ret
  exact ⟨rfl, Below.onto hb4 h5⟩

end Go.Proofs.Ytcfpfddbbhphgab
