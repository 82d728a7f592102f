/- lattice.Order with its errors; two rows of ints. -/
import Derived.Test.YtcfpfddbbhphgabLOrdP
namespace Go.Proofs.Ytcfpfddbbhphgab
open Go.RowKit Go.Shelf

set_option maxRecDepth 100000 in
set_option maxHeartbeats 1000000 in
theorem order_bad (a : Option Addr) (n cap : Nat) (z : Nat → Int) (w : World) (hn : n < 9223372036854775807) (hc : Cells w .u64 a n z) (hz : Bds n z) (hk : polE n z ≠ 0) :
    Calls Try.prog 16 #[.slice a n cap] w fun e w' => e = .returned (.tuple #[.slice none 0 0, .int .i64 (polE n z)]) ∧ Below w.heap.size w w' := by
  have hrd := read_un a n cap z w hn hc hz
  have hne : (polE n z != 0) = true := by simp [hk]
  clear hc hz
  refine (callsIn_wide (n := 8)).1 ?_
  refine callsIn_of_wp_marks Try.func16 rfl trivial ?_ rfl
  simp only [Try.ntmps16, List.size_toArray, List.length_cons, List.length_nil, Nat.reduceAdd, Nat.reduceSub, Array.replicate_succ, Array.replicate_zero, List.push_toArray, List.append_toArray, List.nil_append, List.cons_append]
  gi_wp2_with fail
  refine ⟨trivial, (callsIn_wide.2 hrd).mono ?_⟩
  rintro e w1 ⟨hb, ⟨_, rfl⟩ | ⟨h0, _⟩⟩
  · clear hrd
    have hB1 := hb.alloc hb.size (.cells #[.slice none 0 0, .slice none 0 0] 51)
    gi_wp2
    exact ⟨_, results_tmp2 rfl _ _ _, rfl, hB1⟩
  · exact absurd h0 hk
theorem order_un (a : Option Addr) (n cap : Nat) (z : Nat → Int) (w : World) (hn : n < 9223372036854775807) (hc : Cells w .u64 a n z) (hz : Bds n z) :
    Calls Try.prog 16 #[.slice a n cap] w (GivesO w n z) := by
  by_cases hk : polE n z = 0
  · exact (order_ok a n cap z w hc hz hk).mono fun e w' ⟨v, L, s, he, hO, ho, hb⟩ => givesO_own (pol_of hz hk) he hO ho hb
  · exact (order_bad a n cap z w hn hc hz hk).mono fun e w' ⟨he, hb⟩ => ⟨none, 0, [], he, fun j hj => absurd hj (by simp), .inl ⟨hk, rfl⟩, hb⟩

theorem ord_same {n : Nat} {z : Nat → Int} {L L' : List Nat} (h : (polE n z ≠ 0 ∧ L = []) ∨ (polE n z = 0 ∧ ∃ s, OrdIs n z n L s)) (g : (polE n z ≠ 0 ∧ L' = []) ∨ (polE n z = 0 ∧ ∃ s, OrdIs n z n L' s)) : L' = L := by
  rcases h with ⟨h0, rfl⟩ | ⟨h0, s, h⟩ <;> rcases g with ⟨g0, rfl⟩ | ⟨g0, t, g⟩
  · rfl
  · exact absurd g0 h0
  · exact absurd h0 g0
  · exact (g.one h).1
theorem ord_len {n : Nat} {z : Nat → Int} {L : List Nat} (hn : n ≤ 17) (h : (polE n z ≠ 0 ∧ L = []) ∨ (polE n z = 0 ∧ ∃ s, OrdIs n z n L s)) : L.length ≤ 17 := by
  rcases h with ⟨_, rfl⟩ | ⟨h0, s, h⟩
  · simp
  · have : n ≤ 16 := (shpE_ok (polE_ok h0).1).2.1
    rw [(h.inv this).1]; exact hn

end Go.Proofs.Ytcfpfddbbhphgab
