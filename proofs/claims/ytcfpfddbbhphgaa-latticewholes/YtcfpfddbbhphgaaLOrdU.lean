/- lattice.Order with its errors; two rows of ints. -/
import Derived.Test.YtcfpfddbbhphgaaLOrdP
namespace Go.Proofs.Ytcfpfddbbhphgaa
open Go.RowKit Go.Shelf

set_option maxRecDepth 100000 in
set_option maxHeartbeats 1000000 in
theorem order_bad (a : Option Addr) (n cap : Nat) (z : Nat → Int) (w : World) (hn : n < 9223372036854775807) (hc : Cells w .u64 a n z) (hz : Bds n z) (hk : polE n z ≠ 0) :
    Calls Try.prog 26 #[.slice a n cap] w fun e w' => e = .returned (.tuple #[.slice none 0 0, .int .i64 (polE n z)]) ∧ Below w.heap.size w w' := by
  have hrd := read_un a n cap z w hn hc hz
  have hne : (polE n z != 0) = true := by simp [hk]
  clear hc hz
  refine (callsIn_wide (n := 8)).1 ?_
  refine callsIn_of_wp_marks Try.func26 rfl trivial ?_ rfl
  simp only [Try.ntmps26, List.size_toArray, List.length_cons, List.length_nil, Nat.reduceAdd, Nat.reduceSub, Array.replicate_succ, Array.replicate_zero, List.push_toArray, List.append_toArray, List.nil_append, List.cons_append]
  gi_wp2_with fail
  refine ⟨trivial, (callsIn_wide.2 hrd).mono ?_⟩
  rintro e w1 ⟨hb, ⟨_, rfl⟩ | ⟨h0, _⟩⟩
  · clear hrd
    have hB1 := hb.alloc hb.size (.cells #[.slice none 0 0, .slice none 0 0] 62)
    gi_wp2
    exact ⟨_, results_tmp2 rfl _ _ _, rfl, hB1⟩
  · exact absurd h0 hk
theorem order_un (a : Option Addr) (n cap : Nat) (z : Nat → Int) (w : World) (hn : n < 9223372036854775807) (hc : Cells w .u64 a n z) (hz : Bds n z) :
    Calls Try.prog 26 #[.slice a n cap] w (GivesO w n z) := by
  by_cases hk : polE n z = 0
  · exact (order_ok a n cap z w hc hz hk).mono fun e w' ⟨v, L, s, he, hO, ho, hb⟩ => givesO_own (pol_of hz hk) he hO ho hb
  · exact (order_bad a n cap z w hn hc hz hk).mono fun e w' ⟨he, hb⟩ => ⟨none, 0, [], he, fun j hj => absurd hj (by simp), .inl ⟨hk, rfl⟩, hb⟩

set_option maxHeartbeats 1000000 in
theorem sameInts_true (a b : Option Addr) (m ca cb : Nat) (x : Nat → Int) (w : World) (hm : m < 4611686018427387904) (ha : Cells w .i64 a m x) (hb : Cells w .i64 b m x) :
    Calls Try.prog 29 #[.slice a m ca, .slice b m cb] w fun e w' => e = .returned (.bool true) ∧ Below w.heap.size w w' := by
  have HA : Hid (Cells w .i64 a m x) := ha
  have HB : Hid (Cells w .i64 b m x) := hb
  clear ha hb
  go_enter Try.func29, Try.ntmps29
  go_wp2
  go_loopw [5] (fun i wr => ∃ k : Nat, k ≤ m ∧ i = .int .i64 k ∧ Below w.heap.size w wr) (fun i _ => m - (intOf i).toNat)
  case atStart => exact ⟨0, by omega, rfl, Below.refl _ _⟩
  case round =>
    obtain ⟨k, hk, rfl, hbel⟩ := hrel
    by_cases hlt : k < m
    · obtain ⟨g1, o1, rfl, hc1⟩ := HA.out.below hbel k hlt
      obtain ⟨g2, o2, rfl, hc2⟩ := HB.out.below hbel k hlt
      go_wp2
      go_quiet (fail)
      go_wp2
      go_roundw
      case rel => exact ⟨k + 1, by omega, by go_num, below_drewN hbel nq⟩
      case measure => simp [intOf]; omega
    · obtain rfl : k = m := by omega
      go_wp2
      go_ret
      exact ⟨rfl, hbel⟩
theorem ord_same {n : Nat} {z : Nat → Int} {L L' : List Nat} (h : (polE n z ≠ 0 ∧ L = []) ∨ (polE n z = 0 ∧ ∃ s, OrdIs n z n L s)) (g : (polE n z ≠ 0 ∧ L' = []) ∨ (polE n z = 0 ∧ ∃ s, OrdIs n z n L' s)) : L' = L := by
  rcases h with ⟨h0, rfl⟩ | ⟨h0, s, h⟩ <;> rcases g with ⟨g0, rfl⟩ | ⟨g0, t, g⟩
  · rfl
  · exact absurd g0 h0
  · exact absurd h0 g0
  · exact (g.one h).1
theorem ord_len {n : Nat} {z : Nat → Int} {L : List Nat} (hn : n ≤ 17) (h : (polE n z ≠ 0 ∧ L = []) ∨ (polE n z = 0 ∧ ∃ s, OrdIs n z n L s)) : L.length ≤ 17 := by
  rcases h with ⟨_, rfl⟩ | ⟨h0, s, h⟩
  · simp
  · have : n ≤ 16 := (shpE_ok (polE_ok h0).1).2.1
    rw [(h.inv this).1]; exact hn

end Go.Proofs.Ytcfpfddbbhphgaa
