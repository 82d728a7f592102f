/- lattice.Product with its errors. -/
import Derived.Test.YtcfpfddbbhphgabLProdP
namespace Go.Proofs.Ytcfpfddbbhphgab
open Go.RowKit Go.Shelf

set_option maxRecDepth 100000 in
set_option maxHeartbeats 1000000 in
theorem product_bad1 (a b : Option Addr) (n m ca cb : Nat) (z : Nat → Int) (w : World) (hn : n < 9223372036854775807) (hc : Cells w .u64 a n z) (hz : Bds n z) (hk : polE n z ≠ 0) :
    Calls Try.prog 15 #[.slice a n ca, .slice b m cb] w fun e w' => e = .returned (.tuple #[.slice none 0 0, .int .i64 (polE n z)]) ∧ Below w.heap.size w w' := by
  have hB0 : Below w.heap.size w (w.alloc (.cells #[.slice b m cb] 22)) := (Below.refl _ w).alloc (Nat.le_refl _) _
  have h1 := check2_un a n ca z _ hn (hc.below hB0) hz
  have hne : (polE n z != 0) = true := by simp [hk]
  generalize polE n z = c at *
  clear hc hz hk
  refine (callsIn_wide (n := 8)).1 ?_
  refine callsIn_of_wp_marks Try.func15 rfl trivial ?_ rfl
  simp only [Try.ntmps15, List.size_toArray, List.length_cons, List.length_nil, Nat.reduceAdd, Nat.reduceSub, Array.replicate_succ, Array.replicate_zero, List.push_toArray, List.append_toArray, List.nil_append, List.cons_append]
  gi_wp2_with fail
  refine ⟨trivial, (callsIn_wide.2 h1).mono ?_⟩
  rintro e w1 ⟨rfl, b1⟩
  have hB1 := Below.onto hB0 b1
  gi_wp2
  exact ⟨_, results_tmp2 rfl _ _ _, rfl, hB1⟩
set_option maxRecDepth 100000 in
set_option maxHeartbeats 1000000 in
theorem product_bad2 (a b : Option Addr) (n m ca cb : Nat) (z y : Nat → Int) (w : World) (hn : n < 9223372036854775807) (hm : m < 9223372036854775807) (hc : Cells w .u64 a n z) (hd : Cells w .u64 b m y) (hz : Bds n z) (hy : Bds m y) (hk : polE n z = 0) (hl : polE m y ≠ 0) :
    Calls Try.prog 15 #[.slice a n ca, .slice b m cb] w fun e w' => e = .returned (.tuple #[.slice none 0 0, .int .i64 (polE m y)]) ∧ Below w.heap.size w w' := by
  have hB0 : Below w.heap.size w (w.alloc (.cells #[.slice b m cb] 22)) := (Below.refl _ w).alloc (Nat.le_refl _) _
  have bG0 := Boxed.new w 22 (.slice b m cb)
  have h1 := check2_un a n ca z _ hn (hc.below hB0) hz
  rw [hk] at h1
  have h2 := fun w' h => check2_un b m cb y w' hm h hy
  have hne : (polE m y != 0) = true := by simp [hl]
  have HD : Hid (Cells w .u64 b m y) := hd
  generalize polE m y = c at *
  clear hc hz hk hl hd hy
  refine (callsIn_wide (n := 8)).1 ?_
  refine callsIn_of_wp_marks Try.func15 rfl trivial ?_ rfl
  simp only [Try.ntmps15, List.size_toArray, List.length_cons, List.length_nil, Nat.reduceAdd, Nat.reduceSub, Array.replicate_succ, Array.replicate_zero, List.push_toArray, List.append_toArray, List.nil_append, List.cons_append]
  gi_wp2_with fail
  refine ⟨trivial, (callsIn_wide.2 h1).mono ?_⟩
  rintro e w1 ⟨rfl, b1⟩
  have hB1 := Below.onto hB0 b1
  have k1 := (Boxed.through bG0 b1).cell
  clear h1 hB0 bG0 b1
  gi_wp2_with fail
  refine ⟨trivial, (callsIn_wide.2 (h2 _ (HD.out.below hB1))).mono ?_⟩
  rintro e w2 ⟨rfl, b2⟩
  have hB2 := Below.onto hB1 b2
  gi_wp2
  exact ⟨_, results_tmp2 rfl _ _ _, rfl, hB2⟩
set_option maxRecDepth 100000 in
set_option maxHeartbeats 1000000 in
theorem product_many (a b : Option Addr) (n m ca cb : Nat) (z y : Nat → Int) (w : World) (hc : Cells w .u64 a n z) (hd : Cells w .u64 b m y) (hz : Bds n z) (hy : Bds m y) (hk : polE n z = 0) (hl : polE m y = 0) (hnm : 16 < n * m) :
    Calls Try.prog 15 #[.slice a n ca, .slice b m cb] w fun e w' => e = .returned (.tuple #[.slice none 0 0, .int .i64 3]) ∧ Below w.heap.size w w' := by
  have hn16 := (pol_of hz hk).le
  have hm16 := (pol_of hy hl).le
  have hB0 : Below w.heap.size w (w.alloc (.cells #[.slice b m cb] 22)) := (Below.refl _ w).alloc (Nat.le_refl _) _
  have bG0 := Boxed.new w 22 (.slice b m cb)
  have h1 := check2_un a n ca z _ (by omega) (hc.below hB0) hz
  rw [hk] at h1
  have h2 := fun w' h => check2_un b m cb y w' (by omega) h hy
  rw [hl] at h2
  have HD : Hid (Cells w .u64 b m y) := hd
  have hle : n * m ≤ 16 * 16 := Nat.mul_le_mul hn16 hm16
  have hmul : (n : Int) * (m : Int) = ((n * m : Nat) : Int) := by simp
  generalize n * m = q at *
  clear hc hz hk hl hd hy
  refine (callsIn_wide (n := 8)).1 ?_
  refine callsIn_of_wp_marks Try.func15 rfl trivial ?_ rfl
  simp only [Try.ntmps15, List.size_toArray, List.length_cons, List.length_nil, Nat.reduceAdd, Nat.reduceSub, Array.replicate_succ, Array.replicate_zero, List.push_toArray, List.append_toArray, List.nil_append, List.cons_append]
  gi_wp2_with fail
  refine ⟨trivial, (callsIn_wide.2 h1).mono ?_⟩
  rintro e w1 ⟨rfl, b1⟩
  have hB1 := Below.onto hB0 b1
  have bG1 := Boxed.through bG0 b1
  have k1 := bG1.cell
  clear h1 hB0 bG0 b1
  gi_wp2_with fail
  refine ⟨trivial, (callsIn_wide.2 (h2 _ (HD.out.below hB1))).mono ?_⟩
  rintro e w2 ⟨rfl, b2⟩
  have hB2 := Below.onto hB1 b2
  have k2 := (Boxed.through bG1 b2).cell
  clear bG1 k1
  gi_wp2
  exact ⟨_, results_tmp2 rfl _ _ _, rfl, hB2⟩

theorem product_un (a b : Option Addr) (n m ca cb : Nat) (z y : Nat → Int) (w : World) (hn : n < 9223372036854775807) (hm : m < 9223372036854775807) (hc : Cells w .u64 a n z) (hd : Cells w .u64 b m y) (hz : Bds n z) (hy : Bds m y) :
    Calls Try.prog 15 #[.slice a n ca, .slice b m cb] w (Gives w (prdE n m z y) (n * m) (prod n m z y)) := by
  by_cases h1 : polE n z = 0
  · by_cases h2 : polE m y = 0
    · by_cases h3 : 16 < n * m
      · have e : prdE n m z y = 3 := by simp [prdE, h1, h2, h3]
        rw [e]
        exact (product_many a b n m ca cb z y w hc hd hz hy h1 h2 h3).mono fun e w' ⟨he, hb⟩ => gives_bad (by decide) he hb
      · have e : prdE n m z y = 0 := by simp [prdE, h1, h2, h3]
        rw [e]
        exact product_ok a b n m ca cb z y w hc hd hz hy h1 h2 (by omega)
    · have e : prdE n m z y = polE m y := by simp [prdE, h1, h2]
      rw [e]
      exact (product_bad2 a b n m ca cb z y w hn hm hc hd hz hy h1 h2).mono fun e w' ⟨he, hb⟩ => gives_bad h2 he hb
  · have e : prdE n m z y = polE n z := by simp [prdE, h1]
    rw [e]
    exact (product_bad1 a b n m ca cb z w hn hc hz h1).mono fun e w' ⟨he, hb⟩ => gives_bad h1 he hb

end Go.Proofs.Ytcfpfddbbhphgab
