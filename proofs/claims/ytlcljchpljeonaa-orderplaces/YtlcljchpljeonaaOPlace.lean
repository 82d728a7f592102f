/- Places of as many numbers as a ring's size: a row of bools of one's own. -/
import Derived.Test.YtlcljchpljeonaaOStamp
import Derived.Laws.MakeOwn
namespace Go.Proofs.Ytlcljchpljeonaa
open Go.RowKit

/-- was place j met by one of the first i numbers? -/
def seenB (f : Int) (n i j : Nat) : Bool := (List.range i).any fun k => decide ((f + k) % (n : Int) = (j : Int))
theorem seenB_zero (f : Int) (n j : Nat) : seenB f n 0 j = false := rfl
theorem seenB_succ (f : Int) (n i j : Nat) : seenB f n (i + 1) j = (seenB f n i j || decide ((f + i) % (n : Int) = (j : Int))) := by
  unfold seenB; rw [List.range_succ, List.any_append]; simp
theorem mod_apart (f : Int) {n k i : Nat} (hk : k < i) (hi : i < n) : ¬ (f + k) % (n : Int) = (f + i) % (n : Int) := by
  intro h
  have h2 := Int.emod_emod_of_dvd (f + i - (f + k)) (Int.dvd_refl (n : Int))
  have h3 : (f + i - (f + k)) % (n : Int) = 0 := by rw [Int.sub_emod, h, Int.sub_self]; rfl
  have h4 : f + i - (f + k) = ((i - k : Nat) : Int) := by omega
  rw [h4, ← Int.natCast_emod] at h3
  have h5 : (i - k) % n = i - k := Nat.mod_eq_of_lt (by omega)
  omega
theorem seenB_new (f : Int) {n i j : Nat} (hi : i < n) (hj : (j : Int) = (f + i) % (n : Int)) : seenB f n i j = false := by
  unfold seenB
  rw [List.any_eq_false]
  intro k hk
  have hk' : k < i := by simpa using hk
  have := mod_apart f hk' hi
  simp only [decide_eq_true_eq]
  rw [hj]
  exact this

/-- a row of bools of one's own -/
def Bo (W : World) (B n : Nat) (z : Nat → Bool) : Prop := ∀ j, j < n → W.cell? ⟨B, j, none⟩ = some (.bool (z j)) ∧ W.frozen? ⟨B, j, none⟩ = false
theorem Bo.set {W : World} {B n j : Nat} {z z' : Nat → Bool} {b : Bool} (h : Bo W B n z) (hz : ∀ i, z' i = if i = j then b else z i) : Bo (W.setCell ⟨B, j, none⟩ (.bool b)) B n z' := by
  intro i hi
  refine ⟨?_, by rw [World.frozen?_setCell]; exact (h i hi).2⟩
  rw [hz i]
  by_cases e : i = j
  · subst e
    rw [World.cell?_setCell_same' _ _ _ (by rw [(h _ hi).1]; rfl), if_pos rfl]
  · rw [World.cell?_setCell_other _ _ _ _ (by intro h; cases h; exact e rfl), (h i hi).1, if_neg e]
theorem seen_set (f : Int) {n i j : Nat} (hj : (j : Int) = (f + i) % (n : Int)) (x : Nat) : seenB f n (i + 1) x = if x = j then true else seenB f n i x := by
  rw [seenB_succ, ← hj]
  by_cases e : x = j
  · subst e; simp
  · rw [if_neg e]
    have : ¬ (j : Int) = (x : Int) := by omega
    simp [this]
theorem Try.infoBool : (Try.prog.info? 4).map (fun i => (i.zero, i.size, i.bytes)) = some (some (.bool false), 1, 1) := by kernel_rfl
theorem make_bools (w : World) (n : Nat) (hn : n ≤ 200000) : Sem.run Try.prog (Instr.makeSlice 54 (.int .i64 (n : Int)) (.int .i64 (n : Int))) w = .ok (.slice (some ⟨w.heap.size, 0, none⟩) n n) (w.alloc (.cells (madeCells #[.bool false] n) 4)) := by
  obtain ⟨i0, hi, hz0, hz1, hz2⟩ := info_parts Try.infoBool
  have := run_make (P := Try.prog) w 54 4 i0 _ Try.underlying54 hi hz0 .i64 .i64 n n (by omega) (Int.le_refl _) (by rw [hz2]; omega) (by omega)
  rw [hz1] at this
  simpa [Value.cells] using this
theorem bo_new (w : World) (n : Nat) : Bo (w.alloc (.cells (madeCells #[.bool false] n) 4)) w.heap.size n (fun _ => false) := by
  intro j hj
  have hb : (w.alloc (.cells (madeCells #[.bool false] n) 4)).heap[w.heap.size]? = some (.cells (madeCells #[.bool false] n) 4 (0, 0)) := heapNew w _
  have hs : (madeCells #[.bool false] n)[j]? = some (.bool false) := by
    simp [madeCells, hj, Nat.mod_one]
  exact ⟨by rw [cell_of_row _ _ j _ _ (0, 0) hb]; exact hs, frozen_of_row _ _ j _ _ hb⟩
theorem ring_pow (k : Nat) (h : k ≤ 8) : ringN ((2 ^ k : Nat) : Int) = 2 ^ k := by
  have : ∀ k : Fin 9, ringN ((2 ^ k.val : Nat) : Int) = 2 ^ k.val := by decide +kernel
  exact this ⟨k, by omega⟩
theorem pow_dvd {k : Nat} (h : k ≤ 8) : ((2 ^ k : Nat) : Int) ∣ 18446744073709551616 := by
  obtain ⟨c, hc⟩ : (2 : Nat) ^ k ∣ 2 ^ 64 := Nat.pow_dvd_pow 2 (by omega)
  refine ⟨(c : Int), ?_⟩
  have h2 : (18446744073709551616 : Nat) = 2 ^ k * c := hc
  generalize (2 : Nat) ^ k = q at *
  rw [← Int.natCast_mul, ← h2]
  rfl

end Go.Proofs.Ytlcljchpljeonaa
