/- Stamps of one budget and their numbers; two stamps in boxes. -/
import Derived.Test.YtlcljchpljeonaaOStamp
namespace Go.Proofs.Ytlcljchpljeonaa
open Go.RowKit

theorem num_facts {t s b : Int} (h : numB t s b = true) : (0 ≤ numI t s b ∧ numI t s b < 18446744073709551616) ∧ errNu t s b = 0 ∧ numI t s b = t * b + s ∧ (0 ≤ t ∧ t ≤ 1048576) ∧ (0 ≤ s ∧ s < b) ∧ 1 ≤ b ∧ b ≤ 16 := by
  have e1 : numI t s b = t * b + s := by simp [numI, h]
  have e2 : errNu t s b = 0 := by simp [errNu, h]
  simp [numB, budB] at h
  obtain ⟨⟨b0, b1⟩, t0, t1, s0, s1⟩ := h
  have := mul_le16 t0 t1 b0 b1
  exact ⟨by rw [e1]; omega, e2, e1, ⟨t0, t1⟩, ⟨s0, s1⟩, b0, b1⟩
theorem back_facts {t s b : Int} (h : numB t s b = true) : tickI (numI t s b) b = t ∧ stepI (numI t s b) b = s ∧ errSt (numI t s b) b = 0 := by
  obtain ⟨_, _, e, ⟨t0, t1⟩, ⟨s0, s1⟩, b0, b1⟩ := num_facts h
  have hq : (t * b + s) / b = t := by
    rw [Int.add_comm, Int.add_mul_ediv_right _ _ (by omega), Int.ediv_eq_zero_of_lt s0 s1, Int.zero_add]
  have hr : (t * b + s) % b = s := by
    rw [Int.add_comm, Int.add_mul_emod_self_right, Int.emod_eq_of_lt s0 s1]
  have hs : stB (numI t s b) b = true := by rw [e]; simp [stB, budB, hq, b0, b1, t1]
  exact ⟨by simp only [tickI, hs, if_true]; rw [e, hq], by simp only [stepI, hs, if_true]; rw [e, hr], by simp [errSt, hs]⟩
theorem num_lt {t s t' s' b : Int} (h : numB t s b = true) (h' : numB t' s' b = true) (hl : t < t' ∨ (t = t' ∧ s < s')) : numI t s b < numI t' s' b := by
  obtain ⟨_, _, e, ⟨t0, t1⟩, ⟨s0, s1⟩, b0, b1⟩ := num_facts h
  obtain ⟨_, _, e', ⟨t0', t1'⟩, ⟨s0', s1'⟩, _, _⟩ := num_facts h'
  rw [e, e']
  rcases hl with hl | ⟨rfl, hl⟩
  · have : (t + 1) * b ≤ t' * b := Int.mul_le_mul_of_nonneg_right (by omega) (by omega)
    rw [Int.add_mul, Int.one_mul] at this
    omega
  · omega

/-- two stamps in boxes of one's own, side by side -/
def Two (w : World) (n : Nat) (x y x' y' : Value) : Prop :=
  w.cell? ⟨n, 0, none⟩ = some x ∧ w.cell? ⟨n, 1, none⟩ = some y ∧ w.cell? ⟨n + 1, 0, none⟩ = some x' ∧ w.cell? ⟨n + 1, 1, none⟩ = some y' ∧ n + 1 < w.heap.size
theorem Two.below {w w' : World} {n : Nat} {x y x' y' : Value} (h : Two w n x y x' y') (hb : Below w.heap.size w w') : Two w' n x y x' y' := by
  obtain ⟨h0, h1, h2, h3, h4⟩ := h
  exact ⟨(hb.cell (p := ⟨n, 0, none⟩) (by simp; omega)).trans h0, (hb.cell (p := ⟨n, 1, none⟩) (by simp; omega)).trans h1, (hb.cell (p := ⟨n + 1, 0, none⟩) (by simp; omega)).trans h2, (hb.cell (p := ⟨n + 1, 1, none⟩) (by simp; omega)).trans h3, by have := hb.size; omega⟩
theorem two_new (w : World) (x y x' y' : Value) (T T' : TypeId) : Two ((w.alloc (.cells #[x, y] T)).alloc (.cells #[x', y'] T')) w.heap.size x y x' y' := by
  have hb := (Below.refl (w.alloc (.cells #[x, y] T)).heap.size (w.alloc (.cells #[x, y] T))).alloc (Nat.le_refl _) (.cells #[x', y'] T')
  have e : (w.alloc (.cells #[x, y] T)).heap.size = w.heap.size + 1 := by simp
  have k0 := new_at (w.alloc (.cells #[x, y] T)) #[x', y'] T' 0 (by simp)
  have k1 := new_at (w.alloc (.cells #[x, y] T)) #[x', y'] T' 1 (by simp)
  rw [e] at k0 k1
  exact ⟨(hb.cell (p := ⟨w.heap.size, 0, none⟩) (by simp)).trans (new_at w #[x, y] T 0 (by simp)), (hb.cell (p := ⟨w.heap.size, 1, none⟩) (by simp)).trans (new_at w #[x, y] T 1 (by simp)), k0, k1, by simp⟩

end Go.Proofs.Ytlcljchpljeonaa
