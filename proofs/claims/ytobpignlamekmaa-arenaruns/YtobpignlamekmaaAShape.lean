/- The shape that an arena's quotas make. -/
import Derived.Test.YtobpignlamekmaaAMem
namespace Go.Proofs.Ytobpignlamekmaa
open Go.RowKit

def fsum (s : Nat → Nat) : Nat → Nat
  | 0 => 0
  | k + 1 => fsum s k + s k
theorem fsum_mono {s : Nat → Nat} {i j : Nat} (h : i ≤ j) : fsum s i ≤ fsum s j := by
  induction j with
  | zero => obtain rfl : i = 0 := by omega
            exact Nat.le_refl _
  | succ j ih =>
    by_cases e : i = j + 1
    · subst e; exact Nat.le_refl _
    · have := ih (by omega)
      show fsum s i ≤ fsum s j + s j
      omega
theorem fsum_le {s : Nat → Nat} {n : Nat} (h : ∀ k, k < n → s k ≤ 256) : ∀ k, k ≤ n → fsum s k ≤ k * 256 := by
  intro k
  induction k with
  | zero => intro _; exact Nat.le_refl _
  | succ k ih =>
    intro hk
    have h1 := ih (by omega)
    have h2 := h k (by omega)
    show fsum s k + s k ≤ _
    omega
/-- the last of the first so many partitions that begins no later -/
def ptOf (s : Nat → Nat) (m : Nat) : Nat → Nat
  | 0 => 0
  | k + 1 => if fsum s k ≤ m then k else ptOf s m k
theorem ptOf_spec {s : Nat → Nat} {m : Nat} : ∀ k, m < fsum s k → ptOf s m k < k ∧ fsum s (ptOf s m k) ≤ m ∧ m < fsum s (ptOf s m k + 1) := by
  intro k
  induction k with
  | zero => intro h; exact absurd h (by simp [fsum])
  | succ k ih =>
    intro h
    unfold ptOf
    by_cases e : fsum s k ≤ m
    · rw [if_pos e]; exact ⟨by omega, e, h⟩
    · rw [if_neg e]
      have := ih (by omega)
      exact ⟨by omega, this.2⟩
theorem pt_unique {s : Nat → Nat} {m i j : Nat} (h1 : fsum s i ≤ m) (h2 : m < fsum s (i + 1)) (h3 : fsum s j ≤ m) (h4 : m < fsum s (j + 1)) : i = j := by
  by_cases e : i < j
  · have := fsum_mono (s := s) (i := i + 1) (j := j) (by omega)
    omega
  · by_cases e2 : j < i
    · have := fsum_mono (s := s) (i := j + 1) (j := i) (by omega)
      omega
    · omega
theorem ptOf_in {s : Nat → Nat} {k i n : Nat} (hk : k < n) (hi : i < s k) : fsum s k + i < fsum s n ∧ ptOf s (fsum s k + i) n = k := by
  have h1 := fsum_mono (s := s) (i := k + 1) (j := n) (by omega)
  have h2 : fsum s (k + 1) = fsum s k + s k := rfl
  have h3 := ptOf_spec (s := s) (m := fsum s k + i) n (by omega)
  exact ⟨by omega, pt_unique h3.2.1 h3.2.2 (by omega) (by omega)⟩

/-- the shape of quotas z 0, z 1, .. -/
def shOf (z : Nat → Int) (n : Nat) : Sh := ⟨n, fsum (fun j => (z j).toNat) n, fun j => (z j).toNat, fsum (fun j => (z j).toNat), fun m => ptOf (fun j => (z j).toNat) m n⟩
theorem shOf_ok {z : Nat → Int} {n : Nat} (hn : n ≤ 16) (hz : ∀ j, j < n → 0 ≤ z j ∧ z j ≤ 256) : (shOf z n).Ok := by
  have h1 : ∀ k, k < n → (z k).toNat ≤ 256 := fun k hk => by have := hz k hk; omega
  have h2 := fsum_le (s := fun j => (z j).toNat) h1
  refine ⟨hn, h1, ?_, ?_, ?_, ?_, fun k hk => fsum_mono (s := fun j => (z j).toNat) (i := k + 1) (j := n) hk⟩
  · intro m hm
    have := ptOf_spec (s := fun j => (z j).toNat) n hm
    exact ⟨this.1, this.2.1, this.2.2⟩
  · intro k i hk hi
    exact ptOf_in hk hi
  · have := h2 n (Nat.le_refl _)
    show fsum _ n ≤ 4096
    omega
  · intro k hk
    have hk' : k < n := hk
    have := h2 k (by omega)
    show fsum _ k ≤ 4096
    omega

/-- the free slots when the first m are in their lists -/
def Rm (h : Sh) (m : Nat) (k : Nat) : List Nat := (List.range m).filter fun x => decide (h.pt x = k)
theorem Rm_zero (h : Sh) : Rm h 0 = fun _ => [] := rfl
theorem Rm_succ (h : Sh) (m : Nat) : Rm h (m + 1) = upd (Rm h m) (h.pt m) (Rm h m (h.pt m) ++ [m]) := by
  funext k
  unfold Rm upd
  rw [List.range_succ, List.filter_append]
  by_cases e : k = h.pt m
  · subst e; simp
  · rw [if_neg e]
    have : ¬ h.pt m = k := fun e' => e e'.symm
    simp [this]
theorem Rm_mem {h : Sh} {m k x : Nat} : x ∈ Rm h m k ↔ x < m ∧ h.pt x = k := by
  unfold Rm; simp
/-- a fresh arena -/
def daN (h : Sh) (m : Nat) : Da := ⟨fun _ => 0, fun _ => 0, Rm h m⟩
theorem daN_ok (h : Sh) (m : Nat) : (daN h m).Ok h :=
  ⟨fun _ _ _ hx => (Rm_mem.1 hx).2, fun _ _ _ _ => rfl, fun _ => by show (0 : Int) ≤ 0 ∧ (0 : Int) < _; omega, fun _ => by show (0 : Int) ≤ 0 ∧ (0 : Int) < _; omega⟩

/-- may an arena have these partitions? -/
def mayQ (n : Nat) (z : Nat → Int) : Bool := decide (1 ≤ n) && decide (n ≤ 16) && (List.range n).all fun j => inR 257 (z j)
theorem mayQ_iff {n : Nat} {z : Nat → Int} : mayQ n z = true ↔ 1 ≤ n ∧ n ≤ 16 ∧ ∀ j, j < n → 0 ≤ z j ∧ z j ≤ 256 := by
  simp only [mayQ, Bool.and_eq_true, decide_eq_true_eq, List.all_eq_true, List.mem_range, inR_iff]
  constructor
  · rintro ⟨⟨h1, h2⟩, h3⟩
    exact ⟨h1, h2, fun j hj => by have := h3 j hj; omega⟩
  · rintro ⟨h1, h2, h3⟩
    exact ⟨⟨h1, h2⟩, fun j hj => by have := h3 j hj; omega⟩
end Go.Proofs.Ytobpignlamekmaa
