/- Stamps: which stands first; stamps as numbers; the statements' example. -/
import Derived.Test.YtcfmbppnghlkaaaOLeaf
import Derived.Lib.QuietBelow
namespace Go.Proofs.Ytcfmbppnghlkaaa
open Go.RowKit
set_option maxRecDepth 100000

abbrev stV (t s : Int) : Value := .agg #[.int .i64 t, .int .i64 s]
theorem heapNew (w : World) (o : Obj) : (w.alloc o).heap[w.heap.size]? = some o := by
  show (w.heap.push o)[w.heap.size]? = _
  simp
theorem new_at (w : World) (zs : Array Value) (T : TypeId) (i : Nat) (hi : i < zs.size) : (w.alloc (.cells zs T)).cell? ⟨w.heap.size, i, none⟩ = some zs[i] := by
  have hb : (w.alloc (.cells zs T)).heap[w.heap.size]? = some (.cells zs T (0, 0)) := heapNew w _
  rw [cell_of_row _ _ i _ T (0, 0) hb]
  simp [hi]
theorem new_fz {w w' : World} {zs : Array Value} {T : TypeId} (hb : Below (w.alloc (.cells zs T)).heap.size (w.alloc (.cells zs T)) w') (i : Nat) : w'.frozen? ⟨w.heap.size, i, none⟩ = false := by
  have h : (w.alloc (.cells zs T)).heap[w.heap.size]? = some (.cells zs T (0, 0)) := heapNew w _
  exact frozen_of_row _ _ i _ _ ((hb.block _ (by simp)).trans h)
theorem box2 {w w' : World} {x y : Value} {T : TypeId} (hb : Below (w.alloc (.cells #[x, y] T)).heap.size (w.alloc (.cells #[x, y] T)) w') : w'.cell? ⟨w.heap.size, 0, none⟩ = some x ∧ w'.cell? ⟨w.heap.size, 1, none⟩ = some y ∧ (∀ i, w'.frozen? ⟨w.heap.size, i, none⟩ = false) ∧ w.heap.size < w'.heap.size :=
  ⟨(hb.cell (p := ⟨w.heap.size, 0, none⟩) (by simp)).trans (new_at w #[x, y] T 0 (by simp)), (hb.cell (p := ⟨w.heap.size, 1, none⟩) (by simp)).trans (new_at w #[x, y] T 1 (by simp)), new_fz hb, by have := hb.size; simp at this; omega⟩

/-- which of two stamps stands first -/
def cmpI (t s t' s' : Int) : Int := if t = t' ∧ s = s' then 0 else if t < t' ∨ (t = t' ∧ s < s') then -1 else 1
theorem cmpI_eq (t s : Int) : cmpI t s t s = 0 := by simp [cmpI]
theorem cmpI_lt {t s t' s' : Int} (h : t < t' ∨ (t = t' ∧ s < s')) : cmpI t s t' s' = -1 := by
  unfold cmpI; rw [if_neg (by omega), if_pos h]
theorem cmpI_gt {t s t' s' : Int} (h : t' < t ∨ (t = t' ∧ s' < s)) : cmpI t s t' s' = 1 := by
  unfold cmpI; rw [if_neg (by omega), if_neg (by omega)]

set_option maxHeartbeats 1000000 in
theorem pcmp_grow (t s t' s' : Int) (w : World) :
    Calls Try.prog 52 #[stV t s, stV t' s'] w fun e w' => e = .returned (.int .i64 (cmpI t s t' s')) ∧ w' = (w.alloc (.cells #[.int .i64 t, .int .i64 s] 90)).alloc (.cells #[.int .i64 t', .int .i64 s'] 90) := by
  rcases Int.lt_trichotomy t t' with h | rfl | h
  · rw [cmpI_lt (Or.inl h)]
    have hn : ¬ t = t' := by omega
    go_enter Try.func52, Try.ntmps52
    go_wp2
    go_ret
    exact ⟨rfl, rfl⟩
  · rcases Int.lt_trichotomy s s' with h | rfl | h
    · rw [cmpI_lt (Or.inr ⟨rfl, h⟩)]
      have hn : ¬ s = s' := by omega
      go_enter Try.func52, Try.ntmps52
      go_wp2
      go_ret
      exact ⟨rfl, rfl⟩
    · rw [cmpI_eq]
      go_enter Try.func52, Try.ntmps52
      go_wp2
      go_ret
      exact ⟨rfl, rfl⟩
    · rw [cmpI_gt (Or.inr ⟨rfl, h⟩)]
      have hn : ¬ s = s' := by omega
      go_enter Try.func52, Try.ntmps52
      go_wp2
      go_ret
      exact ⟨rfl, rfl⟩
  · rw [cmpI_gt (Or.inl h)]
    have hn : ¬ t = t' := by omega
    go_enter Try.func52, Try.ntmps52
    go_wp2
    go_ret
    exact ⟨rfl, rfl⟩
theorem pcmp_any (t s t' s' : Int) (w : World) :
    Calls Try.prog 52 #[stV t s, stV t' s'] w fun e w' => e = .returned (.int .i64 (cmpI t s t' s')) ∧ Below w.heap.size w w' := by
  refine (pcmp_grow t s t' s' w).mono ?_
  rintro e w' ⟨rfl, rfl⟩
  exact ⟨rfl, ((Below.refl _ w).alloc (Nat.le_refl _) _).alloc (by simp) _⟩
set_option maxHeartbeats 1000000 in
theorem cmp_any (t s t' s' : Int) (w : World) :
    Calls Try.prog 44 #[stV t s, stV t' s'] w fun e w' => e = .returned (.int .i64 (cmpI t s t' s')) ∧ Below w.heap.size w w' := by
  have h := fun w => pcmp_any t s t' s' w
  generalize cmpI t s t' s' = r at *
  go_enter Try.func44, Try.ntmps44
  go_wp2_with fail
  refine (h _).mono ?_
  rintro e w1 ⟨rfl, h1⟩
  have hb : Below w.heap.size w w1 := Below.onto (((Below.refl _ w).alloc (Nat.le_refl _) _).alloc (by simp) _) h1
  clear h1
  go_wp2_with fail
  go_ret
  exact ⟨rfl, hb⟩
set_option maxHeartbeats 1000000 in
theorem rcmp_any (t s t' s' : Int) (w : World) :
    Calls Try.prog 26 #[stV t s, stV t' s'] w fun e w' => e = .returned (.int .i64 (cmpI t s t' s')) ∧ Below w.heap.size w w' := by
  have hB : ∀ T, Hid (Below w.heap.size w ((w.alloc (.cells #[.int .i64 t, .int .i64 s] T)).alloc (.cells #[.int .i64 t', .int .i64 s'] T))) := fun T => ((Below.refl _ w).alloc (Nat.le_refl _) _).alloc (by simp) _
  rcases Int.lt_trichotomy t t' with h | rfl | h
  · rw [cmpI_lt (Or.inl h)]
    have hn : ¬ t = t' := by omega
    go_enter Try.func26, Try.ntmps26
    go_wp2
    go_ret
    exact ⟨rfl, (hB _).out⟩
  · rcases Int.lt_trichotomy s s' with h | rfl | h
    · rw [cmpI_lt (Or.inr ⟨rfl, h⟩)]
      have hn : ¬ s = s' := by omega
      go_enter Try.func26, Try.ntmps26
      go_wp2
      go_ret
      exact ⟨rfl, (hB _).out⟩
    · rw [cmpI_eq]
      go_enter Try.func26, Try.ntmps26
      go_wp2
      go_ret
      exact ⟨rfl, (hB _).out⟩
    · rw [cmpI_gt (Or.inr ⟨rfl, h⟩)]
      have hn : ¬ s = s' := by omega
      go_enter Try.func26, Try.ntmps26
      go_wp2
      go_ret
      exact ⟨rfl, (hB _).out⟩
  · rw [cmpI_gt (Or.inl h)]
    have hn : ¬ t = t' := by omega
    go_enter Try.func26, Try.ntmps26
    go_wp2
    go_ret
    exact ⟨rfl, (hB _).out⟩

/-- may a tick have so many steps? -/
def budB (b : Int) : Bool := decide (1 ≤ b) && decide (b ≤ 16)
/-- may a stamp be? -/
def numB (t s b : Int) : Bool := budB b && (decide (0 ≤ t) && (decide (t ≤ 1048576) && (decide (0 ≤ s) && decide (s < b))))
def numI (t s b : Int) : Int := if numB t s b then t * b + s else 0
def errNu (t s b : Int) : Int := if numB t s b then 0 else 70
theorem mul_le16 {t b : Int} (h0 : 0 ≤ t) (h1 : t ≤ 1048576) (b0 : 1 ≤ b) (b1 : b ≤ 16) : 0 ≤ t * b ∧ t * b ≤ 16777216 := by
  refine ⟨Int.mul_nonneg h0 (by omega), ?_⟩
  have := Int.mul_le_mul h1 b1 (by omega) (by omega)
  omega

/-- is there a stamp of that number? -/
def stB (n b : Int) : Bool := budB b && decide (n / b ≤ 1048576)
def tickI (n b : Int) : Int := if stB n b then n / b else 0
def stepI (n b : Int) : Int := if stB n b then n % b else 0
def errSt (n b : Int) : Int := if stB n b then 0 else 70
theorem ret_st {a b c a' b' c' : Int} (h : a = a') (h' : b = b') (h'' : c = c') : Ending.returned (.tuple #[stV a b, .int .i64 c]) = .returned (.tuple #[stV a' b', .int .i64 c']) := by rw [h, h', h'']
end Go.Proofs.Ytcfmbppnghlkaaa
