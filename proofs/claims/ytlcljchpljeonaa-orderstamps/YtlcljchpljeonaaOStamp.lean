/- Stamps: which stands first; stamps as numbers; the statements' example. -/
import Derived.Test.YtlcljchpljeonaaOLeaf
import Derived.Lib.QuietBelow
namespace Go.Proofs.Ytlcljchpljeonaa
open Go.RowKit
set_option maxRecDepth 100000

abbrev stV (t s : Int) : Value := .agg #[.int .i64 t, .int .i64 s]
theorem heapNew (w : World) (o : Obj) : (w.alloc o).heap[w.heap.size]? = some o := by
  show (w.heap.push o)[w.heap.size]? = _
  simp
theorem new_at (w : World) (zs : Array Value) (T : TypeId) (i : Nat) (hi : i < zs.size) : (w.alloc (.cells zs T)).cell? ⟨w.heap.size, i, none⟩ = some zs[i] := by
  have hb : (w.alloc (.cells zs T)).heap[w.heap.size]? = some (.cells zs T (0, 0)) := heapNew w _
  rw [cell_of_row _ _ i _ T (0, 0) hb]
  simp [hi]
theorem new_fz {w w' : World} {zs : Array Value} {T : TypeId} (hb : Below (w.alloc (.cells zs T)).heap.size (w.alloc (.cells zs T)) w') (i : Nat) : w'.frozen? ⟨w.heap.size, i, none⟩ = false := by
  have h : (w.alloc (.cells zs T)).heap[w.heap.size]? = some (.cells zs T (0, 0)) := heapNew w _
  exact frozen_of_row _ _ i _ _ ((hb.block _ (by simp)).trans h)
theorem box2 {w w' : World} {x y : Value} {T : TypeId} (hb : Below (w.alloc (.cells #[x, y] T)).heap.size (w.alloc (.cells #[x, y] T)) w') : w'.cell? ⟨w.heap.size, 0, none⟩ = some x ∧ w'.cell? ⟨w.heap.size, 1, none⟩ = some y ∧ (∀ i, w'.frozen? ⟨w.heap.size, i, none⟩ = false) ∧ w.heap.size < w'.heap.size :=
  ⟨(hb.cell (p := ⟨w.heap.size, 0, none⟩) (by simp)).trans (new_at w #[x, y] T 0 (by simp)), (hb.cell (p := ⟨w.heap.size, 1, none⟩) (by simp)).trans (new_at w #[x, y] T 1 (by simp)), new_fz hb, by have := hb.size; simp at this; omega⟩

/-- which of two stamps stands first -/
def cmpI (t s t' s' : Int) : Int := if t = t' ∧ s = s' then 0 else if t < t' ∨ (t = t' ∧ s < s') then -1 else 1
theorem cmpI_eq (t s : Int) : cmpI t s t s = 0 := by simp [cmpI]
theorem cmpI_lt {t s t' s' : Int} (h : t < t' ∨ (t = t' ∧ s < s')) : cmpI t s t' s' = -1 := by
  unfold cmpI; rw [if_neg (by omega), if_pos h]
theorem cmpI_gt {t s t' s' : Int} (h : t' < t ∨ (t = t' ∧ s' < s)) : cmpI t s t' s' = 1 := by
  unfold cmpI; rw [if_neg (by omega), if_neg (by omega)]

set_option maxHeartbeats 1000000 in
theorem pcmp_grow (t s t' s' : Int) (w : World) :
    Calls Try.prog 31 #[stV t s, stV t' s'] w fun e w' => e = .returned (.int .i64 (cmpI t s t' s')) ∧ w' = (w.alloc (.cells #[.int .i64 t, .int .i64 s] 58)).alloc (.cells #[.int .i64 t', .int .i64 s'] 58) := by
  rcases Int.lt_trichotomy t t' with h | rfl | h
  · rw [cmpI_lt (Or.inl h)]
    have hn : ¬ t = t' := by omega
    go_enter Try.func31, Try.ntmps31
    go_wp2
    go_ret
    exact ⟨rfl, rfl⟩
  · rcases Int.lt_trichotomy s s' with h | rfl | h
    · rw [cmpI_lt (Or.inr ⟨rfl, h⟩)]
      have hn : ¬ s = s' := by omega
      go_enter Try.func31, Try.ntmps31
      go_wp2
      go_ret
      exact ⟨rfl, rfl⟩
    · rw [cmpI_eq]
      go_enter Try.func31, Try.ntmps31
      go_wp2
      go_ret
      exact ⟨rfl, rfl⟩
    · rw [cmpI_gt (Or.inr ⟨rfl, h⟩)]
      have hn : ¬ s = s' := by omega
      go_enter Try.func31, Try.ntmps31
      go_wp2
      go_ret
      exact ⟨rfl, rfl⟩
  · rw [cmpI_gt (Or.inl h)]
    have hn : ¬ t = t' := by omega
    go_enter Try.func31, Try.ntmps31
    go_wp2
    go_ret
    exact ⟨rfl, rfl⟩
theorem pcmp_any (t s t' s' : Int) (w : World) :
    Calls Try.prog 31 #[stV t s, stV t' s'] w fun e w' => e = .returned (.int .i64 (cmpI t s t' s')) ∧ Below w.heap.size w w' := by
  refine (pcmp_grow t s t' s' w).mono ?_
  rintro e w' ⟨rfl, rfl⟩
  exact ⟨rfl, ((Below.refl _ w).alloc (Nat.le_refl _) _).alloc (by simp) _⟩
set_option maxHeartbeats 1000000 in
theorem cmp_any (t s t' s' : Int) (w : World) :
    Calls Try.prog 20 #[stV t s, stV t' s'] w fun e w' => e = .returned (.int .i64 (cmpI t s t' s')) ∧ Below w.heap.size w w' := by
  have h := fun w => pcmp_any t s t' s' w
  generalize cmpI t s t' s' = r at *
  go_enter Try.func20, Try.ntmps20
  go_wp2_with fail
  refine (h _).mono ?_
  rintro e w1 ⟨rfl, h1⟩
  have hb : Below w.heap.size w w1 := Below.onto (((Below.refl _ w).alloc (Nat.le_refl _) _).alloc (by simp) _) h1
  clear h1
  go_wp2_with fail
  go_ret
  exact ⟨rfl, hb⟩
set_option maxHeartbeats 1000000 in
theorem rcmp_any (t s t' s' : Int) (w : World) :
    Calls Try.prog 21 #[stV t s, stV t' s'] w fun e w' => e = .returned (.int .i64 (cmpI t s t' s')) ∧ Below w.heap.size w w' := by
  have hB : ∀ T, Hid (Below w.heap.size w ((w.alloc (.cells #[.int .i64 t, .int .i64 s] T)).alloc (.cells #[.int .i64 t', .int .i64 s'] T))) := fun T => ((Below.refl _ w).alloc (Nat.le_refl _) _).alloc (by simp) _
  rcases Int.lt_trichotomy t t' with h | rfl | h
  · rw [cmpI_lt (Or.inl h)]
    have hn : ¬ t = t' := by omega
    go_enter Try.func21, Try.ntmps21
    go_wp2
    go_ret
    exact ⟨rfl, (hB _).out⟩
  · rcases Int.lt_trichotomy s s' with h | rfl | h
    · rw [cmpI_lt (Or.inr ⟨rfl, h⟩)]
      have hn : ¬ s = s' := by omega
      go_enter Try.func21, Try.ntmps21
      go_wp2
      go_ret
      exact ⟨rfl, (hB _).out⟩
    · rw [cmpI_eq]
      go_enter Try.func21, Try.ntmps21
      go_wp2
      go_ret
      exact ⟨rfl, (hB _).out⟩
    · rw [cmpI_gt (Or.inr ⟨rfl, h⟩)]
      have hn : ¬ s = s' := by omega
      go_enter Try.func21, Try.ntmps21
      go_wp2
      go_ret
      exact ⟨rfl, (hB _).out⟩
  · rw [cmpI_gt (Or.inl h)]
    have hn : ¬ t = t' := by omega
    go_enter Try.func21, Try.ntmps21
    go_wp2
    go_ret
    exact ⟨rfl, (hB _).out⟩

/-- may a tick have so many steps? -/
def budB (b : Int) : Bool := decide (1 ≤ b) && decide (b ≤ 16)
set_option maxHeartbeats 400000 in
theorem omay_any (b : Int) (w : World) :
    Calls Try.prog 34 #[.int .i64 b] w fun e w' => e = .returned (.bool (budB b)) ∧ w' = w := by
  by_cases h : 1 ≤ b
  · have e : budB b = decide (b ≤ 16) := by simp [budB, h]
    rw [e]
    go_enter Try.func34, Try.ntmps34
    go_wp2_with fail
    go_ret
    exact ⟨rfl, rfl⟩
  · have e : budB b = false := by simp [budB, h]
    rw [e]
    go_enter Try.func34, Try.ntmps34
    go_wp2_with fail
    go_ret
    exact ⟨rfl, rfl⟩
/-- may a stamp be? -/
def numB (t s b : Int) : Bool := budB b && (decide (0 ≤ t) && (decide (t ≤ 1048576) && (decide (0 ≤ s) && decide (s < b))))
def numI (t s b : Int) : Int := if numB t s b then t * b + s else 0
def errNu (t s b : Int) : Int := if numB t s b then 0 else 70
theorem mul_le16 {t b : Int} (h0 : 0 ≤ t) (h1 : t ≤ 1048576) (b0 : 1 ≤ b) (b1 : b ≤ 16) : 0 ≤ t * b ∧ t * b ≤ 16777216 := by
  refine ⟨Int.mul_nonneg h0 (by omega), ?_⟩
  have := Int.mul_le_mul h1 b1 (by omega) (by omega)
  omega

set_option maxHeartbeats 2000000 in
theorem number_any (t s b : Int) (w : World) :
    Calls Try.prog 25 #[stV t s, .int .i64 b] w fun e w' => e = .returned (.tuple #[.int .u64 (numI t s b), .int .i64 (errNu t s b)]) ∧ Below w.heap.size w w' := by
  have hm := fun w => omay_any b w
  have hB : ∀ T, Hid (Below w.heap.size w (w.alloc (.cells #[.int .i64 t, .int .i64 s] T))) := fun T => (Below.refl _ w).alloc (Nat.le_refl _) _
  cases hb : budB b
  · have e : numB t s b = false := by simp [numB, hb]
    unfold numI errNu
    rw [e]
    rw [hb] at hm
    clear e hb
    go_enter Try.func25, Try.ntmps25
    go_wp2_with fail
    refine (hm _).mono ?_
    rintro e w1 ⟨rfl, rfl⟩
    go_wp2_with fail
    go_ret2
    exact ⟨rfl, (hB _).out⟩
  · rw [hb] at hm
    have hb' : 1 ≤ b ∧ b ≤ 16 := by simpa [budB] using hb
    obtain ⟨b0, b1⟩ := hb'
    by_cases ht0 : 0 ≤ t
    · by_cases ht1 : t ≤ 1048576
      · by_cases hs0 : 0 ≤ s
        · by_cases hs1 : s < b
          · have e : numB t s b = true := by simp [numB, hb, ht0, ht1, hs0, hs1]
            unfold numI errNu
            rw [e]
            clear e hb
            obtain ⟨m0, m1⟩ := mul_le16 ht0 ht1 b0 b1
            generalize hq : t * b = q at *
            go_enter Try.func25, Try.ntmps25
            go_wp2_with fail
            refine (hm _).mono ?_
            rintro e w1 ⟨rfl, rfl⟩
            go_wp2_with fail
            go_ret2
            exact ⟨rfl, (hB _).out⟩
          · have e : numB t s b = false := by simp [numB, hs1]
            unfold numI errNu
            rw [e]
            clear e hb
            go_enter Try.func25, Try.ntmps25
            go_wp2_with fail
            refine (hm _).mono ?_
            rintro e w1 ⟨rfl, rfl⟩
            go_wp2_with fail
            go_ret2
            exact ⟨rfl, (hB _).out⟩
        · have e : numB t s b = false := by simp [numB, hs0]
          unfold numI errNu
          rw [e]
          clear e hb
          go_enter Try.func25, Try.ntmps25
          go_wp2_with fail
          refine (hm _).mono ?_
          rintro e w1 ⟨rfl, rfl⟩
          go_wp2_with fail
          go_ret2
          exact ⟨rfl, (hB _).out⟩
      · have e : numB t s b = false := by simp [numB, ht1]
        unfold numI errNu
        rw [e]
        clear e hb
        go_enter Try.func25, Try.ntmps25
        go_wp2_with fail
        refine (hm _).mono ?_
        rintro e w1 ⟨rfl, rfl⟩
        go_wp2_with fail
        go_ret2
        exact ⟨rfl, (hB _).out⟩
    · have e : numB t s b = false := by simp [numB, ht0]
      unfold numI errNu
      rw [e]
      clear e hb
      go_enter Try.func25, Try.ntmps25
      go_wp2_with fail
      refine (hm _).mono ?_
      rintro e w1 ⟨rfl, rfl⟩
      go_wp2_with fail
      go_ret2
      exact ⟨rfl, (hB _).out⟩

set_option maxHeartbeats 2000000 in
theorem rnumber_any (t s b : Int) (w : World) :
    Calls Try.prog 26 #[stV t s, .int .i64 b] w fun e w' => e = .returned (.tuple #[.int .u64 (numI t s b), .int .i64 (errNu t s b)]) ∧ Below w.heap.size w w' := by
  have hB : ∀ T, Hid (Below w.heap.size w (w.alloc (.cells #[.int .i64 t, .int .i64 s] T))) := fun T => (Below.refl _ w).alloc (Nat.le_refl _) _
  by_cases b0 : 1 ≤ b
  · by_cases b1 : b ≤ 16
    · by_cases ht0 : 0 ≤ t
      · by_cases ht1 : t ≤ 1048576
        · by_cases hs0 : 0 ≤ s
          · by_cases hs1 : s < b
            · have e : numB t s b = true := by simp [numB, budB, b0, b1, ht0, ht1, hs0, hs1]
              unfold numI errNu
              rw [e]
              clear e
              obtain ⟨m0, m1⟩ := mul_le16 ht0 ht1 b0 b1
              generalize hq : t * b = q at *
              go_enter Try.func26, Try.ntmps26
              go_wp2_with fail
              go_ret2
              exact ⟨rfl, (hB _).out⟩
            · have e : numB t s b = false := by simp [numB, budB, hs1]
              unfold numI errNu
              rw [e]
              clear e
              go_enter Try.func26, Try.ntmps26
              go_wp2_with fail
              go_ret2
              exact ⟨rfl, (hB _).out⟩
          · have e : numB t s b = false := by simp [numB, budB, hs0]
            unfold numI errNu
            rw [e]
            clear e
            go_enter Try.func26, Try.ntmps26
            go_wp2_with fail
            go_ret2
            exact ⟨rfl, (hB _).out⟩
        · have e : numB t s b = false := by simp [numB, budB, ht1]
          unfold numI errNu
          rw [e]
          clear e
          go_enter Try.func26, Try.ntmps26
          go_wp2_with fail
          go_ret2
          exact ⟨rfl, (hB _).out⟩
      · have e : numB t s b = false := by simp [numB, budB, ht0]
        unfold numI errNu
        rw [e]
        clear e
        go_enter Try.func26, Try.ntmps26
        go_wp2_with fail
        go_ret2
        exact ⟨rfl, (hB _).out⟩
    · have e : numB t s b = false := by simp [numB, budB, b1]
      unfold numI errNu
      rw [e]
      clear e
      go_enter Try.func26, Try.ntmps26
      go_wp2_with fail
      go_ret2
      exact ⟨rfl, (hB _).out⟩
  · have e : numB t s b = false := by simp [numB, budB, b0]
    unfold numI errNu
    rw [e]
    clear e
    go_enter Try.func26, Try.ntmps26
    go_wp2_with fail
    go_ret2
    exact ⟨rfl, (hB _).out⟩

/-- is there a stamp of that number? -/
def stB (n b : Int) : Bool := budB b && decide (n / b ≤ 1048576)
def tickI (n b : Int) : Int := if stB n b then n / b else 0
def stepI (n b : Int) : Int := if stB n b then n % b else 0
def errSt (n b : Int) : Int := if stB n b then 0 else 70
theorem ret_st {a b c a' b' c' : Int} (h : a = a') (h' : b = b') (h'' : c = c') : Ending.returned (.tuple #[stV a b, .int .i64 c]) = .returned (.tuple #[stV a' b', .int .i64 c']) := by rw [h, h', h'']
set_option maxHeartbeats 2000000 in
theorem stamp_bud (n b : Int) (w : World) (hb : budB b = false) :
    Calls Try.prog 27 #[.int .u64 n, .int .i64 b] w fun e w' => e = .returned (.tuple #[stV 0 0, .int .i64 70]) ∧ Below w.heap.size w w' := by
  have hm := fun w => omay_any b w
  rw [hb] at hm
  clear hb
  go_enter Try.func27, Try.ntmps27
  go_wp2_with fail
  refine (hm _).mono ?_
  rintro e w1 ⟨rfl, rfl⟩
  go_wp2_with fail
  refine bodyPost_ret (v := .tuple #[stV 0 0, .int .i64 70]) (by simp [results, Try.results27, go_sem]) rfl ⟨rfl, ?_⟩
  repeat' with_reducible first | exact Below.refl _ _ | refine Below.setCell ?_ ?_ _ | refine Below.alloc ?_ ?_ _ | refine Below.drew ?_
  all_goals (simp; try omega)
set_option maxHeartbeats 2000000 in
theorem stamp_far (n b : Int) (w : World) (hn : 0 ≤ n) (hn1 : n < 18446744073709551616) (b0 : 1 ≤ b) (b1 : b ≤ 16) (hf : ¬ n / b ≤ 1048576) :
    Calls Try.prog 27 #[.int .u64 n, .int .i64 b] w fun e w' => e = .returned (.tuple #[stV 0 0, .int .i64 70]) ∧ Below w.heap.size w w' := by
  have hm := fun w => omay_any b w
  rw [show budB b = true by simp [budB, b0, b1]] at hm
  have hq : Int.tdiv n b = n / b := Int.tdiv_eq_ediv_of_nonneg hn
  have hr : Int.tmod n b = n % b := Int.tmod_eq_emod_of_nonneg hn
  have hq0 : 0 ≤ n / b := Int.ediv_nonneg hn (by omega)
  have hr0 : 0 ≤ n % b := Int.emod_nonneg _ (by omega)
  have hr1 : n % b < b := Int.emod_lt_of_pos _ (by omega)
  have hq1 : n / b < 18446744073709551616 := Int.lt_of_le_of_lt (Int.ediv_le_self _ hn) hn1
  clear hr
  generalize n / b = q at *
  generalize n % b = r at *
  go_enter Try.func27, Try.ntmps27
  go_wp2_with fail
  refine (hm _).mono ?_
  rintro e w1 ⟨rfl, rfl⟩
  go_wp2_with fail
  refine bodyPost_ret (v := .tuple #[stV 0 0, .int .i64 70]) (by simp [results, Try.results27, go_sem]) rfl ⟨rfl, ?_⟩
  repeat' with_reducible first | exact Below.refl _ _ | refine Below.setCell ?_ ?_ _ | refine Below.alloc ?_ ?_ _ | refine Below.drew ?_
  all_goals (simp; try omega)
set_option maxHeartbeats 2000000 in
theorem stamp_ok (n b : Int) (w : World) (hn : 0 ≤ n) (hn1 : n < 18446744073709551616) (b0 : 1 ≤ b) (b1 : b ≤ 16) (hf : n / b ≤ 1048576) :
    Calls Try.prog 27 #[.int .u64 n, .int .i64 b] w fun e w' => e = .returned (.tuple #[stV (n / b) (n % b), .int .i64 0]) ∧ Below w.heap.size w w' := by
  have hm := fun w => omay_any b w
  rw [show budB b = true by simp [budB, b0, b1]] at hm
  have hq : Int.tdiv n b = n / b := Int.tdiv_eq_ediv_of_nonneg hn
  have hr : Int.tmod n b = n % b := Int.tmod_eq_emod_of_nonneg hn
  have hq0 : 0 ≤ n / b := Int.ediv_nonneg hn (by omega)
  have hr0 : 0 ≤ n % b := Int.emod_nonneg _ (by omega)
  have hr1 : n % b < b := Int.emod_lt_of_pos _ (by omega)
  have hq1 : n / b < 18446744073709551616 := Int.lt_of_le_of_lt (Int.ediv_le_self _ hn) hn1
  generalize n / b = q at *
  generalize n % b = r at *
  go_enter Try.func27, Try.ntmps27
  go_wp2_with fail
  refine (hm _).mono ?_
  rintro e w1 ⟨rfl, rfl⟩
  go_wp2_with fail
  go_region
  go_wp2_with fail
  refine bodyPost_ret (v := .tuple #[stV q r, .int .i64 0]) (by simp [results, Try.results27, go_sem]) rfl ⟨rfl, ?_⟩
  repeat' with_reducible first | exact Below.refl _ _ | refine Below.setCell ?_ ?_ _ | refine Below.alloc ?_ ?_ _ | refine Below.drew ?_
  all_goals (simp; try omega)
theorem stamp_any (n b : Int) (w : World) (hn : 0 ≤ n) (hn1 : n < 18446744073709551616) :
    Calls Try.prog 27 #[.int .u64 n, .int .i64 b] w fun e w' => e = .returned (.tuple #[stV (tickI n b) (stepI n b), .int .i64 (errSt n b)]) ∧ Below w.heap.size w w' := by
  unfold tickI stepI errSt
  by_cases b0 : 1 ≤ b
  · by_cases b1 : b ≤ 16
    · by_cases hf : n / b ≤ 1048576
      · rw [show stB n b = true by simp [stB, budB, b0, b1, hf]]
        exact stamp_ok n b w hn hn1 b0 b1 hf
      · rw [show stB n b = false by simp [stB, hf]]
        exact stamp_far n b w hn hn1 b0 b1 hf
    · rw [show stB n b = false by simp [stB, budB, b1]]
      exact stamp_bud n b w (by simp [budB, b1])
  · rw [show stB n b = false by simp [stB, budB, b0]]
    exact stamp_bud n b w (by simp [budB, b0])
set_option maxHeartbeats 2000000 in
theorem rstamp_bud0 (n b : Int) (w : World) (hb : ¬ 1 ≤ b) :
    Calls Try.prog 28 #[.int .u64 n, .int .i64 b] w fun e w' => e = .returned (.tuple #[stV 0 0, .int .i64 70]) ∧ Below w.heap.size w w' := by
  go_enter Try.func28, Try.ntmps28
  go_wp2_with fail
  refine bodyPost_ret (v := .tuple #[stV 0 0, .int .i64 70]) (by simp [results, Try.results28, go_sem]) rfl ⟨rfl, ?_⟩
  repeat' with_reducible first | exact Below.refl _ _ | refine Below.setCell ?_ ?_ _ | refine Below.alloc ?_ ?_ _ | refine Below.drew ?_
  all_goals (simp; try omega)
set_option maxHeartbeats 2000000 in
theorem rstamp_bud1 (n b : Int) (w : World) (hb : 1 ≤ b) (hb1 : ¬ b ≤ 16) :
    Calls Try.prog 28 #[.int .u64 n, .int .i64 b] w fun e w' => e = .returned (.tuple #[stV 0 0, .int .i64 70]) ∧ Below w.heap.size w w' := by
  go_enter Try.func28, Try.ntmps28
  go_wp2_with fail
  refine bodyPost_ret (v := .tuple #[stV 0 0, .int .i64 70]) (by simp [results, Try.results28, go_sem]) rfl ⟨rfl, ?_⟩
  repeat' with_reducible first | exact Below.refl _ _ | refine Below.setCell ?_ ?_ _ | refine Below.alloc ?_ ?_ _ | refine Below.drew ?_
  all_goals (simp; try omega)
set_option maxHeartbeats 2000000 in
theorem rstamp_far (n b : Int) (w : World) (hn : 0 ≤ n) (hn1 : n < 18446744073709551616) (b0 : 1 ≤ b) (b1 : b ≤ 16) (hf : ¬ n / b ≤ 1048576) :
    Calls Try.prog 28 #[.int .u64 n, .int .i64 b] w fun e w' => e = .returned (.tuple #[stV 0 0, .int .i64 70]) ∧ Below w.heap.size w w' := by
  have hq : Int.tdiv n b = n / b := Int.tdiv_eq_ediv_of_nonneg hn
  have hr : Int.tmod n b = n % b := Int.tmod_eq_emod_of_nonneg hn
  have hq0 : 0 ≤ n / b := Int.ediv_nonneg hn (by omega)
  have hr0 : 0 ≤ n % b := Int.emod_nonneg _ (by omega)
  have hr1 : n % b < b := Int.emod_lt_of_pos _ (by omega)
  have hq1 : n / b < 18446744073709551616 := Int.lt_of_le_of_lt (Int.ediv_le_self _ hn) hn1
  clear hr
  generalize n / b = q at *
  generalize n % b = r at *
  go_enter Try.func28, Try.ntmps28
  go_wp2_with fail
  refine bodyPost_ret (v := .tuple #[stV 0 0, .int .i64 70]) (by simp [results, Try.results28, go_sem]) rfl ⟨rfl, ?_⟩
  repeat' with_reducible first | exact Below.refl _ _ | refine Below.setCell ?_ ?_ _ | refine Below.alloc ?_ ?_ _ | refine Below.drew ?_
  all_goals (simp; try omega)
set_option maxHeartbeats 2000000 in
theorem rstamp_ok (n b : Int) (w : World) (hn : 0 ≤ n) (hn1 : n < 18446744073709551616) (b0 : 1 ≤ b) (b1 : b ≤ 16) (hf : n / b ≤ 1048576) :
    Calls Try.prog 28 #[.int .u64 n, .int .i64 b] w fun e w' => e = .returned (.tuple #[stV (n / b) (n % b), .int .i64 0]) ∧ Below w.heap.size w w' := by
  have hq : Int.tdiv n b = n / b := Int.tdiv_eq_ediv_of_nonneg hn
  have hr : Int.tmod n b = n % b := Int.tmod_eq_emod_of_nonneg hn
  have hq0 : 0 ≤ n / b := Int.ediv_nonneg hn (by omega)
  have hr0 : 0 ≤ n % b := Int.emod_nonneg _ (by omega)
  have hr1 : n % b < b := Int.emod_lt_of_pos _ (by omega)
  have hq1 : n / b < 18446744073709551616 := Int.lt_of_le_of_lt (Int.ediv_le_self _ hn) hn1
  generalize n / b = q at *
  generalize n % b = r at *
  go_enter Try.func28, Try.ntmps28
  go_wp2_with fail
  go_region
  go_wp2_with fail
  refine bodyPost_ret (v := .tuple #[stV q r, .int .i64 0]) (by simp [results, Try.results28, go_sem]) rfl ⟨rfl, ?_⟩
  repeat' with_reducible first | exact Below.refl _ _ | refine Below.setCell ?_ ?_ _ | refine Below.alloc ?_ ?_ _ | refine Below.drew ?_
  all_goals (simp; try omega)
theorem rstamp_any (n b : Int) (w : World) (hn : 0 ≤ n) (hn1 : n < 18446744073709551616) :
    Calls Try.prog 28 #[.int .u64 n, .int .i64 b] w fun e w' => e = .returned (.tuple #[stV (tickI n b) (stepI n b), .int .i64 (errSt n b)]) ∧ Below w.heap.size w w' := by
  unfold tickI stepI errSt
  by_cases b0 : 1 ≤ b
  · by_cases b1 : b ≤ 16
    · by_cases hf : n / b ≤ 1048576
      · rw [show stB n b = true by simp [stB, budB, b0, b1, hf]]
        exact rstamp_ok n b w hn hn1 b0 b1 hf
      · rw [show stB n b = false by simp [stB, hf]]
        exact rstamp_far n b w hn hn1 b0 b1 hf
    · rw [show stB n b = false by simp [stB, budB, b1]]
      exact rstamp_bud1 n b w b0 b1
  · rw [show stB n b = false by simp [stB, budB, b0]]
    exact rstamp_bud0 n b w b0

set_option maxHeartbeats 2000000 in
theorem oalive_any (w : World) :
    Calls Try.prog 15 #[] w fun e w' => e = .returned (.bool true) ∧ Below w.heap.size w w' := by
  have h1 := fun w => osize_any 5 w
  rw [show sizeN 5 = 8 by decide, show errN 5 = 0 by decide] at h1
  have h2 := fun w => number_any 3 1 5 w
  rw [show numI 3 1 5 = 16 by decide, show errNu 3 1 5 = 0 by decide] at h2
  have h3 := fun w => ahead_any 18446744073709551615 1 w
  rw [show distI 18446744073709551615 1 = 2 by decide] at h3
  go_enter Try.func15, Try.ntmps15
  go_wp2_with fail
  refine (h1 _).mono ?_
  rintro e w1 ⟨rfl, rfl⟩
  go_wp2_with fail
  refine (h2 _).mono ?_
  rintro e w2 ⟨rfl, hb⟩
  go_wp2_with fail
  refine (h3 _).mono ?_
  rintro e w3 ⟨rfl, rfl⟩
  go_wp2_with fail
  go_ret
  exact ⟨rfl, hb⟩

end Go.Proofs.Ytlcljchpljeonaa
