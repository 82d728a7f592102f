/- bits.Closure and bits.Reach, as they are worked out. -/
import Derived.Test.YtcfpfddbbhphgabGrid
namespace Go.Proofs.Ytcfpfddbbhphgab
open Go.RowKit Go.Shelf

def orI (a b : Int) : Int := ((a.toNat ||| b.toNat : Nat) : Int)
theorem orI_nonneg (a b : Int) : 0 ≤ orI a b := by unfold orI; omega
theorem orI_lt {a b : Int} (ha : a < 18446744073709551616) (hb : b < 18446744073709551616) : orI a b < 18446744073709551616 := by
  have := Nat.or_lt_two_pow (lt_pow ha) (lt_pow hb)
  unfold orI; omega
theorem tb_orI (a b : Int) (j : Nat) : tb (orI a b) j = (tb a j || tb b j) := by unfold tb orI; rw [Int.toNat_natCast, Nat.testBit_or]
theorem or_eq {a b : Int} (ha0 : 0 ≤ a) (ha : a < 18446744073709551616) (hb0 : 0 ≤ b) (hb : b < 18446744073709551616) : bits .or .u64 a b = orI a b := u64_or _ _ ha0 ha hb0 hb

/-- rows with themselves: the first k rows -/
def cloInit (z : Nat → Int) (k : Nat) : Nat → Int := fun j => if j < k then setI (z j) j else 0
def cloStep (g : Nat → Int) (k i : Nat) : Nat → Int := if tb (g i) k then upd g i (orI (g i) (g k)) else g
def cloRow (g : Nat → Int) (k : Nat) : Nat → (Nat → Int)
  | 0 => g
  | i + 1 => cloStep (cloRow g k i) k i
def cloTo (n : Nat) (z : Nat → Int) : Nat → (Nat → Int)
  | 0 => cloInit z n
  | k + 1 => cloRow (cloTo n z k) k n
def clo (n : Nat) (z : Nat → Int) : Nat → Int := cloTo n z n

def Bd (g : Nat → Int) : Prop := ∀ j, 0 ≤ g j ∧ g j < 18446744073709551616
theorem Bd.upd {g : Nat → Int} (h : Bd g) (k : Nat) {v : Int} (h0 : 0 ≤ v) (h1 : v < 18446744073709551616) : Bd (upd g k v) := fun j => by
  unfold Ytcfpfddbbhphgab.upd; by_cases e : j = k
  · rw [if_pos e]; exact ⟨h0, h1⟩
  · rw [if_neg e]; exact h j
theorem cloStep_bd {g : Nat → Int} (h : Bd g) (k i : Nat) : Bd (cloStep g k i) := by
  unfold cloStep
  cases tb (g i) k
  · exact h
  · exact h.upd i (orI_nonneg _ _) (orI_lt (h i).2 (h k).2)
theorem cloRow_bd {g : Nat → Int} (h : Bd g) (k i : Nat) : Bd (cloRow g k i) := by
  induction i with
  | zero => exact h
  | succ i ih => exact cloStep_bd ih k i
theorem cloInit_bd {n : Nat} (hn : n ≤ 64) {z : Nat → Int} (hz : ∀ j, j < n → 0 ≤ z j ∧ z j < 18446744073709551616) {k : Nat} (hk : k ≤ n) : Bd (cloInit z k) := fun j => by
  unfold cloInit
  by_cases e : j < k
  · rw [if_pos e]; exact ⟨setI_nonneg _ _, setI_lt (hz j (by omega)).2 (by omega)⟩
  · rw [if_neg e]; exact ⟨by omega, by omega⟩
theorem cloTo_bd {n : Nat} (hn : n ≤ 64) {z : Nat → Int} (hz : ∀ j, j < n → 0 ≤ z j ∧ z j < 18446744073709551616) (k : Nat) : Bd (cloTo n z k) := by
  induction k with
  | zero => exact cloInit_bd hn hz (Nat.le_refl _)
  | succ k ih => exact cloRow_bd ih k n

theorem chk_ok {n : Nat} {z : Nat → Int} (h : chkI n z = 0) : n ≤ 64 ∧ chkB n z = true := by
  unfold chkI at h
  by_cases h64 : 64 < n
  · simp [h64] at h
  · cases hb : chkB n z
    · simp [h64, hb] at h
    · exact ⟨by omega, rfl⟩
theorem chk_cases (n : Nat) (z : Nat → Int) : chkI n z = 0 ∨ chkI n z = 3 ∨ chkI n z = 10 := by
  unfold chkI
  by_cases h64 : 64 < n
  · simp [h64]
  · cases hb : chkB n z <;> simp [h64]

theorem cloInit_succ (z : Nat → Int) (k : Nat) : upd (cloInit z k) k (setI (z k) k) = cloInit z (k + 1) := by
  funext j
  unfold upd cloInit
  by_cases e : j = k
  · subst e; simp
  · by_cases h : j < k
    · simp [e, h, show j < k + 1 by omega]
    · simp [e, h, show ¬ j < k + 1 by omega]

theorem own_mono {w : World} {b b' e size : Nat} {v : Value} {n : Nat} {xs : List Value} (h : w.ownsRow b e size v n xs) (hb : b' ≤ b) : w.ownsRow b' e size v n xs := by
  refine ⟨h.1, ?_⟩
  rcases h.2 with h | ⟨g, cap, cur, h1, h2, h3⟩
  · exact .inl h
  · exact .inr ⟨g, cap, cur, h1, Nat.le_trans hb h2, h3⟩
def zeros : Array Value := Array.replicate 64 (Value.int .u64 0)
theorem grid_new (w : World) : GridIs (w.alloc (.cells #[.int .u64 0, .int .u64 0, .int .u64 0, .int .u64 0, .int .u64 0, .int .u64 0, .int .u64 0, .int .u64 0, .int .u64 0, .int .u64 0, .int .u64 0, .int .u64 0, .int .u64 0, .int .u64 0, .int .u64 0, .int .u64 0, .int .u64 0, .int .u64 0, .int .u64 0, .int .u64 0, .int .u64 0, .int .u64 0, .int .u64 0, .int .u64 0, .int .u64 0, .int .u64 0, .int .u64 0, .int .u64 0, .int .u64 0, .int .u64 0, .int .u64 0, .int .u64 0, .int .u64 0, .int .u64 0, .int .u64 0, .int .u64 0, .int .u64 0, .int .u64 0, .int .u64 0, .int .u64 0, .int .u64 0, .int .u64 0, .int .u64 0, .int .u64 0, .int .u64 0, .int .u64 0, .int .u64 0, .int .u64 0, .int .u64 0, .int .u64 0, .int .u64 0, .int .u64 0, .int .u64 0, .int .u64 0, .int .u64 0, .int .u64 0, .int .u64 0, .int .u64 0, .int .u64 0, .int .u64 0, .int .u64 0, .int .u64 0, .int .u64 0, .int .u64 0] 72)) w.heap.size (fun _ => 0) := by
  show GridIs (w.alloc (.cells zeros 72)) w.heap.size (fun _ => 0)
  have hb : (w.alloc (.cells zeros 72)).heap[w.heap.size]? = some (.cells zeros 72 (0, 0)) := World.alloc_heap_new w _
  intro j hj
  refine ⟨?_, ?_⟩
  · rw [cell_of_row _ _ j zeros 72 (0, 0) hb]
    simp [zeros, hj]
  · exact frozen_of_row _ _ j zeros 72 hb

set_option maxHeartbeats 1000000 in
theorem closure_bad (a : Option Addr) (n cap : Nat) (z : Nat → Int) (w : World) (hn : n < 9223372036854775807) (hc : Cells w .u64 a n z) (hz : ∀ j, j < n → 0 ≤ z j ∧ z j < 18446744073709551616) (hk : chkI n z ≠ 0) :
    Calls Try.prog 39 #[.slice a n cap] w fun e w' => e = .returned (.tuple #[.slice none 0 0, .int .i64 (chkI n z)]) ∧ w' = w := by
  have hchk := check_any a n cap z w hn hc hz
  have hne : (chkI n z != 0) = true := by simp [hk]
  generalize chkI n z = c at *
  clear hk hc hz
  go_enter Try.func39, Try.ntmps39
  go_wp2_with (go_at_call 40; refine hchk.mono ?_; rintro e w' ⟨rfl, rfl⟩)
  go_ret2
  exact ⟨rfl, rfl⟩

set_option maxRecDepth 100000 in
set_option maxHeartbeats 2000000 in
theorem closure_ok (a : Option Addr) (n cap : Nat) (z : Nat → Int) (w : World) (hc : Cells w .u64 a n z) (hz : ∀ j, j < n → 0 ≤ z j ∧ z j < 18446744073709551616) (hk : chkI n z = 0) :
    Calls Try.prog 39 #[.slice a n cap] w fun e w' => ∃ v, e = .returned (.tuple #[v, .int .i64 0]) ∧ w'.ownsRow w.heap.size 35 1 v n (encU n (clo n z)) ∧ Below w.heap.size w w' := by
  have HZ : Hid (∀ j, j < n → 0 ≤ z j ∧ z j < 18446744073709551616) := hz
  have hn := (chk_ok hk).1
  have hchk := check_any a n cap z w (by omega) hc HZ.out
  rw [hk] at hchk
  have HC : Hid (Cells w .u64 a n z) := hc
  clear hc hz hk
  go_enter Try.func39, Try.ntmps39
  go_wp2_with (go_at_call 40; refine hchk.mono ?_; rintro e w' ⟨rfl, rfl⟩)
  have g0 := grid_new w'
  have hB0 := (Below.refl w'.heap.size w').alloc (Nat.le_refl _) (.cells zeros 72)
  go_loopw [17] (fun i wr => ∃ k : Nat, k ≤ n ∧ i = .int .i64 k ∧ GridIs wr w'.heap.size (cloInit z k) ∧ Below w'.heap.size w' wr) (fun i _ => n - (intOf i).toNat)
  case atStart => exact ⟨0, Nat.zero_le _, rfl, g0.congr (fun j _ => by simp [cloInit]), hB0⟩
  case round =>
    clear g0 hB0 hchk
    obtain ⟨k, hk, rfl, hg, hbel⟩ := hrel
    by_cases hlt : k < n
    · obtain ⟨b, off, rfl, hcell⟩ := HC.out.below hbel k hlt
      obtain ⟨hz0, hz1⟩ := HZ.out k hlt
      have hgk := hg k (by omega)
      obtain ⟨hgc, hgf⟩ := hgk
      go_wp2
      go_roundw
      case rel =>
        refine ⟨k + 1, by omega, by go_num, ?_, hbel.setCell (p := ⟨w'.heap.size, k, none⟩) (Nat.le_refl _) _⟩
        rw [or_bit' hz0 hz1 (by omega), ← cloInit_succ]
        exact hg.set (by omega) _
      case measure => simp [intOf]; omega
    · obtain rfl : k = n := by omega
      clear hlt
      go_wp2
      go_loopw [31] (fun i wr => ∃ q : Nat, q ≤ k ∧ i = .int .i64 q ∧ GridIs wr w'.heap.size (cloTo k z q) ∧ Below w'.heap.size w' wr) (fun i _ => k - (intOf i).toNat)
      case atStart => exact ⟨0, Nat.zero_le _, rfl, hg, hbel⟩
      case round =>
        clear hg hbel
        obtain ⟨q, hq, rfl, hg, hbel⟩ := hrel
        by_cases hlt : q < k
        · go_wp2
          go_loopw [36] (fun i wr => ∃ m : Nat, m ≤ k ∧ i = .int .i64 m ∧ GridIs wr w'.heap.size (cloRow (cloTo k z q) q m) ∧ Below w'.heap.size w' wr) (fun i _ => k - (intOf i).toNat)
          case atStart => exact ⟨0, Nat.zero_le _, rfl, hg, hbel⟩
          case round =>
            clear hg hbel
            obtain ⟨m, hm, rfl, hg, hbel⟩ := hrel
            by_cases hlm : m < k
            · have hbd := cloRow_bd (cloTo_bd hn HZ.out q) q m
              have HS : Hid (cloRow (cloTo k z q) q (m + 1) = cloStep (cloRow (cloTo k z q) q m) q m) := rfl
              generalize cloRow (cloTo k z q) q m = G at *
              obtain ⟨hm0, hm1⟩ := hbd m
              obtain ⟨hq0, hq1⟩ := hbd q
              obtain ⟨hgm, hfm⟩ := hg m (by omega)
              obtain ⟨hgq, hfq⟩ := hg q (by omega)
              cases ht : tb (G m) q
              · have hh := fun w => has_at (G m) q w hm0 hm1 (by omega) false ht
                have HT : Hid (cloStep G q m = G) := by show _ = _; simp [cloStep, ht]
                clear ht hbd
                go_wp2_with (go_at_call 38; refine (hh _).mono ?_; rintro e w3 ⟨rfl, rfl⟩)
                go_roundw
                case rel => exact ⟨m + 1, by omega, by go_num, by rw [HS.out, HT.out]; exact hg, hbel⟩
                case measure => simp [intOf]; omega
              · have hh := fun w => has_at (G m) q w hm0 hm1 (by omega) true ht
                have HT : Hid (cloStep G q m = upd G m (orI (G m) (G q))) := by show _ = _; simp [cloStep, ht]
                clear ht hbd
                go_wp2_with (go_at_call 38; refine (hh _).mono ?_; rintro e w3 ⟨rfl, rfl⟩)
                go_region
                all_goals go_wp2
                all_goals go_roundw
                case rel =>
                  refine ⟨m + 1, by omega, by go_num, ?_, (hbel.setCell (p := ⟨w'.heap.size, m, none⟩) (Nat.le_refl _) _).drew⟩
                  rw [HS.out, HT.out, or_eq hm0 hm1 hq0 hq1]
                  exact (hg.set (by omega) _).drew
                case measure => simp [intOf]; omega
            · obtain rfl : m = k := by omega
              go_wp2
              go_roundw
              case rel => exact ⟨q + 1, by omega, by go_num, hg, hbel⟩
              case measure => simp [intOf]; omega
        · obtain rfl : q = k := by omega
          go_wp2_with (go_at_call 41; refine (first_own _ _ _ _ hn hg).mono ?_; rintro e w2 ⟨v, rfl, hown, hb2⟩)
          go_ret2
          exact ⟨v, rfl, own_mono hown hbel.size, Below.onto hbel hb2⟩

end Go.Proofs.Ytcfpfddbbhphgab
