/- lattice.Power: the policy of the subsets. -/
import Derived.Test.YtcfpfddbbhphgabLRead
import Derived.Test.YtcfpfddbbhphgabUn
namespace Go.Proofs.Ytcfpfddbbhphgab
open Go.RowKit Go.Shelf
attribute [local go_sem ↓] wp_at wp_succ wp_zero wpIn_at wpIn_succ wpIn_zero

def pwP (a : Nat) : Nat → Bool := fun b => a &&& b == a
/-- the subset a flows to all that have all of it -/
def pw (N a : Nat) : Int := setTo (pwP a) N
def pwTo (N a b : Nat) : Nat → Int := fun j => if j < a then pw N j else if j = a then setTo (pwP a) b else 0
theorem pwTo_hit {N a b : Nat} (h : pwP a b = true) : upd (pwTo N a b) a (setI (setTo (pwP a) b) b) = pwTo N a (b + 1) := by
  funext j
  unfold upd pwTo
  by_cases e : j = a
  · subst e; simp [setTo_hit h]
  · simp [e]
theorem pwTo_miss {N a b : Nat} (h : pwP a b = false) : pwTo N a b = pwTo N a (b + 1) := by
  funext j
  unfold pwTo
  by_cases e : j = a
  · subst e; simp [setTo_miss h]
  · simp [e]
theorem pwTo_row (N a : Nat) : pwTo N a N = pwTo N (a + 1) 0 := by
  funext j
  unfold pwTo
  by_cases h : j < a
  · simp [h, show j < a + 1 by omega]
  · by_cases e : j = a
    · subst e; simp [pw]
    · by_cases e2 : j = a + 1
      · subst e2; simp [setTo, show ¬ a + 1 < a by omega]
      · simp [h, e, e2, show ¬ j < a + 1 by omega]
theorem pwTo_at (N a b : Nat) : pwTo N a b a = setTo (pwP a) b := by simp [pwTo]
theorem pw_test : ∀ a b : Fin 16, (bits .andNot .i64 (a.1 : Int) (b.1 : Int) == 0) = pwP a.1 b.1 := by decide +kernel
theorem pw_bds {N : Nat} (hN : N ≤ 64) : Bds N (pw N) := fun _ _ => ⟨setTo_nonneg _ _, setTo_lt _ hN⟩

set_option maxRecDepth 100000 in
set_option maxHeartbeats 2000000 in
theorem power_ok (k : Nat) (hk : k ≤ 4) (w : World) :
    Calls Try.prog 12 #[.int .i64 k] w (Gives w 0 (2 ^ k) (pw (2 ^ k))) := by
  obtain ⟨i0, hi, hz0, hz1, hz2⟩ := info_parts Try.info23
  have hN1 : 1 ≤ 2 ^ k := Nat.pow_pos (by decide)
  have hN16 : 2 ^ k ≤ 2 ^ 4 := Nat.pow_le_pow_right (by decide) hk
  have hsh : IntKind.i64.wrap (2 ^ k) = ((2 ^ k : Nat) : Int) := by
    match k, hk with
    | 0, _ => decide
    | 1, _ => decide
    | 2, _ => decide
    | 3, _ => decide
    | 4, _ => decide
  generalize hNN : 2 ^ k = N at *
  go_enter Try.func12, Try.ntmps12
  have hN16' : N ≤ 16 := hN16
  clear hN16
  go_wp2_with (at_make; go_must (refine wpList_make_full _ rfl _ _ 22 rfl w.heap.size 35 i0 (.int .u64 0) 1 Try.underlying22 hi hz0 hz1 .i64 .i64 _ _ N rfl rfl rfl rfl (by rw [hz2]; omega) (by unfold maxLen; omega) (Nat.le_refl _) ?_; intro w2 hown hgrow))
  rw [made_zero] at hown
  have hb2 : Below w.heap.size w w2 := (Below.refl _ w).grown hgrow (Nat.le_refl _) (fun k e => by cases e)
  have h0 : Out w2 w.heap.size w.heap.size N (pwTo N 0 0) := Out.congr hown (fun j _ => by simp [pwTo, setTo])
  clear hown hgrow hsh hNN
  go_loopw [18] (fun i wr => ∃ a : Nat, a ≤ N ∧ i = .int .i64 a ∧ Out wr w.heap.size w.heap.size N (pwTo N a 0) ∧ Below w.heap.size w wr) (fun i _ => N - (intOf i).toNat)
  case atStart => exact ⟨0, Nat.zero_le _, rfl, h0, hb2⟩
  case round =>
    clear h0 hb2
    obtain ⟨a, ha, rfl, ho, hbel⟩ := hrel
    by_cases hlt : a < N
    · go_wp2
      go_loopw [23] (fun i wr => ∃ b : Nat, b ≤ N ∧ i = .int .i64 b ∧ Out wr w.heap.size w.heap.size N (pwTo N a b) ∧ Below w.heap.size w wr) (fun i _ => N - (intOf i).toNat)
      case atStart => exact ⟨0, Nat.zero_le _, rfl, ho, hbel⟩
      case round =>
        clear ho hbel
        obtain ⟨b, hb, rfl, ho, hbel⟩ := hrel
        by_cases hltb : b < N
        · have ht := pw_test ⟨a, by omega⟩ ⟨b, by omega⟩
          dsimp only at ht
          cases hp : pwP a b
          · rw [hp] at ht
            have HN : Hid (pwTo N a b = pwTo N a (b + 1)) := pwTo_miss hp
            clear hp
            go_wp2
            go_roundw
            case rel => exact ⟨b + 1, by omega, by go_num, by rw [← HN.out]; exact ho, hbel⟩
            case measure => simp [intOf]; omega
          · rw [hp] at ht
            have HN : Hid (upd (pwTo N a b) a (setI (setTo (pwP a) b) b) = pwTo N a (b + 1)) := pwTo_hit hp
            have hcell := ho.cell hlt
            have hfr := ho.frozen a
            rw [pwTo_at] at hcell
            have hs0 := setTo_nonneg (pwP a) b
            have hs1 := setTo_lt (pwP a) (show b ≤ 64 by omega)
            have HO : Hid (bits .or .u64 (setTo (pwP a) b) (IntKind.u64.wrap (2 ^ b)) = setI (setTo (pwP a) b) b) := or_bit' hs0 hs1 (by omega)
            generalize setTo (pwP a) b = S at *
            clear hp
            go_wp2
            go_region
            all_goals go_wp2
            all_goals go_roundw
            case rel =>
              refine ⟨b + 1, by omega, by go_num, ?_, (hbel.setCell (p := ⟨w.heap.size, a, none⟩) (Nat.le_refl _) _).drew⟩
              rw [← HN.out, ← HO.out]
              exact ho.set a _
            case measure => simp [intOf]; omega
        · obtain rfl : b = N := by omega
          go_wp2
          go_roundw
          case rel => exact ⟨a + 1, by omega, by go_num, by rw [← pwTo_row]; exact ho, hbel⟩
          case measure => simp [intOf]; omega
    · obtain rfl : a = N := by omega
      go_wp2
      go_ret2
      refine gives_own rfl (Out.congr ho (fun j hj => by simp [pwTo, hj])) hbel

set_option maxHeartbeats 400000 in
theorem power_bad (k : Int) (hk : k < 0 ∨ 4 < k) (w : World) :
    Calls Try.prog 12 #[.int .i64 k] w fun e w' => e = .returned (.tuple #[.slice none 0 0, .int .i64 5]) ∧ w' = w := by
  rcases hk with hk | hk
  · go_enter Try.func12, Try.ntmps12
    go_wp2
    go_ret2
    exact ⟨rfl, rfl⟩
  · have hk0 : 0 ≤ k := by omega
    go_enter Try.func12, Try.ntmps12
    go_wp2
    go_ret2
    exact ⟨rfl, rfl⟩

end Go.Proofs.Ytcfpfddbbhphgab
