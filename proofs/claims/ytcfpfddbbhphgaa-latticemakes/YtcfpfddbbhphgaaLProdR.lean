/- The document's own Power and Product. -/
import Derived.Test.YtcfpfddbbhphgaaLProdM
import Derived.Test.YtcfpfddbbhphgaaLPow
import Derived.Test.YtcfpfddbbhphgaaLRefB
import Derived.BigQuiet
namespace Go.Proofs.Ytcfpfddbbhphgaa
open Go.RowKit Go.Shelf
attribute [local go_sem ↓] wp_at wp_succ wp_zero wpIn_at wpIn_succ wpIn_zero

theorem pw_and : ∀ a b : Fin 16, (bits .and .i64 (a.1 : Int) (b.1 : Int) == (a.1 : Int)) = pwP a.1 b.1 := by decide +kernel

set_option maxRecDepth 100000 in
set_option maxHeartbeats 2000000 in
theorem rpower_ok (k : Nat) (hk : k ≤ 4) (w : World) :
    Calls Try.prog 31 #[.int .i64 k] w (Gives w 0 (2 ^ k) (pw (2 ^ k))) := by
  obtain ⟨i0, hi, hz0, hz1, hz2⟩ := info_parts Try.info23
  have hN1 : 1 ≤ 2 ^ k := Nat.pow_pos (by decide)
  have hN16 : 2 ^ k ≤ 2 ^ 4 := Nat.pow_le_pow_right (by decide) hk
  have hsh : IntKind.i64.wrap (2 ^ k) = ((2 ^ k : Nat) : Int) := by
    match k, hk with
    | 0, _ => decide
    | 1, _ => decide
    | 2, _ => decide
    | 3, _ => decide
    | 4, _ => decide
  generalize hNN : 2 ^ k = N at *
  go_enter Try.func31, Try.ntmps31
  have hN16' : N ≤ 16 := hN16
  clear hN16
  go_wp2
  clear hsh hNN
  go_loopw [4, 6] (fun v i wr => ∃ a : Nat, a ≤ N ∧ i = .int .i64 a ∧ wr.ownsRow w.heap.size 34 1 v a (encU a (pw N)) ∧ Below w.heap.size w wr) (fun _ i _ => N - (intOf i).toNat)
  case atStart => exact ⟨0, Nat.zero_le _, rfl, World.ownsRow_nil _ _ _ _, Below.refl _ _⟩
  case round =>
    obtain ⟨a, ha, rfl, hown, hbel⟩ := hrel
    by_cases hlt : a < N
    · go_wp2
      go_loop [7, 8] (fun s i => ∃ b : Nat, b ≤ N ∧ i = .int .i64 b ∧ s = .int .u64 (setTo (pwP a) b)) (fun _ i => N - (intOf i).toNat)
      case atStart => exact ⟨0, Nat.zero_le _, rfl, rfl⟩
      case round =>
        obtain ⟨b, hb, rfl, rfl⟩ := hrel
        have hs0 := setTo_nonneg (pwP a) b
        have hs1 := setTo_lt (pwP a) (show b ≤ 64 by omega)
        by_cases hltb : b < N
        · have ht := pw_and ⟨a, by omega⟩ ⟨b, by omega⟩
          dsimp only at ht
          cases hp : pwP a b
          · rw [hp] at ht
            have HN : Hid (setTo (pwP a) (b + 1) = setTo (pwP a) b) := setTo_miss hp
            clear hp
            generalize setTo (pwP a) b = S at *
            go_wp2
            go_round
            case rel => exact ⟨b + 1, by omega, by go_num, by rw [HN.out]⟩
            case measure => simp [intOf]; omega
          · rw [hp] at ht
            have HN : Hid (setTo (pwP a) (b + 1) = setI (setTo (pwP a) b) b) := setTo_hit hp
            clear hp
            generalize setTo (pwP a) b = S at *
            go_wp2
            go_round
            case rel => exact ⟨b + 1, by omega, by go_num, by rw [HN.out, or_bit' hs0 hs1 (by omega)]⟩
            case measure => simp [intOf]; omega
        · obtain rfl : b = N := by omega
          have HR : Hid (encU (a + 1) (pw b) = encU a (pw b) ++ [.int .u64 (setTo (pwP a) b)]) := encU_snoc a (pw b)
          generalize setTo (pwP a) b = S at *
          go_wp2_with (at_builtin; refine wpList_append_own _ rfl _ _ 22 rfl w.heap.size 34 i0 (.int .u64 0) 1 8 Try.underlying22 hi hz0 hz1 hz2 rfl (by decide) _ _ _ rfl (hown.alloc _) ⟨wr.heap.size, 0, none⟩ 1 1 [.int .u64 S] rfl rfl (cell_one_new _ _ _) (by simp [Value.oneCell']) (by unfold maxLen; omega) (by omega) (by have := hbel.size; simp; omega) ?_; intro v' w1 hown' hgrow _)
          go_roundw
          case rel =>
            refine ⟨a + 1, by omega, by go_num, ?_, ?_⟩
            · rw [HR.out]; exact hown'
            · exact (hbel.alloc hbel.size _).grown hgrow (by have := hbel.size; simp; omega) (own_ge hown)
          case measure => simp [intOf]; omega
    · obtain rfl : a = N := by omega
      go_wp2
      go_ret2
      exact gives_own rfl hown hbel

set_option maxHeartbeats 400000 in
theorem rpower_bad (k : Int) (hk : k < 0 ∨ 4 < k) (w : World) :
    Calls Try.prog 31 #[.int .i64 k] w fun e w' => e = .returned (.tuple #[.slice none 0 0, .int .i64 5]) ∧ w' = w := by
  rcases hk with hk | hk
  · go_enter Try.func31, Try.ntmps31
    go_wp2
    go_ret2
    exact ⟨rfl, rfl⟩
  · have hk0 : 0 ≤ k := by omega
    go_enter Try.func31, Try.ntmps31
    go_wp2
    go_ret2
    exact ⟨rfl, rfl⟩
/-- Power's error, its length, its rows -/
def pwrE (k : Int) : Int := if 0 ≤ k ∧ k ≤ 4 then 0 else 5
theorem pwrE_ok {k : Int} (h0 : 0 ≤ k) (h4 : k ≤ 4) : pwrE k = 0 := by simp [pwrE, h0, h4]
theorem pwrE_bad {k : Int} (h : k < 0 ∨ 4 < k) : pwrE k = 5 := by
  unfold pwrE; rw [if_neg (by omega)]
theorem power_un (k : Int) (w : World) : Calls Try.prog 30 #[.int .i64 k] w (Gives w (pwrE k) (2 ^ k.toNat) (pw (2 ^ k.toNat))) := by
  by_cases h : 0 ≤ k ∧ k ≤ 4
  · rw [pwrE_ok h.1 h.2]
    obtain ⟨j, rfl⟩ := Int.eq_ofNat_of_zero_le h.1
    exact power_ok j (by omega) w
  · rw [pwrE_bad (by omega)]
    exact (power_bad k (by omega) w).mono fun e w' ⟨he, hw⟩ => gives_bad (by decide) he (by rw [hw]; exact Below.refl _ _)
theorem rpower_un (k : Int) (w : World) : Calls Try.prog 31 #[.int .i64 k] w (Gives w (pwrE k) (2 ^ k.toNat) (pw (2 ^ k.toNat))) := by
  by_cases h : 0 ≤ k ∧ k ≤ 4
  · rw [pwrE_ok h.1 h.2]
    obtain ⟨j, rfl⟩ := Int.eq_ofNat_of_zero_le h.1
    exact rpower_ok j (by omega) w
  · rw [pwrE_bad (by omega)]
    exact (rpower_bad k (by omega) w).mono fun e w' ⟨he, hw⟩ => gives_bad (by decide) he (by rw [hw]; exact Below.refl _ _)

end Go.Proofs.Ytcfpfddbbhphgaa
