/- The document's own Power and Product. -/
import Derived.Test.YtcfpfddbbhphgabLProdM
import Derived.Test.YtcfpfddbbhphgabLPow
import Derived.Test.YtcfpfddbbhphgabLRefB
import Derived.BigQuiet
namespace Go.Proofs.Ytcfpfddbbhphgab
open Go.RowKit Go.Shelf
attribute [local go_sem ↓] wp_at wp_succ wp_zero wpIn_at wpIn_succ wpIn_zero

theorem pw_and : ∀ a b : Fin 16, (bits .and .i64 (a.1 : Int) (b.1 : Int) == (a.1 : Int)) = pwP a.1 b.1 := by decide +kernel

/-- Power's error, its length, its rows -/
def pwrE (k : Int) : Int := if 0 ≤ k ∧ k ≤ 4 then 0 else 5
theorem pwrE_ok {k : Int} (h0 : 0 ≤ k) (h4 : k ≤ 4) : pwrE k = 0 := by simp [pwrE, h0, h4]
theorem pwrE_bad {k : Int} (h : k < 0 ∨ 4 < k) : pwrE k = 5 := by
  unfold pwrE; rw [if_neg (by omega)]
theorem power_un (k : Int) (w : World) : Calls Try.prog 12 #[.int .i64 k] w (Gives w (pwrE k) (2 ^ k.toNat) (pw (2 ^ k.toNat))) := by
  by_cases h : 0 ≤ k ∧ k ≤ 4
  · rw [pwrE_ok h.1 h.2]
    obtain ⟨j, rfl⟩ := Int.eq_ofNat_of_zero_le h.1
    exact power_ok j (by omega) w
  · rw [pwrE_bad (by omega)]
    exact (power_bad k (by omega) w).mono fun e w' ⟨he, hw⟩ => gives_bad (by decide) he (by rw [hw]; exact Below.refl _ _)
end Go.Proofs.Ytcfpfddbbhphgab
