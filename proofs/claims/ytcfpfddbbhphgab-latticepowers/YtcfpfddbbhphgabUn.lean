/- Turn and Then, of whatever rows: the error, and the rows where there is none. -/
import Derived.Test.YtcfpfddbbhphgabRefThen
namespace Go.Proofs.Ytcfpfddbbhphgab
open Go.RowKit Go.Shelf

def lenIf (c : Int) (n : Nat) : Nat := if c = 0 then n else 0
theorem lenIf_le (c : Int) (n : Nat) : lenIf c n ≤ n := by unfold lenIf; split <;> omega
theorem cells_none (w : World) (k : IntKind) (z : Nat → Int) : Cells w k none 0 z := fun j hj => absurd hj (by omega)
/-- what comes back: a slice of so many rows, and the error's number -/
def Gives (w : World) (c : Int) (n : Nat) (z : Nat → Int) (e : Ending) (w' : World) : Prop :=
  ∃ a cap, e = .returned (.tuple #[.slice a (lenIf c n) cap, .int .i64 c]) ∧ Cells w' .u64 a (lenIf c n) z ∧ Below w.heap.size w w'
theorem gives_bad {w w' : World} {c : Int} {n : Nat} {z : Nat → Int} {e : Ending} (hc : c ≠ 0) (he : e = .returned (.tuple #[.slice none 0 0, .int .i64 c])) (hb : Below w.heap.size w w') : Gives w c n z e w' := by
  have h0 : lenIf c n = 0 := by simp [lenIf, hc]
  refine ⟨none, 0, ?_, ?_, hb⟩
  · rw [h0]; exact he
  · rw [h0]; exact cells_none _ _ _
theorem gives_own {w w' : World} {n : Nat} {z : Nat → Int} {e : Ending} {v : Value} (he : e = .returned (.tuple #[v, .int .i64 0])) (ho : w'.ownsRow w.heap.size 35 1 v n (encU n z)) (hb : Below w.heap.size w w') : Gives w 0 n z e w' := by
  obtain ⟨a, cap, rfl, hc, _⟩ := cells_of_own ho (encU_at n z)
  exact ⟨a, cap, he, hc, hb⟩

theorem turn_un (a : Option Addr) (n cap : Nat) (z : Nat → Int) (w : World) (hn : n < 9223372036854775807) (hc : Cells w .u64 a n z) (hz : ∀ j, j < n → 0 ≤ z j ∧ z j < 18446744073709551616) :
    Calls Try.prog 30 #[.slice a n cap] w (Gives w (chkI n z) n (turnTo z n)) := by
  by_cases h : chkI n z = 0
  · rw [h]; exact (turn_ok a n cap z w hc hz h).mono fun e w' ⟨v, he, ho, hb⟩ => gives_own he ho hb
  · exact (turn_bad a n cap z w hn hc hz h).mono fun e w' ⟨he, hb⟩ => gives_bad h he (by rw [hb]; exact Below.refl _ _)
theorem closure_un (a : Option Addr) (n cap : Nat) (z : Nat → Int) (w : World) (hn : n < 9223372036854775807) (hc : Cells w .u64 a n z) (hz : ∀ j, j < n → 0 ≤ z j ∧ z j < 18446744073709551616) :
    Calls Try.prog 39 #[.slice a n cap] w (Gives w (chkI n z) n (clo n z)) := by
  by_cases h : chkI n z = 0
  · rw [h]; exact (closure_ok a n cap z w hc hz h).mono fun e w' ⟨v, he, ho, hb⟩ => gives_own he ho hb
  · exact (closure_bad a n cap z w hn hc hz h).mono fun e w' ⟨he, hb⟩ => gives_bad h he (by rw [hb]; exact Below.refl _ _)

/-- Then's error -/
def thenE (n m : Nat) (z y : Nat → Int) : Int := if chkI n z = 0 then (if chkI m y = 0 then (if n = m then 0 else 1) else chkI m y) else chkI n z
theorem thenE_ok {n m : Nat} {z y : Nat → Int} : thenE n m z y = 0 ↔ chkI n z = 0 ∧ chkI m y = 0 ∧ n = m := by
  unfold thenE
  by_cases h1 : chkI n z = 0
  · by_cases h2 : chkI m y = 0
    · by_cases h3 : n = m
      · subst h3; simp [h1, h2]
      · simp [h1, h2, h3]
    · simp [h1, h2]
  · simp [h1]
end Go.Proofs.Ytcfpfddbbhphgab
