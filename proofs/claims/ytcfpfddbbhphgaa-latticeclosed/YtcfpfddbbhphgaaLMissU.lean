/- Missing with its error in one, both sides. -/
import Derived.Test.YtcfpfddbbhphgaaLMissR
import Derived.Test.YtcfpfddbbhphgaaLAwake
namespace Go.Proofs.Ytcfpfddbbhphgaa
open Go.RowKit Go.Shelf

/-- what is missing; with an error nothing -/
def msV (n : Nat) (z : Nat → Int) : List (Nat × Nat) := if shpE n z = 0 then msTo n z n else []
theorem msV_len {n : Nat} (hn : n ≤ 17) (z : Nat → Int) : (msV n z).length ≤ 1088 := by
  unfold msV
  by_cases h : shpE n z = 0
  · rw [if_pos h]; have := msTo_len n z n; omega
  · rw [if_neg h]; simp
/-- an answer of flows -/
def GivesF (w : World) (c : Int) (l : List (Nat × Nat)) (e : Ending) (w' : World) : Prop :=
  ∃ a cap, e = .returned (.tuple #[.slice a l.length cap, .int .i64 c]) ∧ FCells w' a l.length (fstAt l) (sndAt l) ∧ Below w.heap.size w w'
theorem missing_un (a : Option Addr) (n cap : Nat) (z : Nat → Int) (w : World) (hn : n < 9223372036854775807) (hc : Cells w .u64 a n z) (hz : Bds n z) :
    Calls Try.prog 10 #[.slice a n cap] w (GivesF w (shpE n z) (msV n z)) := by
  by_cases hk : shpE n z = 0
  · have e : msV n z = msTo n z n := by simp [msV, hk]
    rw [hk, e]
    refine (missing_ok a n cap z w hc hz hk).mono ?_
    rintro e w' ⟨v, rfl, ho, hb⟩
    obtain ⟨p, cp, rfl, hp⟩ := fcells_of_own ho
    exact ⟨p, cp, rfl, hp, hb⟩
  · have e : msV n z = [] := by simp [msV, hk]
    rw [e]
    refine (missing_bad a n cap z w hn hc hz hk).mono ?_
    rintro e w' ⟨rfl, hb⟩
    exact ⟨none, 0, rfl, fun j hj => absurd hj (by simp), hb⟩
theorem rmissing_un (a : Option Addr) (n cap : Nat) (z : Nat → Int) (w : World) (hn : n < 9223372036854775807) (hc : Cells w .u64 a n z) (hz : Bds n z) :
    Calls Try.prog 11 #[.slice a n cap] w (GivesF w (shpE n z) (msV n z)) := by
  by_cases hk : shpE n z = 0
  · have e : msV n z = msTo n z n := by simp [msV, hk]
    rw [hk, e]
    refine (rmissing_ok a n cap z w hc hz hk).mono ?_
    rintro e w' ⟨v, rfl, ho, hb⟩
    obtain ⟨p, cp, rfl, hp⟩ := fcells_of_own ho
    exact ⟨p, cp, rfl, hp, hb⟩
  · have e : msV n z = [] := by simp [msV, hk]
    rw [e]
    refine (rmissing_bad a n cap z w hn hc hz hk).mono ?_
    rintro e w' ⟨rfl, hb⟩
    exact ⟨none, 0, rfl, fun j hj => absurd hj (by simp), hb⟩

end Go.Proofs.Ytcfpfddbbhphgaa
