/- What the document's own answers come to (lists, ranks, checks), and bits.Check. -/
import Derived.Test.YtcfpfddbbhphgaaMem
namespace Go.Proofs.Ytcfpfddbbhphgaa
open Go.RowKit

theorem rlist_any (s : Int) (w : World) (hs0 : 0 ≤ s) (hs1 : s < 18446744073709551616) :
    Calls Try.prog 72 #[.int .u64 s] w fun e w' => ∃ a cap, e = .returned (.slice a (mems s).length cap) ∧ Cells w' .i64 a (mems s).length (memAt s) ∧ Below w.heap.size w w' := by
  refine (rlist_own s w hs0 hs1).mono ?_
  rintro e w' ⟨v, rfl, hown, hbel⟩
  obtain ⟨a, cap, rfl, hc, _⟩ := cells_of_own hown (encL_at s)
  exact ⟨a, cap, rfl, hc, hbel⟩

def nthB (s k : Int) : Bool := decide (0 ≤ k) && decide (k < ((mems s).length : Int))
def nthI (s k : Int) : Int := if nthB s k then memAt s k.toNat else 0
end Go.Proofs.Ytcfpfddbbhphgaa
