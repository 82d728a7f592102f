/- What the document's own answers come to (lists, ranks, checks), and bits.Check. -/
import Derived.Test.YtiaacjollcccaaaMem
namespace Go.Proofs.Ytiaacjollcccaaa
open Go.RowKit

def nthB (s k : Int) : Bool := decide (0 ≤ k) && decide (k < ((mems s).length : Int))
def nthI (s k : Int) : Int := if nthB s k then memAt s k.toNat else 0
end Go.Proofs.Ytiaacjollcccaaa
