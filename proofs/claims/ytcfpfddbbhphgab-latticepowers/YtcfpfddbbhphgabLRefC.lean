/- The document's own answers of layer 2: asked, Joins, Meets. -/
import Derived.Test.YtcfpfddbbhphgabLRefB
import Derived.Test.YtcfpfddbbhphgabLJoin
namespace Go.Proofs.Ytcfpfddbbhphgab
open Go.RowKit Go.Shelf

theorem labB_isB (n : Nat) (a : Int) : labB n a = isB n a := rfl
end Go.Proofs.Ytcfpfddbbhphgab
