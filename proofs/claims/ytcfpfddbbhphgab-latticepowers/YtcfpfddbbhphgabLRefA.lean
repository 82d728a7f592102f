/- The document's own answers of layer 2: shape, Check, label, asked, joins, meets. -/
import Derived.Test.YtcfpfddbbhphgabLMath
import Derived.Test.YtcfpfddbbhphgabUn
namespace Go.Proofs.Ytcfpfddbbhphgab
open Go.RowKit Go.Shelf

theorem shl_bit {k : Nat} (hk : k < 64) : IntKind.u64.wrap (2 ^ min k 64) = IntKind.u64.wrap (2 ^ k) := by rw [Nat.min_eq_left (by omega)]

end Go.Proofs.Ytcfpfddbbhphgab
