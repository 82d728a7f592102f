/- The document's own Product. -/
import Derived.Test.YtcfpfddbbhphgabLProdR
import Derived.BigQuiet
namespace Go.Proofs.Ytcfpfddbbhphgab
open Go.RowKit Go.Shelf
attribute [local go_sem ↓] wp_at wp_succ wp_zero wpIn_at wpIn_succ wpIn_zero

end Go.Proofs.Ytcfpfddbbhphgab
