/- The document's acts on one account. -/
import Derived.Test.YtlphombjejgbiaaXRef
namespace Go.Proofs.Ytlphombjejgbiaa
open Go.RowKit Go.Sort Go.Shelf
set_option maxRecDepth 100000

end Go.Proofs.Ytlphombjejgbiaa
