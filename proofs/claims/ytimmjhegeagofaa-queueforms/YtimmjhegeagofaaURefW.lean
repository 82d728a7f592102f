/- The document's own. -/
import Derived.Test.YtimmjhegeagofaaURefO
namespace Go.Proofs.Ytimmjhegeagofaa
open Go.RowKit
set_option maxRecDepth 100000

end Go.Proofs.Ytimmjhegeagofaa
