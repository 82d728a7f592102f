/- The document's own. -/
import Derived.Test.YtkgehbonijpdnaaURefO
namespace Go.Proofs.Ytkgehbonijpdnaa
open Go.RowKit
set_option maxRecDepth 100000

end Go.Proofs.Ytkgehbonijpdnaa
