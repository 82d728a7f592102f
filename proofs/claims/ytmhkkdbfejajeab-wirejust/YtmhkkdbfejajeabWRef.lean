/- The document's Parse: what any bytes are. -/
import Derived.Test.YtmhkkdbfejajeabWPar
import Derived.Test.YtmhkkdbfejajeabWIs
namespace Go.Proofs.Ytmhkkdbfejajeab
open Go.RowKit

end Go.Proofs.Ytmhkkdbfejajeab
