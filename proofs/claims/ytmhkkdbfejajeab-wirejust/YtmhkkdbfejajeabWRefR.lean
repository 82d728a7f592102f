/- The document's ParseReply: what any bytes are. -/
import Derived.Test.YtmhkkdbfejajeabWParR
import Derived.Test.YtmhkkdbfejajeabWIs
namespace Go.Proofs.Ytmhkkdbfejajeab
open Go.RowKit

end Go.Proofs.Ytmhkkdbfejajeab
