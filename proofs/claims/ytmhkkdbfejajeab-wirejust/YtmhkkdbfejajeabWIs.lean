/- The document: which requests are well-formed. -/
import Derived.Test.YtmhkkdbfejajeabWNum
import Derived.Deep.Light
namespace Go.Proofs.Ytmhkkdbfejajeab
open Go.RowKit

end Go.Proofs.Ytmhkkdbfejajeab
