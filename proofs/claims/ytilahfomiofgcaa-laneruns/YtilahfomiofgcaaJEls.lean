/- Below, behind calls that leave some blocks alone. -/
import Derived.Test.YtilahfomiofgcaaJLane
namespace Go.Proofs.Ytilahfomiofgcaa
open Go.RowKit Go.Sort
set_option maxRecDepth 100000

theorem els_base {w wr w' : World} {X : Nat → Prop} (h : Below w.heap.size w wr) (hb : But (Els X) wr w') (hX : ∀ b, b < w.heap.size → X b) : Below w.heap.size w w' :=
  h.trans ⟨hb.os, hb.tape, hb.output, hb.size, fun k hk => hb.block k (Nat.lt_of_lt_of_le hk h.size) (fun hn => hn (hX k hk))⟩
end Go.Proofs.Ytilahfomiofgcaa
