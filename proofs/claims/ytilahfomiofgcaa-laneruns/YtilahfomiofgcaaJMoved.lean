/- The law's 'moved': a call of two lanes whose numbers are moved. (Written by wip/tools/jmoved.py.) -/
import Derived.Test.YtilahfomiofgcaaJLike2
import Derived.Test.YtilahfomiofgcaaJSame
import Derived.Test.YtilahfomiofgcaaJOneWay
namespace Go.Proofs.Ytilahfomiofgcaa
open Go.RowKit Go.Sort
set_option maxRecDepth 100000

theorem pubA_st (A : La) (q e t s : Int) : (pubA A q e t s).st = A.st := by
  unfold pubA
  split
  · split <;> rfl
  · rfl
theorem takeA_st (A : La) : (takeA A).st = A.st := by unfold takeA; split <;> rfl
theorem retA_st (A : La) (q e : Int) : (retA A q e).st = A.st := by
  unfold retA
  split
  · split <;> rfl
  · rfl
theorem resA_st (A : La) : (resA A).st = A.st := by unfold resA; split <;> rfl
/-- what Reset tells -/
def ResetTells : Prop := ∀ (w : World) (p : Nat) (A : La) (X : Nat → Prop), Ln w p A X → Calls Try.prog 24 #[pV p] w fun e w' => (∃ v, e = .returned (.tuple #[v, .int .i64 (resE A)]) ∧ SlN w.heap.size w' v (resL A)) ∧ Ln w' p (resA A) X ∧ But (Els X) w w'

end Go.Proofs.Ytilahfomiofgcaa
