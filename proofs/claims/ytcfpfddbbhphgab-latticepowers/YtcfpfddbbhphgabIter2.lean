/- bits.List and bits.Nth: loops over the iterator bits.All. -/
import Derived.Test.YtcfpfddbbhphgabIter
namespace Go.Proofs.Ytcfpfddbbhphgab
open Go.RowKit Go.Shelf
attribute [local go_sem] Oper.semAt_some

theorem encS (s : Int) (pre : List (Mem s)) (x : Mem s) : encL ((pre ++ [x]).map (·.1)) = encL (pre.map (·.1)) ++ [Value.int .i64 (x.1 : Int)] := by
  rw [List.map_append]; exact encL_snoc _ _

end Go.Proofs.Ytcfpfddbbhphgab
