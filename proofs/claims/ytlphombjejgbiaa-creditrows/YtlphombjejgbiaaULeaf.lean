/- queue's small functions on one lane. -/
import Derived.Test.YtlphombjejgbiaaUMem
namespace Go.Proofs.Ytlphombjejgbiaa
open Go.RowKit Go.Sort
set_option maxRecDepth 100000

abbrev seV (l : PLn) (v : Value) (q : Nat) : Value := .agg #[.int .i64 l.cr, .bool l.tw, .int .i64 l.lf, v, .int .i64 l.nx, .int .i64 l.ep, .int .i64 (q : Int)]
theorem ris_drop {nx lo : Int} {l : List Int} {k : Nat} (h : k < l.length) : ris nx lo (l.drop k) = (win (atI l k) lo (nx - 1) && ris nx (atI l k + 1) (l.drop (k + 1))) := by
  rw [atI_eq h, List.drop_eq_getElem_cons h, ris]
abbrev fnV (f : Nat) : Value := .func (.func f) #[] #[]
end Go.Proofs.Ytlphombjejgbiaa
