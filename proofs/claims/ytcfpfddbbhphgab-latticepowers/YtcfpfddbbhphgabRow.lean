/- What is known of a slice of integers that came in. -/
import Derived.Test.YtcfpfddbbhphgabAlive
import Derived.OpenShut
namespace Go.Proofs.Ytcfpfddbbhphgab
open Go.RowKit

def IsRow (k : IntKind) (w : World) (a : Option Addr) (len cap : Nat) (z : Nat → Int) : Prop :=
  Cells w k a len z ∧ (a = none → len = 0) ∧ len ≤ cap ∧ cap ≤ maxLen ∧ ∀ j, j < len → (Lit.int k (z j)).wf = true
theorem isRow_nil (k : IntKind) (w : World) : IsRow k w none 0 0 (fun _ => 0) :=
  ⟨fun j hj => absurd hj (by omega), fun _ => rfl, Nat.le_refl _, Nat.zero_le _, fun j hj => absurd hj (by omega)⟩
theorem isRow_some {k : IntKind} {w : World} {x : Addr} {l c : Nat} {zs : List Int} (hl : l ≤ c) (hm : c ≤ maxLen) (hz : zs.length = c)
    (hcell : ∀ i, i < zs.length → w.cell? (x.add i) = some (.int k (zs.getD i 0))) (hwz : ∀ n ∈ zs, (Lit.int k n).wf = true) : IsRow k w (some x) l c (fun j => zs.getD j 0) := by
  refine ⟨fun j hj => ?_, fun e => (by cases e), hl, hm, fun j hj => ?_⟩
  · obtain ⟨b, off, rfl, h⟩ := ints_at hcell (by omega)
    exact ⟨b, off, rfl, h j (by omega)⟩
  · have hj' : j < zs.length := by omega
    have e : zs.getD j 0 = zs[j] := by simp [List.getD, hj']
    show (Lit.int k (zs.getD j 0)).wf = true
    rw [e]
    exact hwz _ (List.getElem_mem hj')
theorem IsRow.u64 {w : World} {a : Option Addr} {len cap : Nat} {z : Nat → Int} (h : IsRow .u64 w a len cap z) : ∀ j, j < len → 0 ≤ z j ∧ z j < 18446744073709551616 := fun j hj => by
  have := bounds_u64 (h.2.2.2.2 j hj); omega
theorem IsRow.cap {k : IntKind} {w : World} {a : Option Addr} {len cap : Nat} {z : Nat → Int} (h : IsRow k w a len cap z) : cap ≤ 9223372036854775807 := by
  have := h.2.2.2.1; unfold maxLen at this; omega

end Go.Proofs.Ytcfpfddbbhphgab
