/- What is known of stamps that came in. -/
import Derived.Test.YtlcljchpljeonaaOStamp
import Derived.OpenShut
import Derived.Lib.SmallJoins
namespace Go.Proofs.Ytlcljchpljeonaa
open Go.RowKit Go.ChangeShapes Go.WideShapes Go.Joins

section
variable {H : Type} {enc : TypeId × Value → H} {w : World} {base : Nat} {spare : Nat → Bool} {held : Bool}

theorem array2 {α : Type} {cs : Array α} (h : cs.size = 2) : ∃ c0 c1, cs = #[c0, c1] := by
  obtain ⟨l⟩ := cs
  match l, h with
  | [c0, c1], _ => exact ⟨c0, c1, rfl⟩
theorem int_cell {t : TypeId} {k : IntKind} {n : Nat} {v : Value} {y : DataW H × List MemPlace} (ht : Try.prog.underlying t = some (.int k)) (h : DataW.trod enc Try.prog w base spare held n t [v] = some y) : ∃ x, v = .int k x ∧ (Lit.int k x).wf = true := by
  obtain ⟨a, e0, _, wa⟩ := DataW.trod_int ht h
  simp at e0
  exact ⟨a, e0, wa⟩
/-- a stamp's fields are ints -/
def StIs (t s : Int) : Prop := (-9223372036854775808 ≤ t ∧ t ≤ 9223372036854775807) ∧ -9223372036854775808 ≤ s ∧ s ≤ 9223372036854775807
theorem Try.cellsSt : Try.prog.cellsOf 37 = 2 := by kernel_rfl
theorem open_st {r : Reach} {b0 : Nat} {v : Value} {d : DataW H} {ps : List MemPlace} (hv : Value.okWide Try.prog w r b0 37 v) (hT : DataW.Trod enc Try.prog w base spare held 37 v d ps) :
    ∃ t s : Int, v = .agg #[.int .i64 t, .int .i64 s] ∧ StIs t s := by
  have hs := Try.underlying37
  obtain ⟨cs, rfl, hsz⟩ := okWide_struct hs hv
  obtain ⟨c0, c1, rfl⟩ := array2 (hsz.trans Try.cellsSt)
  obtain ⟨fuel, hf⟩ := hT
  obtain ⟨xs, n, _, _, _, hlen, hf⟩ := DataW.trod_struct hs hf
  match xs, hlen, hf with
  | [y0, y1], _, hf =>
    obtain ⟨t, rfl, wt⟩ := int_cell (v := c0) Try.underlying3 (by simpa [Value.cells, show Try.prog.cellsOf 3 = 1 by kernel_rfl] using hf 0 _ rfl)
    obtain ⟨s, rfl, ws⟩ := int_cell (v := c1) Try.underlying3 (by simpa [Value.cells, show Try.prog.cellsOf 3 = 1 by kernel_rfl] using hf 1 _ rfl)
    have := bounds_i64 wt
    have := bounds_i64 ws
    exact ⟨t, s, rfl, by omega, by omega⟩
end

end Go.Proofs.Ytlcljchpljeonaa
