/- Accounts and acts that came in. -/
import Derived.Test.YtlphombjejgbiaaUArg
import Derived.Test.YtlphombjejgbiaaXMath
namespace Go.Proofs.Ytlphombjejgbiaa
open Go.RowKit Go.ChangeShapes Go.WideShapes Go.Deep Go.Joins
set_option maxRecDepth 100000

section
variable {H : Type} {enc : TypeId × Value → H} {w : World} {base : Nat} {spare : Nat → Bool} {held : Bool}
/-- an account's cells -/
theorem open_xac0 {n : Nat} {c0 c1 c2 : Value} {y : DataW H × List MemPlace} (h : DataW.trod enc Try.prog w base spare held n 90 [c0, c1, c2] = some y) : ∃ a : Ac, c0 = .int .i64 a.rm ∧ c1 = .int .i64 a.sp ∧ c2 = .int .i64 a.ep := by
  obtain ⟨xs, n, _, _, _, hlen, hf⟩ := DataW.trod_struct Try.underlying90 h
  match xs, hlen, hf with
  | [y0, y1, y2], _, hf =>
    have e1 : Try.prog.cellsOf 3 = 1 := by kernel_rfl
    obtain ⟨a0, rfl, _⟩ := uint_cell (v := c0) Try.underlying3 (by simpa [e1] using hf 0 _ rfl)
    obtain ⟨a1, rfl, _⟩ := uint_cell (v := c1) Try.underlying3 (by simpa [e1] using hf 1 _ rfl)
    obtain ⟨a2, rfl, _⟩ := uint_cell (v := c2) Try.underlying3 (by simpa [e1] using hf 2 _ rfl)
    exact ⟨⟨a0, a1, a2⟩, rfl, rfl, rfl⟩
/-- an account that came in -/
theorem open_xac {r : Reach} {b0 : Nat} {v : Value} {d : DataW H} {ps : List MemPlace} (hv : Value.okWide Try.prog w r b0 90 v) (hT : DataW.Trod enc Try.prog w base spare held 90 v d ps) : ∃ a : Ac, v = acV a ∧ True := by
  have hs := Try.underlying90
  obtain ⟨cs, rfl, hsz⟩ := okWide_struct hs hv
  rw [show Try.prog.cellsOf 90 = 3 by kernel_rfl] at hsz
  obtain ⟨l⟩ := cs
  match l, hsz with
  | [c0, c1, c2], _ =>
    obtain ⟨fuel, hf⟩ := hT
    obtain ⟨a, rfl, rfl, rfl⟩ := open_xac0 (c0 := c0) (c1 := c1) (c2 := c2) (by simpa [Value.cells] using hf)
    exact ⟨a, rfl, trivial⟩
end
end Go.Proofs.Ytlphombjejgbiaa
