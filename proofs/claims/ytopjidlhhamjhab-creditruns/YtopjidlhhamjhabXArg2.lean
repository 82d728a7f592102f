/- Scripts that came in. -/
import Derived.Test.YtopjidlhhamjhabXArg
import Derived.Test.YtopjidlhhamjhabXAct
namespace Go.Proofs.Ytopjidlhhamjhab
open Go.RowKit Go.ChangeShapes Go.WideShapes Go.Deep Go.Joins
set_option maxRecDepth 100000

section
variable {H : Type} {enc : TypeId × Value → H} {w : World} {base : Nat} {spare : Nat → Bool} {held : Bool}
/-- an act's cells -/
theorem open_xop {n : Nat} {cs : List Value} {y : DataW H × List MemPlace} (hl : cs.length = 2) (h : DataW.trod enc Try.prog w base spare held n 44 cs = some y) : ∃ o : XOp, (∀ f, f < 2 → cs[f]? = some (encX o f)) ∧ True := by
  match cs, hl, h with
  | [c0, c1], _, h =>
    obtain ⟨xs, n, _, _, _, hlen, hf⟩ := DataW.trod_struct Try.underlying44 h
    match xs, hlen, hf with
    | [y0, y1], _, hf =>
      have e1 : Try.prog.cellsOf 3 = 1 := by kernel_rfl
      obtain ⟨a0, rfl, _⟩ := uint_cell (v := c0) Try.underlying3 (by simpa [e1] using hf 0 _ rfl)
      obtain ⟨a1, rfl, _⟩ := uint_cell (v := c1) Try.underlying3 (by simpa [e1] using hf 1 _ rfl)
      refine ⟨⟨a0, a1⟩, fun f hf => ?_, trivial⟩
      match f, hf with
      | 0, _ => rfl
      | 1, _ => rfl
/-- a script that came in -/
theorem open_xops {r : Reach} {b0 : Nat} {v : Value} {d : DataW H} {ps : List MemPlace} (hv : Value.okWide Try.prog w r b0 39 v) (hT : DataW.Trod enc Try.prog w base spare held 39 v d ps) : ∃ (a : Option Addr) (len cap : Nat) (g : Nat → XOp), v = .slice a len cap ∧ Rd w a len 2 (fun j => encX (g j)) ∧ len ≤ cap ∧ cap ≤ maxLen ∧ (a = none → len = 0 ∧ cap = 0) := by
  obtain ⟨a, len, cap, rfl⟩ := okWide_slice Try.underlying39 hv
  obtain ⟨fuel, hf⟩ := hT
  obtain ⟨a', len', cap', g, e, h1, h2, h3, h4, _⟩ := open_sl (s := 2) Try.underlying39 (by kernel_rfl) (by omega) ⟨0, 0⟩ encX (fun _ => True) (fun n cs' y hl hy => open_xop hl hy) hf
  simp [Value.cells] at e
  obtain ⟨rfl, rfl, rfl⟩ := e
  exact ⟨a, len, cap, g, rfl, h4, h1, h2, h3⟩
/-- a bool that came in -/
theorem open_xbool {r : Reach} {b0 : Nat} {v : Value} {d : DataW H} {ps : List MemPlace} (hv : Value.okWide Try.prog w r b0 4 v) (_hT : DataW.Trod enc Try.prog w base spare held 4 v d ps) : ∃ b : Bool, v = .bool b ∧ True := by
  obtain ⟨b, rfl⟩ := okWide_bool Try.underlying4 hv
  exact ⟨b, rfl, trivial⟩
end
end Go.Proofs.Ytopjidlhhamjhab
