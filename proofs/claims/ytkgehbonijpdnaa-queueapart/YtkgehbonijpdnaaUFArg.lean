/- Credits and acts that came in. -/
import Derived.Test.YtkgehbonijpdnaaUArg
import Derived.Test.YtkgehbonijpdnaaUFifoA
namespace Go.Proofs.Ytkgehbonijpdnaa
open Go.RowKit Go.ChangeShapes Go.WideShapes Go.Deep Go.Joins
set_option maxRecDepth 100000

theorem wf_u8 {x : Int} (h : (Lit.int .u8 x).wf = true) : 0 ≤ x ∧ x < 256 := by
  have e : IntKind.u8.max = 255 := by decide
  have e' : IntKind.u8.min = 0 := by decide
  simp [Lit.wf, e, e'] at h
  omega
section
variable {H : Type} {enc : TypeId × Value → H} {w : World} {base : Nat} {spare : Nat → Bool} {held : Bool}
theorem open_ucr {r : Reach} {b0 : Nat} {v : Value} {d : DataW H} {ps : List MemPlace} (hv : Value.okWide Try.prog w r b0 22 v) (hT : DataW.Trod enc Try.prog w base spare held 22 v d ps) : ∃ (a : Option Addr) (len cap : Nat) (f : Nat → Int), v = .slice a len cap ∧ (Rd w a len 1 (fun j _ => .int .u8 (f j)) ∧ ∀ j, j < len → 0 ≤ f j ∧ f j < 256) := by
  obtain ⟨a, len, cap, rfl⟩ := okWide_slice Try.underlying22 hv
  obtain ⟨fuel, hf⟩ := hT
  obtain ⟨a', len', cap', g, e, h1, h2, h3, h4, h5⟩ := open_sl (s := 1) Try.underlying22 (by kernel_rfl) (by omega) (0 : Int) (fun (z : Int) _ => Value.int .u8 z) (fun z => 0 ≤ z ∧ z < 256) (fun n cs' y hl hy => by
    match cs', hl, hy with
    | [c], _, hy =>
      obtain ⟨z, rfl, hz⟩ := uint_cell Try.underlying5 hy
      exact ⟨z, fun f hf => by (obtain rfl : f = 0 := by omega); rfl, wf_u8 hz⟩) hf
  simp [Value.cells] at e
  obtain ⟨rfl, rfl, rfl⟩ := e
  exact ⟨a, len, cap, g, rfl, h4, h5⟩
theorem open_uop {n : Nat} {cs : List Value} {y : DataW H × List MemPlace} (hl : cs.length = 4) (h : DataW.trod enc Try.prog w base spare held n 41 cs = some y) : ∃ o : UOp, (∀ f, f < 4 → cs[f]? = some (encO o f)) ∧ (0 ≤ o.n ∧ o.n < 256) := by
  match cs, hl, h with
  | [c0, c1, c2, c3], _, h =>
    obtain ⟨xs, n, _, _, _, hlen, hf⟩ := DataW.trod_struct Try.underlying41 h
    match xs, hlen, hf with
    | [y0, y1, y2, y3], _, hf =>
      have e1 : Try.prog.cellsOf 3 = 1 := by kernel_rfl
      have e2 : Try.prog.cellsOf 5 = 1 := by kernel_rfl
      have e3 : Try.prog.cellsOf 39 = 1 := by kernel_rfl
      obtain ⟨a0, rfl, _⟩ := uint_cell (v := c0) Try.underlying3 (by simpa [e1, e2, e3] using hf 0 _ rfl)
      obtain ⟨a1, rfl, _⟩ := uint_cell (v := c1) Try.underlying3 (by simpa [e1, e2, e3] using hf 1 _ rfl)
      obtain ⟨a2, rfl, w2⟩ := uint_cell (v := c2) Try.underlying5 (by simpa [e1, e2, e3] using hf 2 _ rfl)
      obtain ⟨a3, rfl, _⟩ := uint_cell (v := c3) Try.underlying39 (by simpa [e1, e2, e3] using hf 3 _ rfl)
      refine ⟨⟨a0, a1, a2, a3⟩, fun f hf => ?_, wf_u8 w2⟩
      match f, hf with
      | 0, _ => rfl
      | 1, _ => rfl
      | 2, _ => rfl
      | 3, _ => rfl
theorem open_uops {r : Reach} {b0 : Nat} {v : Value} {d : DataW H} {ps : List MemPlace} (hv : Value.okWide Try.prog w r b0 23 v) (hT : DataW.Trod enc Try.prog w base spare held 23 v d ps) : ∃ (a : Option Addr) (len cap : Nat) (g : Nat → UOp), v = .slice a len cap ∧ (Rd w a len 4 (fun j => encO (g j)) ∧ ∀ j, j < len → 0 ≤ (g j).n ∧ (g j).n < 256) := by
  obtain ⟨a, len, cap, rfl⟩ := okWide_slice Try.underlying23 hv
  obtain ⟨fuel, hf⟩ := hT
  obtain ⟨a', len', cap', g, e, h1, h2, h3, h4, h5⟩ := open_sl (s := 4) Try.underlying23 (by kernel_rfl) (by omega) ⟨0, 0, 0, 0⟩ encO (fun o => 0 ≤ o.n ∧ o.n < 256) (fun n cs' y hl hy => open_uop hl hy) hf
  simp [Value.cells] at e
  obtain ⟨rfl, rfl, rfl⟩ := e
  exact ⟨a, len, cap, g, rfl, h4, h5⟩
end
end Go.Proofs.Ytkgehbonijpdnaa
