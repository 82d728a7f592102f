/- Calls that came in. -/
import Derived.Test.YtlphombjejgbiaaUArg
import Derived.Test.YtlphombjejgbiaaDMade
namespace Go.Proofs.Ytlphombjejgbiaa
open Go.RowKit Go.ChangeShapes Go.WideShapes Go.Deep Go.Joins
set_option maxRecDepth 100000

theorem dwf_u8 {x : Int} (h : (Lit.int .u8 x).wf = true) : 0 ≤ x ∧ x < 256 := by
  have e : IntKind.u8.max = 255 := by decide
  have e' : IntKind.u8.min = 0 := by decide
  simp [Lit.wf, e, e'] at h
  omega
section
variable {H : Type} {enc : TypeId × Value → H} {w : World} {base : Nat} {spare : Nat → Bool} {held : Bool}
/-- a call's cells -/
theorem open_dop {n : Nat} {cs : List Value} {y : DataW H × List MemPlace} (hl : cs.length = 3) (h : DataW.trod enc Try.prog w base spare held n 33 cs = some y) : ∃ o : DOp, (∀ f, f < 3 → cs[f]? = some (encD o f)) ∧ True := by
  match cs, hl, h with
  | [c0, c1, c2], _, h =>
    obtain ⟨xs, n, _, _, _, hlen, hf⟩ := DataW.trod_struct Try.underlying33 h
    match xs, hlen, hf with
    | [y0, y1, y2], _, hf =>
      have e1 : Try.prog.cellsOf 3 = 1 := by kernel_rfl
      obtain ⟨a0, rfl, _⟩ := uint_cell (v := c0) Try.underlying3 (by simpa [e1] using hf 0 _ rfl)
      obtain ⟨a1, rfl, _⟩ := uint_cell (v := c1) Try.underlying3 (by simpa [e1] using hf 1 _ rfl)
      obtain ⟨a2, rfl, _⟩ := uint_cell (v := c2) Try.underlying3 (by simpa [e1] using hf 2 _ rfl)
      refine ⟨⟨a0, a1, a2⟩, fun f hf => ?_, trivial⟩
      match f, hf with
      | 0, _ => rfl
      | 1, _ => rfl
      | 2, _ => rfl
/-- calls that came in -/
theorem open_dops {r : Reach} {b0 : Nat} {v : Value} {d : DataW H} {ps : List MemPlace} (hv : Value.okWide Try.prog w r b0 22 v) (hT : DataW.Trod enc Try.prog w base spare held 22 v d ps) : ∃ (a : Option Addr) (len cap : Nat) (g : Nat → DOp), v = .slice a len cap ∧ Rd w a len 3 (fun j => encD (g j)) ∧ len ≤ cap ∧ cap ≤ maxLen := by
  obtain ⟨a, len, cap, rfl⟩ := okWide_slice Try.underlying22 hv
  obtain ⟨fuel, hf⟩ := hT
  obtain ⟨a', len', cap', g, e, h1, h2, h3, h4, _⟩ := open_sl (s := 3) Try.underlying22 (by kernel_rfl) (by omega) ⟨0, 0, 0⟩ encD (fun _ => True) (fun n cs' y hl hy => open_dop hl hy) hf
  simp [Value.cells] at e
  obtain ⟨rfl, rfl, rfl⟩ := e
  exact ⟨a, len, cap, g, rfl, h4, h1, h2⟩
/-- a call that came in -/
theorem open_dop1 {r : Reach} {b0 : Nat} {v : Value} {d : DataW H} {ps : List MemPlace} (hv : Value.okWide Try.prog w r b0 33 v) (hT : DataW.Trod enc Try.prog w base spare held 33 v d ps) : ∃ o : DOp, v = .agg #[.int .i64 o.k, .int .i64 o.a, .int .i64 o.b] ∧ True := by
  have hs := Try.underlying33
  obtain ⟨cs, rfl, hsz⟩ := okWide_struct hs hv
  rw [show Try.prog.cellsOf 33 = 3 by kernel_rfl] at hsz
  obtain ⟨l⟩ := cs
  match l, hsz with
  | [c0, c1, c2], hl =>
    obtain ⟨fuel, hf⟩ := hT
    obtain ⟨o, ho, _⟩ := open_dop (cs := [c0, c1, c2]) rfl (by simpa [Value.cells] using hf)
    have e0 := ho 0 (by omega)
    have e1 := ho 1 (by omega)
    have e2 := ho 2 (by omega)
    simp [encD] at e0 e1 e2
    subst e0 e1 e2
    exact ⟨o, rfl, trivial⟩
/-- a bool that came in -/
theorem open_dbool {r : Reach} {b0 : Nat} {v : Value} {d : DataW H} {ps : List MemPlace} (hv : Value.okWide Try.prog w r b0 4 v) (_hT : DataW.Trod enc Try.prog w base spare held 4 v d ps) : ∃ b : Bool, v = .bool b ∧ True := by
  obtain ⟨b, rfl⟩ := okWide_bool Try.underlying4 hv
  exact ⟨b, rfl, trivial⟩
end
end Go.Proofs.Ytlphombjejgbiaa
