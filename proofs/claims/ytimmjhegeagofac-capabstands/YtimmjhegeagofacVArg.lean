/- Caps and acts that came in. -/
import Derived.Test.YtimmjhegeagofacUArg
import Derived.Test.YtimmjhegeagofacVRow
namespace Go.Proofs.Ytimmjhegeagofac
open Go.RowKit Go.ChangeShapes Go.WideShapes Go.Deep Go.Joins
set_option maxRecDepth 100000

theorem wf_u8 {x : Int} (h : (Lit.int .u8 x).wf = true) : 0 ≤ x ∧ x < 256 := by
  have e : IntKind.u8.max = 255 := by decide
  have e' : IntKind.u8.min = 0 := by decide
  simp [Lit.wf, e, e'] at h
  omega
theorem wf_u32 {x : Int} (h : (Lit.int .u32 x).wf = true) : 0 ≤ x ∧ x < 4294967296 := by
  have e : IntKind.u32.max = 4294967295 := by decide
  have e' : IntKind.u32.min = 0 := by decide
  simp [Lit.wf, e, e'] at h
  omega
section
variable {H : Type} {enc : TypeId × Value → H} {w : World} {base : Nat} {spare : Nat → Bool} {held : Bool}
/-- a cap's cells -/
theorem open_vcap0 {n : Nat} {c0 c1 : Value} {y : DataW H × List MemPlace} (h : DataW.trod enc Try.prog w base spare held n 30 [c0, c1] = some y) : ∃ c r : Int, c0 = .int .i64 c ∧ c1 = .int .u8 r ∧ 0 ≤ r ∧ r < 256 := by
  obtain ⟨xs, n, _, _, _, hlen, hf⟩ := DataW.trod_struct Try.underlying30 h
  match xs, hlen, hf with
  | [y0, y1], _, hf =>
    have e1 : Try.prog.cellsOf 3 = 1 := by kernel_rfl
    have e2 : Try.prog.cellsOf 5 = 1 := by kernel_rfl
    obtain ⟨a0, rfl, _⟩ := uint_cell (v := c0) Try.underlying3 (by simpa [e1, e2] using hf 0 _ rfl)
    obtain ⟨a1, rfl, w1⟩ := uint_cell (v := c1) Try.underlying5 (by simpa [e1, e2] using hf 1 _ rfl)
    exact ⟨a0, a1, rfl, rfl, wf_u8 w1⟩
/-- an act's cells -/
theorem open_vop {n : Nat} {cs : List Value} {y : DataW H × List MemPlace} (hl : cs.length = 5) (h : DataW.trod enc Try.prog w base spare held n 33 cs = some y) : ∃ o : VOp, (∀ f, f < 5 → cs[f]? = some (encV o f)) ∧ o.Ok := by
  match cs, hl, h with
  | [c0, c1, c2, c3, c4], _, h =>
    obtain ⟨xs, n, _, _, _, hlen, hf⟩ := DataW.trod_struct Try.underlying33 h
    match xs, hlen, hf with
    | [y0, y1, y2, y3], _, hf =>
      have e1 : Try.prog.cellsOf 3 = 1 := by kernel_rfl
      have e2 : Try.prog.cellsOf 31 = 1 := by kernel_rfl
      have e3 : Try.prog.cellsOf 30 = 2 := by kernel_rfl
      obtain ⟨a0, rfl, _⟩ := uint_cell (v := c0) Try.underlying3 (by simpa [e1, e2, e3] using hf 0 _ rfl)
      obtain ⟨a1, a2, rfl, rfl, w2⟩ := open_vcap0 (c0 := c1) (c1 := c2) (by simpa [e1, e2, e3] using hf 1 _ rfl)
      obtain ⟨a3, rfl, w3⟩ := uint_cell (v := c3) Try.underlying31 (by simpa [e1, e2, e3] using hf 2 _ rfl)
      obtain ⟨a4, rfl, _⟩ := uint_cell (v := c4) Try.underlying3 (by simpa [e1, e2, e3] using hf 3 _ rfl)
      refine ⟨⟨a0, a1, a2, a3, a4⟩, fun f hf => ?_, w2.1, w2.2, (wf_u32 w3).1, (wf_u32 w3).2⟩
      match f, hf with
      | 0, _ => rfl
      | 1, _ => rfl
      | 2, _ => rfl
      | 3, _ => rfl
      | 4, _ => rfl
/-- a script that came in -/
def VOps (w : World) (a : Option Addr) (len _cap : Nat) (g : Nat → VOp) : Prop := Rd w a len 5 (fun j => encV (g j)) ∧ ∀ j, j < len → (g j).Ok
theorem open_vops {r : Reach} {b0 : Nat} {v : Value} {d : DataW H} {ps : List MemPlace} (hv : Value.okWide Try.prog w r b0 22 v) (hT : DataW.Trod enc Try.prog w base spare held 22 v d ps) : ∃ (a : Option Addr) (len cap : Nat) (g : Nat → VOp), v = .slice a len cap ∧ VOps w a len cap g := by
  obtain ⟨a, len, cap, rfl⟩ := okWide_slice Try.underlying22 hv
  obtain ⟨fuel, hf⟩ := hT
  obtain ⟨a', len', cap', g, e, h1, h2, h3, h4, h5⟩ := open_sl (s := 5) Try.underlying22 (by kernel_rfl) (by omega) ⟨0, 0, 0, 0, 0⟩ encV VOp.Ok (fun n cs' y hl hy => open_vop hl hy) hf
  simp [Value.cells] at e
  obtain ⟨rfl, rfl, rfl⟩ := e
  exact ⟨a, len, cap, g, rfl, h4, h5⟩
/-- a bool that came in -/
theorem open_vbool {r : Reach} {b0 : Nat} {v : Value} {d : DataW H} {ps : List MemPlace} (hv : Value.okWide Try.prog w r b0 4 v) (_hT : DataW.Trod enc Try.prog w base spare held 4 v d ps) : ∃ b : Bool, v = .bool b ∧ True := by
  obtain ⟨b, rfl⟩ := okWide_bool Try.underlying4 hv
  exact ⟨b, rfl, trivial⟩
/-- a cap that came in -/
theorem open_vcap {r : Reach} {b0 : Nat} {v : Value} {d : DataW H} {ps : List MemPlace} (hv : Value.okWide Try.prog w r b0 30 v) (hT : DataW.Trod enc Try.prog w base spare held 30 v d ps) : ∃ c r : Int, v = .agg #[.int .i64 c, .int .u8 r] ∧ 0 ≤ r ∧ r < 256 := by
  have hs := Try.underlying30
  obtain ⟨cs, rfl, hsz⟩ := okWide_struct hs hv
  rw [show Try.prog.cellsOf 30 = 2 by kernel_rfl] at hsz
  obtain ⟨l⟩ := cs
  match l, hsz with
  | [c0, c1], _ =>
    obtain ⟨fuel, hf⟩ := hT
    obtain ⟨c, r, rfl, rfl, h1⟩ := open_vcap0 (c0 := c0) (c1 := c1) (by simpa [Value.cells] using hf)
    exact ⟨c, r, rfl, h1⟩
end
end Go.Proofs.Ytimmjhegeagofac
