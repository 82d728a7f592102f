/- Channels and rows of accounts that came in. -/
import Derived.Test.YtlphombjejgbiaaXArg
import Derived.Test.YtlphombjejgbiaaXRow
namespace Go.Proofs.Ytlphombjejgbiaa
open Go.RowKit Go.ChangeShapes Go.WideShapes Go.Deep Go.Joins
set_option maxRecDepth 100000

section
variable {H : Type} {enc : TypeId × Value → H} {w : World} {base : Nat} {spare : Nat → Bool} {held : Bool}
/-- a lane's cells -/
theorem open_xl {n : Nat} {cs : List Value} {y : DataW H × List MemPlace} (hl : cs.length = 3) (h : DataW.trod enc Try.prog w base spare held n 94 cs = some y) : ∃ o : Xl, (∀ f, f < 3 → cs[f]? = some (encXl o f)) ∧ True := by
  match cs, hl, h with
  | [c0, c1, c2], _, h =>
    obtain ⟨xs, n, _, _, _, hlen, hf⟩ := DataW.trod_struct Try.underlying94 h
    match xs, hlen, hf with
    | [y0, y1, y2], _, hf =>
      have e1 : Try.prog.cellsOf 3 = 1 := by kernel_rfl
      have e2 : Try.prog.cellsOf 4 = 1 := by kernel_rfl
      obtain ⟨a0, rfl, _⟩ := uint_cell (v := c0) Try.underlying3 (by simpa [e1, e2] using hf 0 _ rfl)
      obtain ⟨a1, rfl, _⟩ := uint_cell (v := c1) Try.underlying3 (by simpa [e1, e2] using hf 1 _ rfl)
      obtain ⟨a2, rfl⟩ := ubool_cell (v := c2) Try.underlying4 (by simpa [e1, e2] using hf 2 _ rfl)
      refine ⟨⟨a0, a1, a2⟩, fun f hf => ?_, trivial⟩
      match f, hf with
      | 0, _ => rfl
      | 1, _ => rfl
      | 2, _ => rfl
/-- a receiver's cells -/
theorem open_xr {n : Nat} {cs : List Value} {y : DataW H × List MemPlace} (hl : cs.length = 2) (h : DataW.trod enc Try.prog w base spare held n 151 cs = some y) : ∃ o : Int × Bool, (∀ f, f < 2 → cs[f]? = some (match f with | 0 => Value.int .i64 o.1 | _ => .bool o.2)) ∧ True := by
  match cs, hl, h with
  | [c0, c1], _, h =>
    obtain ⟨xs, n, _, _, _, hlen, hf⟩ := DataW.trod_struct Try.underlying151 h
    match xs, hlen, hf with
    | [y0, y1], _, hf =>
      have e1 : Try.prog.cellsOf 3 = 1 := by kernel_rfl
      have e2 : Try.prog.cellsOf 4 = 1 := by kernel_rfl
      obtain ⟨a0, rfl, _⟩ := uint_cell (v := c0) Try.underlying3 (by simpa [e1, e2] using hf 0 _ rfl)
      obtain ⟨a1, rfl⟩ := ubool_cell (v := c1) Try.underlying4 (by simpa [e1, e2] using hf 1 _ rfl)
      refine ⟨⟨a0, a1⟩, fun f hf => ?_, trivial⟩
      match f, hf with
      | 0, _ => rfl
      | 1, _ => rfl
/-- a channel's cells -/
theorem open_xch {n : Nat} {cs : List Value} {y : DataW H × List MemPlace} (hl : cs.length = 3) (h : DataW.trod enc Try.prog w base spare held n 85 cs = some y) : ∃ c : Cw, (∀ f, f < 3 → cs[f]? = some (cwV c f)) ∧ (Rd w c.la c.ln 3 (fun i => encXl (c.f i)) ∧ c.ln ≤ c.lc) := by
  match cs, hl, h with
  | [c0, c1, c2], _, h =>
    obtain ⟨xs, n, _, _, _, hlen, hf⟩ := DataW.trod_struct Try.underlying85 h
    match xs, hlen, hf with
    | [y0, y1, y2], _, hf =>
      have e1 : Try.prog.cellsOf 3 = 1 := by kernel_rfl
      have e2 : Try.prog.cellsOf 82 = 1 := by kernel_rfl
      have e3 : Try.prog.cellsOf 83 = 1 := by kernel_rfl
      obtain ⟨a0, rfl, _⟩ := uint_cell (v := c0) Try.underlying3 (by simpa [e1, e2, e3] using hf 0 _ rfl)
      obtain ⟨a, len, cap, g, ex, h1, h2, h3, h4, _⟩ := open_sl (s := 3) (cs := [c1]) Try.underlying82 (by kernel_rfl) (by omega) (⟨0, 0, false⟩ : Xl) encXl (fun _ => True) (fun n cs' y hl hy => open_xl hl hy) (by simpa [e1, e2, e3] using hf 1 _ rfl)
      obtain ⟨a', len', cap', g', ey, _, _, _, _, _⟩ := open_sl (s := 2) (cs := [c2]) Try.underlying83 (by kernel_rfl) (by omega) ((0, false) : Int × Bool) (fun o f => match f with | 0 => Value.int .i64 o.1 | _ => .bool o.2) (fun _ => True) (fun n cs' y hl hy => open_xr hl hy) (by simpa [e1, e2, e3] using hf 2 _ rfl)
      simp at ex ey
      subst ex ey
      refine ⟨⟨a0, a, len, cap, a', len', cap', g⟩, fun f hf => ?_, h4, h1⟩
      match f, hf with
      | 0, _ => rfl
      | 1, _ => rfl
      | 2, _ => rfl
/-- channels that came in -/
theorem open_xchs {r : Reach} {b0 : Nat} {v : Value} {d : DataW H} {ps : List MemPlace} (hv : Value.okWide Try.prog w r b0 41 v) (hT : DataW.Trod enc Try.prog w base spare held 41 v d ps) : ∃ (a : Option Addr) (len cap : Nat) (C : Nat → Cw), v = .slice a len cap ∧ Chs w a len C ∧ len ≤ cap ∧ cap ≤ maxLen := by
  obtain ⟨a, len, cap, rfl⟩ := okWide_slice Try.underlying41 hv
  obtain ⟨fuel, hf⟩ := hT
  obtain ⟨a', len', cap', g, e, h1, h2, h3, h4, h5⟩ := open_sl (s := 3) Try.underlying41 (by kernel_rfl) (by omega) (⟨0, none, 0, 0, none, 0, 0, fun _ => ⟨0, 0, false⟩⟩ : Cw) cwV (fun c => Rd w c.la c.ln 3 (fun i => encXl (c.f i)) ∧ c.ln ≤ c.lc) (fun n cs' y hl hy => open_xch hl hy) hf
  simp [Value.cells] at e
  obtain ⟨rfl, rfl, rfl⟩ := e
  exact ⟨a, len, cap, g, rfl, ⟨h4, h5⟩, h1, h2⟩
/-- rows of accounts that came in -/
theorem open_xrws {r : Reach} {b0 : Nat} {v : Value} {d : DataW H} {ps : List MemPlace} (hv : Value.okWide Try.prog w r b0 42 v) (hT : DataW.Trod enc Try.prog w base spare held 42 v d ps) : ∃ (a : Option Addr) (len cap : Nat) (A : Nat → Aw), v = .slice a len cap ∧ Rws w a len A ∧ len ≤ cap ∧ cap ≤ maxLen := by
  obtain ⟨a, len, cap, rfl⟩ := okWide_slice Try.underlying42 hv
  obtain ⟨fuel, hf⟩ := hT
  obtain ⟨a', len', cap', g, e, h1, h2, h3, h4, h5⟩ := open_sl (s := 1) Try.underlying42 (by kernel_rfl) (by omega) (⟨none, 0, 0, fun _ => ac0⟩ : Aw) (fun x _ => awV x) (fun x => Rd w x.a x.n 3 (fun i => encAc (x.g i))) (fun n cs' y hl hy => by
    match cs', hl, hy with
    | [c], _, hy =>
      obtain ⟨a1, l1, c1, g1, ex, _, _, _, k4, _⟩ := open_sl (s := 3) (cs := [c]) Try.underlying86 (by kernel_rfl) (by omega) ac0 encAc (fun _ => True) (fun n cs' y hl hy => by
        match cs', hl, hy with
        | [d0, d1, d2], _, hy =>
          obtain ⟨o, rfl, rfl, rfl⟩ := open_xac0 hy
          exact ⟨o, fun f hf => by
            rcases (show f = 0 ∨ f = 1 ∨ f = 2 by omega) with rfl | rfl | rfl <;> rfl, trivial⟩) hy
      simp at ex
      subst ex
      exact ⟨⟨a1, l1, c1, g1⟩, fun f hf => by (obtain rfl : f = 0 := by omega); rfl, k4⟩) hf
  simp [Value.cells] at e
  obtain ⟨rfl, rfl, rfl⟩ := e
  exact ⟨a, len, cap, g, rfl, ⟨h4, h5⟩, h1, h2⟩
end
end Go.Proofs.Ytlphombjejgbiaa
