/- Records that came in. -/
import Derived.Test.YtcfmbppnghlkaaaUArg
import Derived.Test.YtcfmbppnghlkaaaYSame
namespace Go.Proofs.Ytcfmbppnghlkaaa
open Go.RowKit Go.ChangeShapes Go.WideShapes Go.Deep Go.Joins
set_option maxRecDepth 100000

theorem rc_i64 {x : Int} (h : (Lit.int .i64 x).wf = true) : -9223372036854775808 ≤ x ∧ x < 9223372036854775808 := by
  have := bounds_i64 h
  omega
section
variable {H : Type} {enc : TypeId × Value → H} {w : World} {base : Nat} {spare : Nat → Bool} {held : Bool}
/-- a record's cells -/
theorem open_rec0 {n : Nat} {cs : List Value} {y : DataW H × List MemPlace} (hl : cs.length = 4) (h : DataW.trod enc Try.prog w base spare held n 38 cs = some y) : ∃ r : Rc, cs = encR r ∧ r.Ok := by
  match cs, hl, h with
  | [c0, c1, c2, c3], _, h =>
    obtain ⟨xs, n, _, _, _, hlen, hf⟩ := DataW.trod_struct Try.underlying38 h
    match xs, hlen, hf with
    | [y0, y1, y2], _, hf =>
      have e1 : Try.prog.cellsOf 3 = 1 := by kernel_rfl
      have e2 : Try.prog.cellsOf 24 = 1 := by kernel_rfl
      have e3 : Try.prog.cellsOf 26 = 2 := by kernel_rfl
      have h0 : DataW.trod enc Try.prog w base spare held n 26 [c0, c1] = some y0 := by simpa [e1, e2, e3] using hf 0 _ rfl
      obtain ⟨zs, n', _, _, _, hlen', hf'⟩ := DataW.trod_struct Try.underlying26 h0
      match zs, hlen', hf' with
      | [z0, z1], _, hf' =>
        obtain ⟨a0, rfl, w0⟩ := uint_cell (v := c0) Try.underlying3 (by simpa [e1, e2, e3] using hf' 0 _ rfl)
        obtain ⟨a1, rfl, w1⟩ := uint_cell (v := c1) Try.underlying3 (by simpa [e1, e2, e3] using hf' 1 _ rfl)
        obtain ⟨a2, rfl, _⟩ := uint_cell (v := c2) Try.underlying3 (by simpa [e1, e2, e3] using hf 1 _ rfl)
        obtain ⟨a3, rfl, _⟩ := uint_cell (v := c3) Try.underlying24 (by simpa [e1, e2, e3] using hf 2 _ rfl)
        exact ⟨⟨a0, a1, a2, a3⟩, rfl, rc_i64 w0, rc_i64 w1⟩
/-- a record that came in -/
theorem open_rec {r : Reach} {b0 : Nat} {v : Value} {d : DataW H} {ps : List MemPlace} (hv : Value.okWide Try.prog w r b0 38 v) (hT : DataW.Trod enc Try.prog w base spare held 38 v d ps) : ∃ t s g p : Int, v = .agg #[.int .i64 t, .int .i64 s, .int .i64 g, .int .u64 p] ∧ Rc.Ok ⟨t, s, g, p⟩ := by
  have hs := Try.underlying38
  obtain ⟨cs, rfl, hsz⟩ := okWide_struct hs hv
  rw [show Try.prog.cellsOf 38 = 4 by kernel_rfl] at hsz
  obtain ⟨l⟩ := cs
  obtain ⟨fuel, hf⟩ := hT
  obtain ⟨q, rfl, h1⟩ := open_rec0 (cs := l) (by simpa using hsz) (by simpa [Value.cells] using hf)
  exact ⟨q.t, q.s, q.g, q.p, rfl, h1⟩
def encRf (r : Rc) (f : Nat) : Value := (encR r).getD f undef
/-- records that came in -/
def RcRow (w : World) (a : Option Addr) (len _cap : Nat) (g : Nat → Rc) : Prop := Rd w a len 4 (fun j => encRf (g j)) ∧ ∀ j, j < len → (g j).Ok
theorem open_recs {r : Reach} {b0 : Nat} {v : Value} {d : DataW H} {ps : List MemPlace} (hv : Value.okWide Try.prog w r b0 23 v) (hT : DataW.Trod enc Try.prog w base spare held 23 v d ps) : ∃ (a : Option Addr) (len cap : Nat) (g : Nat → Rc), v = .slice a len cap ∧ RcRow w a len cap g := by
  obtain ⟨a, len, cap, rfl⟩ := okWide_slice Try.underlying23 hv
  obtain ⟨fuel, hf⟩ := hT
  obtain ⟨a', len', cap', g, e, h1, h2, h3, h4, h5⟩ := open_sl (s := 4) Try.underlying23 (by kernel_rfl) (by omega) ⟨0, 0, 0, 0⟩ encRf Rc.Ok (fun n cs' y hl hy => by
    obtain ⟨q, rfl, hq⟩ := open_rec0 hl hy
    refine ⟨q, fun f hf => ?_, hq⟩
    match f, hf with
    | 0, _ => rfl
    | 1, _ => rfl
    | 2, _ => rfl
    | 3, _ => rfl) hf
  simp [Value.cells] at e
  obtain ⟨rfl, rfl, rfl⟩ := e
  exact ⟨a, len, cap, g, rfl, h4, h5⟩
/-- rooms that came in -/
def RmRow (w : World) (a : Option Addr) (len cap : Nat) (z : Nat → Int) : Prop := Cells w .i64 a len z ∧ len ≤ cap
theorem open_rooms {r : Reach} {b0 : Nat} {v : Value} {d : DataW H} {ps : List MemPlace} (hv : Value.okWide Try.prog w r b0 22 v) (hT : DataW.Trod enc Try.prog w base spare held 22 v d ps) : ∃ (a : Option Addr) (len cap : Nat) (g : Nat → Int), v = .slice a len cap ∧ RmRow w a len cap g := by
  obtain ⟨a, len, cap, rfl⟩ := okWide_slice Try.underlying22 hv
  obtain ⟨fuel, hf⟩ := hT
  obtain ⟨a', len', cap', g, e, h1, h2, h3, h4, h5⟩ := open_sl (s := 1) Try.underlying22 (by kernel_rfl) (by omega) (0 : Int) (fun x _ => Value.int .i64 x) (fun _ => True) (fun n cs' y hl hy => by
    match cs', hl, hy with
    | [c0], _, hy =>
      obtain ⟨x, rfl, _⟩ := uint_cell (v := c0) Try.underlying3 hy
      refine ⟨x, fun f hf => ?_, trivial⟩
      match f, hf with
      | 0, _ => rfl) hf
  simp [Value.cells] at e
  obtain ⟨rfl, rfl, rfl⟩ := e
  refine ⟨a, len, cap, g, rfl, fun j hj => ?_, h1⟩
  obtain ⟨b, off, e, hc⟩ := h4 j hj
  have := hc 0 (by decide)
  rw [Nat.mul_one, Nat.add_zero] at this
  exact ⟨b, off, e, this⟩
/-- the same, and nil has no capacity -/
def RmRow0 (w : World) (a : Option Addr) (len cap : Nat) (z : Nat → Int) : Prop := RmRow w a len cap z ∧ (a = none → cap = 0)
theorem open_rooms0 {r : Reach} {b0 : Nat} {v : Value} {d : DataW H} {ps : List MemPlace} (hv : Value.okWide Try.prog w r b0 22 v) (hT : DataW.Trod enc Try.prog w base spare held 22 v d ps) : ∃ (a : Option Addr) (len cap : Nat) (g : Nat → Int), v = .slice a len cap ∧ RmRow0 w a len cap g := by
  obtain ⟨a, len, cap, g, rfl, h⟩ := open_rooms hv hT
  refine ⟨a, len, cap, g, rfl, h, ?_⟩
  obtain ⟨fuel, hf⟩ := hT
  obtain ⟨a', len', cap', g', e, _, _, h3, _⟩ := open_sl (s := 1) Try.underlying22 (by kernel_rfl) (by omega) (0 : Int) (fun x _ => Value.int .i64 x) (fun _ => True) (fun n cs' y hl hy => by
    match cs', hl, hy with
    | [c0], _, hy =>
      obtain ⟨x, rfl, _⟩ := uint_cell (v := c0) Try.underlying3 hy
      refine ⟨x, fun f hf => ?_, trivial⟩
      match f, hf with
      | 0, _ => rfl) hf
  simp [Value.cells] at e
  obtain ⟨rfl, rfl, rfl⟩ := e
  exact fun ha => (h3 ha).2
/-- the same, and how long it may be -/
def RcRow0 (w : World) (a : Option Addr) (len cap : Nat) (g : Nat → Rc) : Prop := RcRow w a len cap g ∧ len ≤ maxLen
theorem open_recs0 {r : Reach} {b0 : Nat} {v : Value} {d : DataW H} {ps : List MemPlace} (hv : Value.okWide Try.prog w r b0 23 v) (hT : DataW.Trod enc Try.prog w base spare held 23 v d ps) : ∃ (a : Option Addr) (len cap : Nat) (g : Nat → Rc), v = .slice a len cap ∧ RcRow0 w a len cap g := by
  obtain ⟨a, len, cap, g, rfl, h⟩ := open_recs hv hT
  refine ⟨a, len, cap, g, rfl, h, ?_⟩
  obtain ⟨fuel, hf⟩ := hT
  obtain ⟨a', len', cap', g', e, h1, h2, _⟩ := open_sl (s := 4) Try.underlying23 (by kernel_rfl) (by omega) ⟨0, 0, 0, 0⟩ encRf Rc.Ok (fun n cs' y hl hy => by
    obtain ⟨q, rfl, hq⟩ := open_rec0 hl hy
    refine ⟨q, fun f hf => ?_, hq⟩
    match f, hf with
    | 0, _ => rfl
    | 1, _ => rfl
    | 2, _ => rfl
    | 3, _ => rfl) hf
  simp [Value.cells] at e
  obtain ⟨rfl, rfl, rfl⟩ := e
  omega
/-- a stamp that came in -/
theorem open_stamp {r : Reach} {b0 : Nat} {v : Value} {d : DataW H} {ps : List MemPlace} (hv : Value.okWide Try.prog w r b0 26 v) (hT : DataW.Trod enc Try.prog w base spare held 26 v d ps) : ∃ t s : Int, v = .agg #[.int .i64 t, .int .i64 s] ∧ Rc.Ok ⟨t, s, 0, 0⟩ := by
  have hs := Try.underlying26
  obtain ⟨cs, rfl, hsz⟩ := okWide_struct hs hv
  rw [show Try.prog.cellsOf 26 = 2 by kernel_rfl] at hsz
  obtain ⟨l⟩ := cs
  match l, hsz with
  | [c0, c1], _ =>
    obtain ⟨fuel, hf⟩ := hT
    have e1 : Try.prog.cellsOf 3 = 1 := by kernel_rfl
    obtain ⟨xs, n, _, _, _, hlen, hf⟩ := DataW.trod_struct hs hf
    match xs, hlen, hf with
    | [y0, y1], _, hf =>
      obtain ⟨t, rfl, w0⟩ := uint_cell (v := c0) Try.underlying3 (by simpa [Value.cells, e1] using hf 0 _ rfl)
      obtain ⟨s, rfl, w1⟩ := uint_cell (v := c1) Try.underlying3 (by simpa [Value.cells, e1] using hf 1 _ rfl)
      exact ⟨t, s, rfl, rc_i64 w0, rc_i64 w1⟩
end
end Go.Proofs.Ytcfmbppnghlkaaa
