/- What is known of acts and bools that came in. -/
import Derived.Test.YtiaacjollcccaaaKAlive
import Derived.OpenShut
import Derived.Deep.Slices
import Derived.Deep.Grids
namespace Go.Proofs.Ytiaacjollcccaaa
open Go.RowKit Go.ChangeShapes Go.WideShapes Go.Deep

/-- the cells of a slice of bools -/
def BRow (w : World) (a : Option Addr) (len cap : Nat) (B : Nat → Bool) : Prop :=
  (∀ j, j < len → ∃ b off, a = some ⟨b, off, none⟩ ∧ w.cell? ⟨b, off + j, none⟩ = some (.bool (B j))) ∧ len ≤ cap ∧ cap ≤ maxLen
/-- the cells of a slice of acts -/
def ORow (w : World) (a : Option Addr) (len cap : Nat) (K I X : Nat → Int) : Prop :=
  (∀ j, j < len → ∃ b off, a = some ⟨b, off, none⟩ ∧ w.cell? ⟨b, off + j * 3, none⟩ = some (.int .i64 (K j)) ∧ w.cell? ⟨b, off + j * 3 + 1, none⟩ = some (.int .i64 (I j)) ∧ w.cell? ⟨b, off + j * 3 + 2, none⟩ = some (.int .i64 (X j))) ∧ len ≤ cap ∧ cap ≤ maxLen
theorem ORow.below {w w' : World} {a : Option Addr} {len cap : Nat} {K I X : Nat → Int} (h : ORow w a len cap K I X) (hb : Below w.heap.size w w') : ORow w' a len cap K I X :=
  ⟨fun j hj => by
    obtain ⟨b, off, e, h1, h2, h3⟩ := h.1 j hj
    have hlt := cell_lt h1
    exact ⟨b, off, e, (hb.cell (p := ⟨b, off + j * 3, none⟩) hlt).trans h1, (hb.cell (p := ⟨b, off + j * 3 + 1, none⟩) hlt).trans h2, (hb.cell (p := ⟨b, off + j * 3 + 2, none⟩) hlt).trans h3⟩, h.2⟩
theorem BRow.below {w w' : World} {a : Option Addr} {len cap : Nat} {B : Nat → Bool} (h : BRow w a len cap B) (hb : Below w.heap.size w w') : BRow w' a len cap B :=
  ⟨fun j hj => by
    obtain ⟨b, off, e, h1⟩ := h.1 j hj
    exact ⟨b, off, e, (hb.cell (p := ⟨b, off + j, none⟩) (cell_lt h1)).trans h1⟩, h.2⟩

theorem cell_spot {w : World} {a : Addr} {v : Value} (h : w.cell? a = some v) : a.spot = none := by
  unfold World.cell? at h
  split at h
  · by_cases hs : a.spot.isSome
    · simp [hs] at h
    · simpa using hs
  · cases h

section
variable {H : Type} {enc : TypeId × Value → H} {w : World} {base : Nat} {held : Bool}

theorem open_boolrow {r : Reach} {b0 : Nat} {v : Value} {d : DataW H} {ps : List MemPlace} (hv : Value.okWide Try.prog w r b0 49 v) (hT : DataW.Trod enc Try.prog w base (fun _ => true) held 49 v d ps) :
    ∃ (a : Option Addr) (len cap : Nat) (B : Nat → Bool), v = .slice a len cap ∧ BRow w a len cap B := by
  obtain ⟨a, len, cap, rfl⟩ := okWide_slice Try.underlying49 hv
  obtain ⟨fuel, hf⟩ := hT
  rcases open_bools Try.underlying49 Try.underlying4 (by kernel_rfl) hf with ⟨hcs, _⟩ | ⟨x, l, c, B, hcs, _, hl, hm, _, hcell⟩
  · simp [Value.cells] at hcs
    obtain ⟨rfl, rfl, rfl⟩ := hcs
    exact ⟨none, 0, 0, fun _ => false, rfl, fun j hj => absurd hj (by omega), Nat.le_refl _, Nat.zero_le _⟩
  · simp [Value.cells] at hcs
    obtain ⟨rfl, rfl, rfl⟩ := hcs
    refine ⟨_, _, _, B, rfl, fun j hj => ?_, hl, hm⟩
    have h1 := hcell j (by omega)
    have h2 : x.spot = none := cell_spot (a := x) (hcell 0 (by omega))
    obtain ⟨b, off, s⟩ := x
    simp only at h2
    subst h2
    rw [add_plain] at h1
    exact ⟨b, off, rfl, h1⟩

theorem open_op {r : Reach} {b0 : Nat} {v : Value} {d : DataW H} {ps : List MemPlace} {spare : Nat → Bool} (hv : Value.okWide Try.prog w r b0 33 v) (hT : DataW.Trod enc Try.prog w base spare held 33 v d ps) :
    ∃ k i x : Int, v = .agg #[.int .i64 k, .int .i64 i, .int .i64 x] ∧ True := by
  have hs := Try.underlying33
  obtain ⟨cs, rfl, hsz⟩ := okWide_struct hs hv
  rw [show Try.prog.cellsOf 33 = 3 by kernel_rfl] at hsz
  obtain ⟨l⟩ := cs
  match l, hsz with
  | [c0, c1, c2], _ =>
    obtain ⟨fuel, hf⟩ := hT
    obtain ⟨xs, n, _, _, _, hlen, hf⟩ := DataW.trod_struct hs hf
    match xs, hlen, hf with
    | [y0, y1, y2], _, hf =>
      obtain ⟨k, h0, _⟩ := DataW.trod_int Try.underlying3 (hf 0 _ rfl)
      obtain ⟨i, h1, _⟩ := DataW.trod_int Try.underlying3 (hf 1 _ rfl)
      obtain ⟨x, h2, _⟩ := DataW.trod_int Try.underlying3 (hf 2 _ rfl)
      simp [Value.cells, show Try.prog.cellsOf 3 = 1 by kernel_rfl] at h0 h1 h2
      subst h0 h1 h2
      exact ⟨k, i, x, rfl, trivial⟩

theorem open_bool1 {r : Reach} {b0 : Nat} {v : Value} {d : DataW H} {ps : List MemPlace} {spare : Nat → Bool} (hv : Value.okWide Try.prog w r b0 4 v) (_hT : DataW.Trod enc Try.prog w base spare held 4 v d ps) :
    ∃ b : Bool, v = .bool b ∧ True := by
  obtain ⟨b, rfl⟩ := okWide_bool Try.underlying4 hv
  exact ⟨b, rfl, trivial⟩

/-- the number in a cell -/
def numAt (w : World) (a : Addr) : Int := match w.cell? a with | some (.int _ n) => n | _ => 0

theorem open_ops {r : Reach} {b0 : Nat} {v : Value} {d : DataW H} {ps : List MemPlace} (hv : Value.okWide Try.prog w r b0 22 v) (hT : DataW.Trod enc Try.prog w base (fun _ => true) held 22 v d ps) :
    ∃ (a : Option Addr) (len cap : Nat) (K I X : Nat → Int), v = .slice a len cap ∧ ORow w a len cap K I X := by
  obtain ⟨a, len, cap, rfl⟩ := okWide_slice Try.underlying22 hv
  obtain ⟨fuel, hf⟩ := hT
  rcases open_slice Try.underlying22 hf with ⟨hcs, _⟩ | ⟨x, l, c, m, n, D, Pl, hcs, _, hl, hm, hmm, _, hx⟩
  · simp [Value.cells] at hcs
    obtain ⟨rfl, rfl, rfl⟩ := hcs
    exact ⟨none, 0, 0, fun _ => 0, fun _ => 0, fun _ => 0, rfl, fun j hj => absurd hj (by omega), Nat.le_refl _, Nat.zero_le _⟩
  · simp [Value.cells] at hcs
    obtain ⟨rfl, rfl, rfl⟩ := hcs
    refine ⟨_, _, _, fun j => numAt w (x.add (j * 3)), fun j => numAt w (x.add (j * 3 + 1)), fun j => numAt w (x.add (j * 3 + 2)), rfl, fun j hj => ?_, hl, hm⟩
    have each : ∀ j, j < len → ∃ k i z : Int, w.cell? ((x.add (j * 3)).add 0) = some (.int .i64 k) ∧ w.cell? ((x.add (j * 3)).add 1) = some (.int .i64 i) ∧ w.cell? ((x.add (j * 3)).add 2) = some (.int .i64 z) := by
      intro j hj
      obtain ⟨cs', h1, h2⟩ := hx j (by rw [hmm]; split <;> omega)
      rw [show Try.prog.cellsOf 33 = 3 by kernel_rfl] at h1
      obtain ⟨_, hlen, hcell⟩ := World.cells?_some h1
      match cs', hlen, hcell, h2 with
      | [c0, c1, c2], _, hcell, h2 =>
        obtain ⟨xs, n, _, _, _, hxl, hf⟩ := DataW.trod_struct Try.underlying33 h2
        obtain ⟨y0, y1, y2, rfl⟩ : ∃ y0 y1 y2, xs = [y0, y1, y2] := by
          match xs, hxl with
          | [y0, y1, y2], _ => exact ⟨y0, y1, y2, rfl⟩
        obtain ⟨k, g0, _⟩ := DataW.trod_int Try.underlying3 (hf 0 _ rfl)
        obtain ⟨i, g1, _⟩ := DataW.trod_int Try.underlying3 (hf 1 _ rfl)
        obtain ⟨z, g2, _⟩ := DataW.trod_int Try.underlying3 (hf 2 _ rfl)
        simp [show Try.prog.cellsOf 3 = 1 by kernel_rfl] at g0 g1 g2
        subst g0 g1 g2
        exact ⟨k, i, z, hcell 0 (by omega), hcell 1 (by omega), hcell 2 (by omega)⟩
    have h2 : x.spot = none := by
      obtain ⟨k, _, _, h0, _⟩ := each 0 (by omega)
      exact cell_spot (a := x) h0
    obtain ⟨k, i, z, e0, e1, e2⟩ := each j hj
    obtain ⟨b, off, s⟩ := x
    simp only at h2
    subst h2
    rw [add_plain, add_plain] at e0 e1 e2
    refine ⟨b, off, rfl, ?_, ?_, ?_⟩
    · show w.cell? _ = some (.int .i64 (numAt w _))
      rw [add_plain]; unfold numAt; rw [show w.cell? ⟨b, off + j * 3, none⟩ = some (.int .i64 k) from e0]
    · show w.cell? _ = some (.int .i64 (numAt w _))
      rw [add_plain]; unfold numAt; rw [show w.cell? ⟨b, off + (j * 3 + 1), none⟩ = some (.int .i64 i) from e1]; exact e1
    · show w.cell? _ = some (.int .i64 (numAt w _))
      rw [add_plain]; unfold numAt; rw [show w.cell? ⟨b, off + (j * 3 + 2), none⟩ = some (.int .i64 z) from e2]; exact e2
end

end Go.Proofs.Ytiaacjollcccaaa
