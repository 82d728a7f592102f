/- What is known of acts and of quotas that came in. -/
import Derived.Test.YtobpignlamekmaaAMem
import Derived.OpenShut
import Derived.Deep.Slices
import Derived.Deep.Grids
import Derived.Lib.SmallJoins
namespace Go.Proofs.Ytobpignlamekmaa
open Go.RowKit Go.ChangeShapes Go.WideShapes Go.Deep Go.Joins
set_option maxRecDepth 100000

def IsRow (k : IntKind) (w : World) (a : Option Addr) (len cap : Nat) (z : Nat → Int) : Prop :=
  Cells w k a len z ∧ (a = none → len = 0) ∧ len ≤ cap ∧ cap ≤ maxLen ∧ ∀ j, j < len → (Lit.int k (z j)).wf = true
theorem isRow_nil (k : IntKind) (w : World) : IsRow k w none 0 0 (fun _ => 0) :=
  ⟨fun j hj => absurd hj (by omega), fun _ => rfl, Nat.le_refl _, Nat.zero_le _, fun j hj => absurd hj (by omega)⟩
theorem isRow_some {k : IntKind} {w : World} {x : Addr} {l c : Nat} {zs : List Int} (hl : l ≤ c) (hm : c ≤ maxLen) (hz : zs.length = c)
    (hcell : ∀ i, i < zs.length → w.cell? (x.add i) = some (.int k (zs.getD i 0))) (hwz : ∀ n ∈ zs, (Lit.int k n).wf = true) : IsRow k w (some x) l c (fun j => zs.getD j 0) := by
  refine ⟨fun j hj => ?_, fun e => (by cases e), hl, hm, fun j hj => ?_⟩
  · obtain ⟨b, off, rfl, h⟩ := ints_at hcell (by omega)
    exact ⟨b, off, rfl, h j (by omega)⟩
  · have hj' : j < zs.length := by omega
    have e : zs.getD j 0 = zs[j] := by simp [List.getD, hj']
    show (Lit.int k (zs.getD j 0)).wf = true
    rw [e]
    exact hwz _ (List.getElem_mem hj')

theorem acell_spot {w : World} {a : Addr} {v : Value} (h : w.cell? a = some v) : a.spot = none := by
  unfold World.cell? at h
  split at h
  · by_cases hs : a.spot.isSome
    · simp [hs] at h
    · simpa using hs
  · cases h

/-- the cells of a slice of acts -/
def AOps (w : World) (a : Option Addr) (len cap : Nat) (K P N G X : Nat → Int) : Prop :=
  (∀ j, j < len → ∃ b off, a = some ⟨b, off, none⟩ ∧ w.cell? ⟨b, off + j * 5, none⟩ = some (.int .i64 (K j)) ∧ w.cell? ⟨b, off + j * 5 + 1, none⟩ = some (.int .i64 (P j)) ∧ w.cell? ⟨b, off + j * 5 + 2, none⟩ = some (.int .i64 (N j)) ∧ w.cell? ⟨b, off + j * 5 + 3, none⟩ = some (.int .u64 (G j)) ∧ w.cell? ⟨b, off + j * 5 + 4, none⟩ = some (.int .u64 (X j)) ∧ (0 ≤ X j ∧ X j < 18446744073709551616)) ∧ len ≤ cap ∧ cap ≤ maxLen
theorem AOps.below {w w' : World} {a : Option Addr} {len cap : Nat} {K P N G X : Nat → Int} (h : AOps w a len cap K P N G X) (hb : Below w.heap.size w w') : AOps w' a len cap K P N G X :=
  ⟨fun j hj => by
    obtain ⟨b, off, e, h0, h1, h2, h3, h4, h5⟩ := h.1 j hj
    have hlt := cell_lt h0
    exact ⟨b, off, e, (hb.cell (p := ⟨b, off + j * 5, none⟩) hlt).trans h0, (hb.cell (p := ⟨b, off + j * 5 + 1, none⟩) hlt).trans h1, (hb.cell (p := ⟨b, off + j * 5 + 2, none⟩) hlt).trans h2, (hb.cell (p := ⟨b, off + j * 5 + 3, none⟩) hlt).trans h3, (hb.cell (p := ⟨b, off + j * 5 + 4, none⟩) hlt).trans h4, h5⟩, h.2⟩

section
variable {H : Type} {enc : TypeId × Value → H} {w : World} {base : Nat} {spare : Nat → Bool} {held : Bool}

theorem aint_cell {t : TypeId} {k : IntKind} {n : Nat} {v : Value} {y : DataW H × List MemPlace} (ht : Try.prog.underlying t = some (.int k)) (h : DataW.trod enc Try.prog w base spare held n t [v] = some y) : ∃ x, v = .int k x ∧ (Lit.int k x).wf = true := by
  obtain ⟨a, e0, _, wa⟩ := DataW.trod_int ht h
  simp at e0
  exact ⟨a, e0, wa⟩

/-- an act's cells -/
theorem op_cells {n : Nat} {c0 c1 c2 c3 c4 : Value} {y : DataW H × List MemPlace} (h : DataW.trod enc Try.prog w base spare held n 38 [c0, c1, c2, c3, c4] = some y) :
    ∃ k p m g x : Int, c0 = .int .i64 k ∧ c1 = .int .i64 p ∧ c2 = .int .i64 m ∧ c3 = .int .u64 g ∧ c4 = .int .u64 x ∧ (0 ≤ x ∧ x < 18446744073709551616) := by
  obtain ⟨xs, n, _, _, _, hlen, hf⟩ := DataW.trod_struct Try.underlying38 h
  match xs, hlen, hf with
  | [y0, y1, y2, y3], _, hf =>
    have e1 : Try.prog.cellsOf 3 = 1 := by kernel_rfl
    have e2 : Try.prog.cellsOf 36 = 2 := by kernel_rfl
    have e3 : Try.prog.cellsOf 34 = 1 := by kernel_rfl
    obtain ⟨k, rfl, _⟩ := aint_cell (v := c0) Try.underlying3 (by simpa [e1, e2, e3] using hf 0 _ rfl)
    obtain ⟨p, rfl, _⟩ := aint_cell (v := c1) Try.underlying3 (by simpa [e1, e2, e3] using hf 1 _ rfl)
    have h2 : DataW.trod enc Try.prog w base spare held n 36 [c2, c3] = some y2 := by simpa [e1, e2, e3] using hf 2 _ rfl
    obtain ⟨x, rfl, wx⟩ := aint_cell (v := c4) Try.underlying34 (by simpa [e1, e2, e3] using hf 3 _ rfl)
    obtain ⟨xs, n, _, _, _, hlen, hg⟩ := DataW.trod_struct Try.underlying36 h2
    match xs, hlen, hg with
    | [z0, z1], _, hg =>
      obtain ⟨m, rfl, _⟩ := aint_cell (v := c2) Try.underlying3 (by simpa [e1, e2, e3] using hg 0 _ rfl)
      obtain ⟨g, rfl, _⟩ := aint_cell (v := c3) Try.underlying34 (by simpa [e1, e2, e3] using hg 1 _ rfl)
      have := bounds_u64 wx
      exact ⟨k, p, m, g, x, rfl, rfl, rfl, rfl, rfl, by omega⟩

theorem open_aop {r : Reach} {b0 : Nat} {v : Value} {d : DataW H} {ps : List MemPlace} (hv : Value.okWide Try.prog w r b0 38 v) (hT : DataW.Trod enc Try.prog w base spare held 38 v d ps) :
    ∃ k p m g x : Int, v = .agg #[.int .i64 k, .int .i64 p, .int .i64 m, .int .u64 g, .int .u64 x] ∧ (0 ≤ x ∧ x < 18446744073709551616) := by
  have hs := Try.underlying38
  obtain ⟨cs, rfl, hsz⟩ := okWide_struct hs hv
  rw [show Try.prog.cellsOf 38 = 5 by kernel_rfl] at hsz
  obtain ⟨l⟩ := cs
  match l, hsz with
  | [c0, c1, c2, c3, c4], _ =>
    obtain ⟨fuel, hf⟩ := hT
    obtain ⟨k, p, m, g, x, rfl, rfl, rfl, rfl, rfl, hx⟩ := op_cells (c0 := c0) (c1 := c1) (c2 := c2) (c3 := c3) (c4 := c4) hf
    exact ⟨k, p, m, g, x, rfl, hx⟩

/-- the number in a cell -/
def anumAt (w : World) (a : Addr) : Int := match w.cell? a with | some (.int _ n) => n | _ => 0
theorem anum_at {w : World} {a : Addr} {k : IntKind} {x : Int} (h : w.cell? a = some (.int k x)) : anumAt w a = x := by unfold anumAt; rw [h]

theorem open_aops {r : Reach} {b0 : Nat} {v : Value} {d : DataW H} {ps : List MemPlace} (hv : Value.okWide Try.prog w r b0 23 v) (hT : DataW.Trod enc Try.prog w base (fun _ => true) held 23 v d ps) :
    ∃ (a : Option Addr) (len cap : Nat) (K P N G X : Nat → Int), v = .slice a len cap ∧ AOps w a len cap K P N G X := by
  obtain ⟨a, len, cap, rfl⟩ := okWide_slice Try.underlying23 hv
  obtain ⟨fuel, hf⟩ := hT
  rcases open_slice Try.underlying23 hf with ⟨hcs, _⟩ | ⟨x, l, c, m, n, D, Pl, hcs, _, hl, hm, hmm, _, hx⟩
  · simp [Value.cells] at hcs
    obtain ⟨rfl, rfl, rfl⟩ := hcs
    exact ⟨none, 0, 0, fun _ => 0, fun _ => 0, fun _ => 0, fun _ => 0, fun _ => 0, rfl, fun j hj => absurd hj (by omega), Nat.le_refl _, Nat.zero_le _⟩
  · simp [Value.cells] at hcs
    obtain ⟨rfl, rfl, rfl⟩ := hcs
    refine ⟨_, _, _, fun j => anumAt w (x.add (j * 5)), fun j => anumAt w (x.add (j * 5 + 1)), fun j => anumAt w (x.add (j * 5 + 2)), fun j => anumAt w (x.add (j * 5 + 3)), fun j => anumAt w (x.add (j * 5 + 4)), rfl, fun j hj => ?_, hl, hm⟩
    have each : ∀ j, j < len → ∃ k p q g z : Int, w.cell? ((x.add (j * 5)).add 0) = some (.int .i64 k) ∧ w.cell? ((x.add (j * 5)).add 1) = some (.int .i64 p) ∧ w.cell? ((x.add (j * 5)).add 2) = some (.int .i64 q) ∧ w.cell? ((x.add (j * 5)).add 3) = some (.int .u64 g) ∧ w.cell? ((x.add (j * 5)).add 4) = some (.int .u64 z) ∧ (0 ≤ z ∧ z < 18446744073709551616) := by
      intro j hj
      obtain ⟨cs', h1, h2⟩ := hx j (by rw [hmm]; split <;> omega)
      rw [show Try.prog.cellsOf 38 = 5 by kernel_rfl] at h1
      obtain ⟨_, hlen, hcell⟩ := World.cells?_some h1
      match cs', hlen, hcell, h2 with
      | [c0, c1, c2, c3, c4], _, hcell, h2 =>
        obtain ⟨k, p, q, g, z, rfl, rfl, rfl, rfl, rfl, hz⟩ := op_cells h2
        exact ⟨k, p, q, g, z, hcell 0 (by omega), hcell 1 (by omega), hcell 2 (by omega), hcell 3 (by omega), hcell 4 (by omega), hz⟩
    have h2 : x.spot = none := by
      obtain ⟨k, _, _, _, _, h0, _⟩ := each 0 (by omega)
      exact acell_spot (a := x) h0
    obtain ⟨k, p, q, g, z, e0, e1, e2, e3, e4, hz⟩ := each j hj
    obtain ⟨b, off, s⟩ := x
    simp only at h2
    subst h2
    have add2 : ∀ i : Nat, ((⟨b, off, none⟩ : Addr).add (j * 5)).add i = ⟨b, off + j * 5 + i, none⟩ := fun i => by rw [add_plain, add_plain]
    have add1 : ∀ i : Nat, ((⟨b, off, none⟩ : Addr).add (j * 5 + i)) = ⟨b, off + j * 5 + i, none⟩ := fun i => by rw [add_plain, Nat.add_assoc]
    have add0 : ((⟨b, off, none⟩ : Addr).add (j * 5)) = ⟨b, off + j * 5, none⟩ := add_plain _ _ _
    rw [add2] at e0 e1 e2 e3 e4
    rw [Nat.add_zero] at e0
    refine ⟨b, off, rfl, ?_, ?_, ?_, ?_, ?_, ?_⟩
    · show _ = some (Value.int .i64 (anumAt w _))
      rw [add0, anum_at (x := k) e0]; exact e0
    · show _ = some (Value.int .i64 (anumAt w _))
      rw [add1, anum_at e1]; exact e1
    · show _ = some (Value.int .i64 (anumAt w _))
      rw [add1, anum_at e2]; exact e2
    · show _ = some (Value.int .u64 (anumAt w _))
      rw [add1, anum_at e3]; exact e3
    · show _ = some (Value.int .u64 (anumAt w _))
      rw [add1, anum_at e4]; exact e4
    · show 0 ≤ anumAt w _ ∧ anumAt w _ < _
      rw [add1, anum_at e4]; exact hz
end
end Go.Proofs.Ytobpignlamekmaa
