/- What is known of acts that came in (stage 8). -/
import Derived.Test.YtilahfomiofgcaaJMem
import Derived.OpenShut
import Derived.Deep.Slices
import Derived.Lib.SmallJoins
namespace Go.Proofs.Ytilahfomiofgcaa
open Go.RowKit Go.ChangeShapes Go.WideShapes Go.Deep Go.Joins
set_option maxRecDepth 100000

/-- an act -/
structure Jo where
  k : Int
  q : Int
  e : Int
  n : Int
  g : Int
  t : Int
  s : Int
def joV (o : Jo) : Value := .agg #[.int .i64 o.k, .int .u64 o.q, .int .u64 o.e, .int .i64 o.n, .int .u64 o.g, .int .i64 o.t, .int .i64 o.s]
def Jo.okq (o : Jo) : Prop := 0 ≤ o.q ∧ o.q < 18446744073709551616
theorem jcell_spot {w : World} {a : Addr} {v : Value} (h : w.cell? a = some v) : a.spot = none := by
  unfold World.cell? at h
  split at h
  · by_cases hs : a.spot.isSome
    · simp [hs] at h
    · simpa using hs
  · cases h
/-- an act's cells in memory -/
def JoAt (w : World) (b off : Nat) (o : Jo) : Prop := w.cell? ⟨b, off, none⟩ = some (.int .i64 o.k) ∧ w.cell? ⟨b, off + 1, none⟩ = some (.int .u64 o.q) ∧ w.cell? ⟨b, off + 2, none⟩ = some (.int .u64 o.e) ∧ w.cell? ⟨b, off + 3, none⟩ = some (.int .i64 o.n) ∧ w.cell? ⟨b, off + 4, none⟩ = some (.int .u64 o.g) ∧ w.cell? ⟨b, off + 5, none⟩ = some (.int .i64 o.t) ∧ w.cell? ⟨b, off + 6, none⟩ = some (.int .i64 o.s)
theorem JoAt.below {w w' : World} {b off : Nat} {o : Jo} (h : JoAt w b off o) (hb : Below w.heap.size w w') : JoAt w' b off o := by
  obtain ⟨h0, h1, h2, h3, h4, h5, h6⟩ := h
  have hl := cell_lt h0
  exact ⟨(hb.cell (p := ⟨b, off, none⟩) hl).trans h0, (hb.cell (p := ⟨b, off + 1, none⟩) hl).trans h1, (hb.cell (p := ⟨b, off + 2, none⟩) hl).trans h2, (hb.cell (p := ⟨b, off + 3, none⟩) hl).trans h3, (hb.cell (p := ⟨b, off + 4, none⟩) hl).trans h4, (hb.cell (p := ⟨b, off + 5, none⟩) hl).trans h5, (hb.cell (p := ⟨b, off + 6, none⟩) hl).trans h6⟩
/-- the cells of a slice of acts -/
def JOps (w : World) (a : Option Addr) (len cap : Nat) (f : Nat → Jo) : Prop :=
  (∀ j, j < len → ∃ b off, a = some ⟨b, off, none⟩ ∧ JoAt w b (off + j * 7) (f j) ∧ (f j).okq) ∧ len ≤ cap ∧ cap ≤ maxLen
theorem JOps.below {w w' : World} {a : Option Addr} {len cap : Nat} {f : Nat → Jo} (h : JOps w a len cap f) (hb : Below w.heap.size w w') : JOps w' a len cap f :=
  ⟨fun j hj => by
    obtain ⟨b, off, e, h0, h1⟩ := h.1 j hj
    exact ⟨b, off, e, h0.below hb, h1⟩, h.2⟩

section
variable {H : Type} {enc : TypeId × Value → H} {w : World} {base : Nat} {spare : Nat → Bool} {held : Bool}
theorem jint_cell {t : TypeId} {k : IntKind} {n : Nat} {v : Value} {y : DataW H × List MemPlace} (ht : Try.prog.underlying t = some (.int k)) (h : DataW.trod enc Try.prog w base spare held n t [v] = some y) : ∃ x, v = .int k x ∧ (Lit.int k x).wf = true := by
  obtain ⟨a, e0, _, wa⟩ := DataW.trod_int ht h
  simp at e0
  exact ⟨a, e0, wa⟩
theorem open_bool {r : Reach} {b0 : Nat} {v : Value} {d : DataW H} {ps : List MemPlace} (hv : Value.okWide Try.prog w r b0 4 v) (_ : DataW.Trod enc Try.prog w base spare held 4 v d ps) : ∃ b : Bool, v = .bool b ∧ True := by
  obtain ⟨b, rfl⟩ := okWide_bool Try.underlying4 hv
  exact ⟨b, rfl, trivial⟩
/-- an act's cells -/
theorem jop_cells {n : Nat} {c0 c1 c2 c3 c4 c5 c6 : Value} {y : DataW H × List MemPlace} (h : DataW.trod enc Try.prog w base spare held n 40 [c0, c1, c2, c3, c4, c5, c6] = some y) :
    ∃ o : Jo, c0 = .int .i64 o.k ∧ c1 = .int .u64 o.q ∧ c2 = .int .u64 o.e ∧ c3 = .int .i64 o.n ∧ c4 = .int .u64 o.g ∧ c5 = .int .i64 o.t ∧ c6 = .int .i64 o.s ∧ o.okq := by
  obtain ⟨xs, n, _, _, _, hlen, hf⟩ := DataW.trod_struct Try.underlying40 h
  match xs, hlen, hf with
  | [y0, y1, y2, y3], _, hf =>
    have e1 : Try.prog.cellsOf 3 = 1 := by kernel_rfl
    have e2 : Try.prog.cellsOf 36 = 2 := by kernel_rfl
    have e3 : Try.prog.cellsOf 22 = 1 := by kernel_rfl
    have e4 : Try.prog.cellsOf 34 = 2 := by kernel_rfl
    have e5 : Try.prog.cellsOf 38 = 2 := by kernel_rfl
    obtain ⟨k, rfl, _⟩ := jint_cell (v := c0) Try.underlying3 (by simpa [e1, e2, e3, e4, e5] using hf 0 _ rfl)
    have h1 : DataW.trod enc Try.prog w base spare held n 34 [c1, c2] = some y1 := by simpa [e1, e2, e3, e4, e5] using hf 1 _ rfl
    have h2 : DataW.trod enc Try.prog w base spare held n 36 [c3, c4] = some y2 := by simpa [e1, e2, e3, e4, e5] using hf 2 _ rfl
    have h3 : DataW.trod enc Try.prog w base spare held n 38 [c5, c6] = some y3 := by simpa [e1, e2, e3, e4, e5] using hf 3 _ rfl
    obtain ⟨xs, n1, _, _, _, hlen1, hg1⟩ := DataW.trod_struct Try.underlying34 h1
    obtain ⟨ys, n2, _, _, _, hlen2, hg2⟩ := DataW.trod_struct Try.underlying36 h2
    obtain ⟨zs, n3, _, _, _, hlen3, hg3⟩ := DataW.trod_struct Try.underlying38 h3
    match xs, hlen1, hg1, ys, hlen2, hg2, zs, hlen3, hg3 with
    | [x0, x1], _, hg1, [u0, u1], _, hg2, [z0, z1], _, hg3 =>
      obtain ⟨q, rfl, wq⟩ := jint_cell (v := c1) Try.underlying22 (by simpa [e1, e2, e3] using hg1 0 _ rfl)
      obtain ⟨e, rfl, _⟩ := jint_cell (v := c2) Try.underlying22 (by simpa [e1, e2, e3] using hg1 1 _ rfl)
      obtain ⟨m, rfl, _⟩ := jint_cell (v := c3) Try.underlying3 (by simpa [e1, e2, e3] using hg2 0 _ rfl)
      obtain ⟨g, rfl, _⟩ := jint_cell (v := c4) Try.underlying22 (by simpa [e1, e2, e3] using hg2 1 _ rfl)
      obtain ⟨t, rfl, _⟩ := jint_cell (v := c5) Try.underlying3 (by simpa [e1, e2, e3] using hg3 0 _ rfl)
      obtain ⟨s, rfl, _⟩ := jint_cell (v := c6) Try.underlying3 (by simpa [e1, e2, e3] using hg3 1 _ rfl)
      have := bounds_u64 wq
      exact ⟨⟨k, q, e, m, g, t, s⟩, rfl, rfl, rfl, rfl, rfl, rfl, rfl, by show 0 ≤ q ∧ q < _; omega⟩
theorem open_lop {r : Reach} {b0 : Nat} {v : Value} {d : DataW H} {ps : List MemPlace} (hv : Value.okWide Try.prog w r b0 40 v) (hT : DataW.Trod enc Try.prog w base spare held 40 v d ps) :
    ∃ o : Jo, v = joV o ∧ o.okq := by
  have hs := Try.underlying40
  obtain ⟨cs, rfl, hsz⟩ := okWide_struct hs hv
  rw [show Try.prog.cellsOf 40 = 7 by kernel_rfl] at hsz
  obtain ⟨l⟩ := cs
  match l, hsz with
  | [c0, c1, c2, c3, c4, c5, c6], _ =>
    obtain ⟨fuel, hf⟩ := hT
    obtain ⟨o, rfl, rfl, rfl, rfl, rfl, rfl, rfl, hx⟩ := jop_cells (c0 := c0) (c1 := c1) (c2 := c2) (c3 := c3) (c4 := c4) (c5 := c5) (c6 := c6) hf
    exact ⟨o, rfl, hx⟩
/-- the number in a cell -/
def jnumAt (w : World) (a : Addr) : Int := match w.cell? a with | some (.int _ n) => n | _ => 0
theorem jnum_at {w : World} {a : Addr} {k : IntKind} {x : Int} (h : w.cell? a = some (.int k x)) : jnumAt w a = x := by unfold jnumAt; rw [h]
def joAtN (w : World) (x : Addr) (j : Nat) : Jo := ⟨jnumAt w ((x.add (j * 7)).add 0), jnumAt w ((x.add (j * 7)).add 1), jnumAt w ((x.add (j * 7)).add 2), jnumAt w ((x.add (j * 7)).add 3), jnumAt w ((x.add (j * 7)).add 4), jnumAt w ((x.add (j * 7)).add 5), jnumAt w ((x.add (j * 7)).add 6)⟩
theorem open_lops {r : Reach} {b0 : Nat} {v : Value} {d : DataW H} {ps : List MemPlace} (hv : Value.okWide Try.prog w r b0 23 v) (hT : DataW.Trod enc Try.prog w base (fun _ => true) held 23 v d ps) :
    ∃ (a : Option Addr) (len cap : Nat) (f : Nat → Jo), v = .slice a len cap ∧ JOps w a len cap f := by
  obtain ⟨a, len, cap, rfl⟩ := okWide_slice Try.underlying23 hv
  obtain ⟨fuel, hf⟩ := hT
  rcases open_slice Try.underlying23 hf with ⟨hcs, _⟩ | ⟨x, l, c, m, n, D, Pl, hcs, _, hl, hm, hmm, _, hx⟩
  · simp [Value.cells] at hcs
    obtain ⟨rfl, rfl, rfl⟩ := hcs
    exact ⟨none, 0, 0, fun _ => ⟨0, 0, 0, 0, 0, 0, 0⟩, rfl, fun j hj => absurd hj (by omega), Nat.le_refl _, Nat.zero_le _⟩
  · simp [Value.cells] at hcs
    obtain ⟨rfl, rfl, rfl⟩ := hcs
    refine ⟨_, _, _, fun j => joAtN w x j, rfl, fun j hj => ?_, hl, hm⟩
    have each : ∀ j, j < len → ∃ o : Jo, w.cell? ((x.add (j * 7)).add 0) = some (.int .i64 o.k) ∧ w.cell? ((x.add (j * 7)).add 1) = some (.int .u64 o.q) ∧ w.cell? ((x.add (j * 7)).add 2) = some (.int .u64 o.e) ∧ w.cell? ((x.add (j * 7)).add 3) = some (.int .i64 o.n) ∧ w.cell? ((x.add (j * 7)).add 4) = some (.int .u64 o.g) ∧ w.cell? ((x.add (j * 7)).add 5) = some (.int .i64 o.t) ∧ w.cell? ((x.add (j * 7)).add 6) = some (.int .i64 o.s) ∧ o.okq := by
      intro j hj
      obtain ⟨cs', h1, h2⟩ := hx j (by rw [hmm]; split <;> omega)
      rw [show Try.prog.cellsOf 40 = 7 by kernel_rfl] at h1
      obtain ⟨_, hlen, hcell⟩ := World.cells?_some h1
      match cs', hlen, hcell, h2 with
      | [c0, c1, c2, c3, c4, c5, c6], _, hcell, h2 =>
        obtain ⟨o, rfl, rfl, rfl, rfl, rfl, rfl, rfl, hz⟩ := jop_cells h2
        exact ⟨o, hcell 0 (by omega), hcell 1 (by omega), hcell 2 (by omega), hcell 3 (by omega), hcell 4 (by omega), hcell 5 (by omega), hcell 6 (by omega), hz⟩
    have h2 : x.spot = none := by
      obtain ⟨o, h0, _⟩ := each 0 (by omega)
      exact jcell_spot (a := x) h0
    obtain ⟨o, e0, e1, e2, e3, e4, e5, e6, hz⟩ := each j hj
    obtain ⟨b, off, s⟩ := x
    simp only at h2
    subst h2
    have add2 : ∀ i : Nat, ((⟨b, off, none⟩ : Addr).add (j * 7)).add i = ⟨b, off + j * 7 + i, none⟩ := fun i => by rw [add_plain, add_plain]
    rw [add2] at e0 e1 e2 e3 e4 e5 e6
    rw [Nat.add_zero] at e0
    have eo : joAtN w ⟨b, off, none⟩ j = o := by
      unfold joAtN
      rw [add2, add2, add2, add2, add2, add2, add2, Nat.add_zero, jnum_at e0, jnum_at e1, jnum_at e2, jnum_at e3, jnum_at e4, jnum_at e5, jnum_at e6]
    refine ⟨b, off, rfl, ?_, ?_⟩
    · simp only [eo]; exact ⟨e0, e1, e2, e3, e4, e5, e6⟩
    · simp only [eo]; exact hz
end
end Go.Proofs.Ytilahfomiofgcaa
