/- What is known of acts and things that came in (stage 9). (Written by wip/tools/erow.py.) -/
import Derived.Test.YtafcgbahdfaiiaaEDo
import Derived.OpenShut
import Derived.Deep.Slices
import Derived.Lib.SmallJoins
namespace Go.Proofs.Ytafcgbahdfaiiaa
open Go.RowKit Go.ChangeShapes Go.WideShapes Go.Deep Go.Joins
set_option maxRecDepth 100000

theorem wf_i8 {x : Int} (h : (Lit.int .i8 x).wf = true) : -128 ≤ x ∧ x ≤ 127 := by
  have e : IntKind.i8.max = 127 := by decide
  have e' : IntKind.i8.min = -128 := by decide
  simp [Lit.wf, e, e'] at h
  omega
theorem ecell_spot {w : World} {a : Addr} {v : Value} (h : w.cell? a = some v) : a.spot = none := by
  unfold World.cell? at h
  split at h
  · by_cases hs : a.spot.isSome
    · simp [hs] at h
    · simpa using hs
  · cases h
/-- a thing that came in -/
structure Et where
  k : Int
  m : Int
def Et.okk (o : Et) : Prop := -128 ≤ o.k ∧ o.k ≤ 127
/-- the number in a cell -/
def enumAt (w : World) (a : Addr) : Int := match w.cell? a with | some (.int _ n) => n | _ => 0
theorem enum_at {w : World} {a : Addr} {k : IntKind} {x : Int} (h : w.cell? a = some (.int k x)) : enumAt w a = x := by unfold enumAt; rw [h]
section
variable {H : Type} {enc : TypeId × Value → H} {w : World} {base : Nat} {spare : Nat → Bool} {held : Bool}
theorem eint_cell {t : TypeId} {k : IntKind} {n : Nat} {v : Value} {y : DataW H × List MemPlace} (ht : Try.prog.underlying t = some (.int k)) (h : DataW.trod enc Try.prog w base spare held n t [v] = some y) : ∃ x, v = .int k x ∧ (Lit.int k x).wf = true := by
  obtain ⟨a, e0, _, wa⟩ := DataW.trod_int ht h
  simp at e0
  exact ⟨a, e0, wa⟩
theorem eth_cells {n : Nat} {c0 c1 : Value} {y : DataW H × List MemPlace} (h : DataW.trod enc Try.prog w base spare held n 27 [c0, c1] = some y) : ∃ o : Et, c0 = .int .i8 o.k ∧ c1 = .int .i64 o.m ∧ o.okk := by
  have e1 : Try.prog.cellsOf 3 = 1 := by kernel_rfl
  have e2 : Try.prog.cellsOf 25 = 1 := by kernel_rfl
  obtain ⟨xs, n1, _, _, _, hlen1, hg1⟩ := DataW.trod_struct Try.underlying27 h
  match xs, hlen1, hg1 with
  | [x0, x1], _, hg1 =>
    obtain ⟨k, rfl, wk⟩ := eint_cell (v := c0) Try.underlying25 (by simpa [e1, e2] using hg1 0 _ rfl)
    obtain ⟨m, rfl, _⟩ := eint_cell (v := c1) Try.underlying3 (by simpa [e1, e2] using hg1 1 _ rfl)
    exact ⟨⟨k, m⟩, rfl, rfl, wf_i8 wk⟩
theorem eop_cells {n : Nat} {c0 c1 c2 c3 c4 : Value} {y : DataW H × List MemPlace} (h : DataW.trod enc Try.prog w base spare held n 35 [c0, c1, c2, c3, c4] = some y) :
    ∃ o : Eo, c0 = .int .i64 o.kd ∧ c1 = .int .i8 o.k ∧ c2 = .int .i64 o.m ∧ c3 = .int .i64 o.id ∧ c4 = .int .i64 o.n ∧ o.okk := by
  have e1 : Try.prog.cellsOf 3 = 1 := by kernel_rfl
  have e2 : Try.prog.cellsOf 27 = 2 := by kernel_rfl
  obtain ⟨xs, n, _, _, _, hlen, hf⟩ := DataW.trod_struct Try.underlying35 h
  match xs, hlen, hf with
  | [y0, y1, y2, y3], _, hf =>
    obtain ⟨kd, rfl, _⟩ := eint_cell (v := c0) Try.underlying3 (by simpa [e1, e2] using hf 0 _ rfl)
    have h1 : DataW.trod enc Try.prog w base spare held n 27 [c1, c2] = some y1 := by simpa [e1, e2] using hf 1 _ rfl
    obtain ⟨th, rfl, rfl, hth⟩ := eth_cells h1
    obtain ⟨id, rfl, wid⟩ := eint_cell (v := c3) Try.underlying3 (by simpa [e1, e2] using hf 2 _ rfl)
    obtain ⟨nn, rfl, _⟩ := eint_cell (v := c4) Try.underlying3 (by simpa [e1, e2] using hf 3 _ rfl)
    exact ⟨⟨kd, th.k, th.m, id, nn⟩, rfl, rfl, rfl, rfl, rfl, hth, wid⟩
theorem open_eop {r : Reach} {b0 : Nat} {v : Value} {d : DataW H} {ps : List MemPlace} (hv : Value.okWide Try.prog w r b0 35 v) (hT : DataW.Trod enc Try.prog w base spare held 35 v d ps) :
    ∃ o : Eo, v = eoV o ∧ o.okk := by
  have hs := Try.underlying35
  obtain ⟨cs, rfl, hsz⟩ := okWide_struct hs hv
  rw [show Try.prog.cellsOf 35 = 5 by kernel_rfl] at hsz
  obtain ⟨l⟩ := cs
  match l, hsz with
  | [c0, c1, c2, c3, c4], _ =>
    obtain ⟨fuel, hf⟩ := hT
    obtain ⟨o, rfl, rfl, rfl, rfl, rfl, hx⟩ := eop_cells (c0 := c0) (c1 := c1) (c2 := c2) (c3 := c3) (c4 := c4) hf
    exact ⟨o, rfl, hx⟩
end

/-- the cells of one -/
def EoAt (w : World) (b off : Nat) (o : Eo) : Prop := w.cell? ⟨b, off, none⟩ = some (.int .i64 o.kd) ∧ w.cell? ⟨b, off + 1, none⟩ = some (.int .i8 o.k) ∧ w.cell? ⟨b, off + 2, none⟩ = some (.int .i64 o.m) ∧ w.cell? ⟨b, off + 3, none⟩ = some (.int .i64 o.id) ∧ w.cell? ⟨b, off + 4, none⟩ = some (.int .i64 o.n)
theorem EoAt.below {w w' : World} {b off : Nat} {o : Eo} (h : EoAt w b off o) (hb : Below w.heap.size w w') : EoAt w' b off o := by
  obtain ⟨h0, h1, h2, h3, h4⟩ := h
  have hl := cell_lt h0
  exact ⟨(hb.cell (p := ⟨b, off, none⟩) hl).trans h0, (hb.cell (p := ⟨b, off + 1, none⟩) hl).trans h1, (hb.cell (p := ⟨b, off + 2, none⟩) hl).trans h2, (hb.cell (p := ⟨b, off + 3, none⟩) hl).trans h3, (hb.cell (p := ⟨b, off + 4, none⟩) hl).trans h4⟩
/-- a slice of them -/
def EoS (w : World) (a : Option Addr) (len cap : Nat) (f : Nat → Eo) : Prop :=
  (∀ j, j < len → ∃ b off, a = some ⟨b, off, none⟩ ∧ EoAt w b (off + j * 5) (f j) ∧ (f j).okk) ∧ len ≤ cap ∧ cap ≤ maxLen
theorem EoS.below {w w' : World} {a : Option Addr} {len cap : Nat} {f : Nat → Eo} (h : EoS w a len cap f) (hb : Below w.heap.size w w') : EoS w' a len cap f :=
  ⟨fun j hj => by
    obtain ⟨b, off, e, h0, h1⟩ := h.1 j hj
    exact ⟨b, off, e, h0.below hb, h1⟩, h.2⟩
section
variable {H : Type} {enc : TypeId × Value → H} {w : World} {base : Nat} {held : Bool}
def eopAtN (w : World) (x : Addr) (j : Nat) : Eo := ⟨enumAt w ((x.add (j * 5)).add 0), enumAt w ((x.add (j * 5)).add 1), enumAt w ((x.add (j * 5)).add 2), enumAt w ((x.add (j * 5)).add 3), enumAt w ((x.add (j * 5)).add 4)⟩
theorem open_eops {r : Reach} {b0 : Nat} {v : Value} {d : DataW H} {ps : List MemPlace} (hv : Value.okWide Try.prog w r b0 22 v) (hT : DataW.Trod enc Try.prog w base (fun _ => true) held 22 v d ps) :
    ∃ (a : Option Addr) (len cap : Nat) (f : Nat → Eo), v = .slice a len cap ∧ EoS w a len cap f := by
  obtain ⟨a, len, cap, rfl⟩ := okWide_slice Try.underlying22 hv
  obtain ⟨fuel, hf⟩ := hT
  rcases open_slice Try.underlying22 hf with ⟨hcs, _⟩ | ⟨x, l, c, m, n, D, Pl, hcs, _, hl, hm, hmm, _, hx⟩
  · simp [Value.cells] at hcs
    obtain ⟨rfl, rfl, rfl⟩ := hcs
    exact ⟨none, 0, 0, fun _ => ⟨0, 0, 0, 0, 0⟩, rfl, fun j hj => absurd hj (by omega), Nat.le_refl _, Nat.zero_le _⟩
  · simp [Value.cells] at hcs
    obtain ⟨rfl, rfl, rfl⟩ := hcs
    refine ⟨_, _, _, fun j => eopAtN w x j, rfl, fun j hj => ?_, hl, hm⟩
    have each : ∀ j, j < len → ∃ o : Eo, w.cell? ((x.add (j * 5)).add 0) = some (.int .i64 o.kd) ∧ w.cell? ((x.add (j * 5)).add 1) = some (.int .i8 o.k) ∧ w.cell? ((x.add (j * 5)).add 2) = some (.int .i64 o.m) ∧ w.cell? ((x.add (j * 5)).add 3) = some (.int .i64 o.id) ∧ w.cell? ((x.add (j * 5)).add 4) = some (.int .i64 o.n) ∧ o.okk := by
      intro j hj
      obtain ⟨cs', h1, h2⟩ := hx j (by rw [hmm]; split <;> omega)
      rw [show Try.prog.cellsOf 35 = 5 by kernel_rfl] at h1
      obtain ⟨_, hlen, hcell⟩ := World.cells?_some h1
      match cs', hlen, hcell, h2 with
      | [c0, c1, c2, c3, c4], _, hcell, h2 =>
        obtain ⟨o, rfl, rfl, rfl, rfl, rfl, hz⟩ := eop_cells h2
        exact ⟨o, hcell 0 (by omega), hcell 1 (by omega), hcell 2 (by omega), hcell 3 (by omega), hcell 4 (by omega), hz⟩
    have h2 : x.spot = none := by
      obtain ⟨o, h0, _⟩ := each 0 (by omega)
      exact ecell_spot (a := x) h0
    obtain ⟨o, e0, e1, e2, e3, e4, hz⟩ := each j hj
    obtain ⟨b, off, s⟩ := x
    simp only at h2
    subst h2
    have add2 : ∀ i : Nat, ((⟨b, off, none⟩ : Addr).add (j * 5)).add i = ⟨b, off + j * 5 + i, none⟩ := fun i => by rw [add_plain, add_plain]
    rw [add2] at e0 e1 e2 e3 e4
    rw [Nat.add_zero] at e0
    have eo : eopAtN w ⟨b, off, none⟩ j = o := by
      unfold eopAtN
      rw [add2, add2, add2, add2, add2, Nat.add_zero, enum_at e0, enum_at e1, enum_at e2, enum_at e3, enum_at e4]
    refine ⟨b, off, rfl, ?_, ?_⟩
    · simp only [eo]; exact ⟨e0, e1, e2, e3, e4⟩
    · simp only [eo]; exact hz
end
/-- the cells of one -/
def EtAt (w : World) (b off : Nat) (o : Et) : Prop := w.cell? ⟨b, off, none⟩ = some (.int .i8 o.k) ∧ w.cell? ⟨b, off + 1, none⟩ = some (.int .i64 o.m)
theorem EtAt.below {w w' : World} {b off : Nat} {o : Et} (h : EtAt w b off o) (hb : Below w.heap.size w w') : EtAt w' b off o := by
  obtain ⟨h0, h1⟩ := h
  have hl := cell_lt h0
  exact ⟨(hb.cell (p := ⟨b, off, none⟩) hl).trans h0, (hb.cell (p := ⟨b, off + 1, none⟩) hl).trans h1⟩
/-- a slice of them -/
def EtS (w : World) (a : Option Addr) (len cap : Nat) (f : Nat → Et) : Prop :=
  (∀ j, j < len → ∃ b off, a = some ⟨b, off, none⟩ ∧ EtAt w b (off + j * 2) (f j) ∧ (f j).okk) ∧ len ≤ cap ∧ cap ≤ maxLen
theorem EtS.below {w w' : World} {a : Option Addr} {len cap : Nat} {f : Nat → Et} (h : EtS w a len cap f) (hb : Below w.heap.size w w') : EtS w' a len cap f :=
  ⟨fun j hj => by
    obtain ⟨b, off, e, h0, h1⟩ := h.1 j hj
    exact ⟨b, off, e, h0.below hb, h1⟩, h.2⟩
section
variable {H : Type} {enc : TypeId × Value → H} {w : World} {base : Nat} {held : Bool}
def ethAtN (w : World) (x : Addr) (j : Nat) : Et := ⟨enumAt w ((x.add (j * 2)).add 0), enumAt w ((x.add (j * 2)).add 1)⟩
theorem open_eths {r : Reach} {b0 : Nat} {v : Value} {d : DataW H} {ps : List MemPlace} (hv : Value.okWide Try.prog w r b0 43 v) (hT : DataW.Trod enc Try.prog w base (fun _ => true) held 43 v d ps) :
    ∃ (a : Option Addr) (len cap : Nat) (f : Nat → Et), v = .slice a len cap ∧ EtS w a len cap f := by
  obtain ⟨a, len, cap, rfl⟩ := okWide_slice Try.underlying43 hv
  obtain ⟨fuel, hf⟩ := hT
  rcases open_slice Try.underlying43 hf with ⟨hcs, _⟩ | ⟨x, l, c, m, n, D, Pl, hcs, _, hl, hm, hmm, _, hx⟩
  · simp [Value.cells] at hcs
    obtain ⟨rfl, rfl, rfl⟩ := hcs
    exact ⟨none, 0, 0, fun _ => ⟨0, 0⟩, rfl, fun j hj => absurd hj (by omega), Nat.le_refl _, Nat.zero_le _⟩
  · simp [Value.cells] at hcs
    obtain ⟨rfl, rfl, rfl⟩ := hcs
    refine ⟨_, _, _, fun j => ethAtN w x j, rfl, fun j hj => ?_, hl, hm⟩
    have each : ∀ j, j < len → ∃ o : Et, w.cell? ((x.add (j * 2)).add 0) = some (.int .i8 o.k) ∧ w.cell? ((x.add (j * 2)).add 1) = some (.int .i64 o.m) ∧ o.okk := by
      intro j hj
      obtain ⟨cs', h1, h2⟩ := hx j (by rw [hmm]; split <;> omega)
      rw [show Try.prog.cellsOf 27 = 2 by kernel_rfl] at h1
      obtain ⟨_, hlen, hcell⟩ := World.cells?_some h1
      match cs', hlen, hcell, h2 with
      | [c0, c1], _, hcell, h2 =>
        obtain ⟨o, rfl, rfl, hz⟩ := eth_cells h2
        exact ⟨o, hcell 0 (by omega), hcell 1 (by omega), hz⟩
    have h2 : x.spot = none := by
      obtain ⟨o, h0, _⟩ := each 0 (by omega)
      exact ecell_spot (a := x) h0
    obtain ⟨o, e0, e1, hz⟩ := each j hj
    obtain ⟨b, off, s⟩ := x
    simp only at h2
    subst h2
    have add2 : ∀ i : Nat, ((⟨b, off, none⟩ : Addr).add (j * 2)).add i = ⟨b, off + j * 2 + i, none⟩ := fun i => by rw [add_plain, add_plain]
    rw [add2] at e0 e1
    rw [Nat.add_zero] at e0
    have eo : ethAtN w ⟨b, off, none⟩ j = o := by
      unfold ethAtN
      rw [add2, add2, Nat.add_zero, enum_at e0, enum_at e1]
    refine ⟨b, off, rfl, ?_, ?_⟩
    · simp only [eo]; exact ⟨e0, e1⟩
    · simp only [eo]; exact hz
end
end Go.Proofs.Ytafcgbahdfaiiaa
