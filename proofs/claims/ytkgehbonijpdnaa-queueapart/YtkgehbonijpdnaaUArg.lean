/- Queues that came in. -/
import Derived.Test.YtkgehbonijpdnaaUMem
import Derived.OpenShut
import Derived.Deep.Slices
import Derived.Lib.SmallJoins
namespace Go.Proofs.Ytkgehbonijpdnaa
open Go.RowKit Go.ChangeShapes Go.WideShapes Go.Deep Go.Joins
set_option maxRecDepth 100000

theorem ucell_spot {w : World} {a : Addr} {v : Value} (h : w.cell? a = some v) : a.spot = none := by
  unfold World.cell? at h
  split at h
  · by_cases hs : a.spot.isSome
    · simp [hs] at h
    · simpa using hs
  · cases h
section
variable {H : Type} {enc : TypeId × Value → H} {w : World} {base : Nat} {spare : Nat → Bool} {held : Bool}
/-- a slice that came in, its elements by a reader of one -/
theorem open_sl {t e : TypeId} {s fuel : Nat} {cs : List Value} {x : DataW H × List MemPlace} (ht : Try.prog.underlying t = some (.slice e)) (hs : Try.prog.cellsOf e = s) (hs0 : 0 < s) {α : Type} (d0 : α) (C : α → Nat → Value) (P : α → Prop)
    (each : ∀ n cs' y, cs'.length = s → DataW.trod enc Try.prog w base spare held n e cs' = some y → ∃ o : α, (∀ f, f < s → cs'[f]? = some (C o f)) ∧ P o) (h : DataW.trod enc Try.prog w base spare held fuel t cs = some x) :
    ∃ (a : Option Addr) (len cap : Nat) (g : Nat → α), cs = [.slice a len cap] ∧ len ≤ cap ∧ cap ≤ maxLen ∧ (a = none → len = 0 ∧ cap = 0) ∧ Rd w a len s (fun j => C (g j)) ∧ ∀ j, j < len → P (g j) := by
  have i0 : Inhabited α := ⟨d0⟩
  rcases open_slice ht h with ⟨rfl, _⟩ | ⟨x, len, cap, m, n, D, Pl, rfl, _, hl, hm, hmm, _, hx⟩
  · exact ⟨none, 0, 0, fun _ => default, rfl, Nat.le_refl _, Nat.zero_le _, fun _ => ⟨rfl, rfl⟩, fun j hj => absurd hj (by omega), fun j hj => absurd hj (by omega)⟩
  · have hle : len ≤ m := by rw [hmm]; split <;> omega
    have key : ∀ j, j < len → ∃ o : α, (∀ f, f < s → w.cell? ((x.add (j * s)).add f) = some (C o f)) ∧ P o := by
      intro j hj
      obtain ⟨cs', h1, h2⟩ := hx j (by omega)
      rw [hs] at h1
      obtain ⟨_, hlen, hcell⟩ := World.cells?_some h1
      obtain ⟨o, h3, h4⟩ := each n cs' _ hlen h2
      refine ⟨o, fun f hf => ?_, h4⟩
      exact (hcell f (by omega)).trans (h3 f hf)
    obtain ⟨g, hg⟩ := choose_lt key
    refine ⟨some x, len, cap, g, rfl, hl, hm, (fun e => by cases e), fun j hj => ?_, fun j hj => (hg j hj).2⟩
    have h2 : x.spot = none := by
      have := (hg 0 (by omega)).1 0 hs0
      rw [Nat.zero_mul] at this
      exact ucell_spot (a := x) this
    obtain ⟨b, off, sp⟩ := x
    simp only at h2
    subst h2
    refine ⟨b, off, rfl, fun f hf => ?_⟩
    have := (hg j hj).1 f hf
    rwa [add_plain, add_plain] at this
theorem uint_cell {t : TypeId} {k : IntKind} {n : Nat} {v : Value} {y : DataW H × List MemPlace} (ht : Try.prog.underlying t = some (.int k)) (h : DataW.trod enc Try.prog w base spare held n t [v] = some y) : ∃ x, v = .int k x ∧ (Lit.int k x).wf = true := by
  obtain ⟨a, e0, _, wa⟩ := DataW.trod_int ht h
  simp at e0
  exact ⟨a, e0, wa⟩
theorem ubool_cell {t : TypeId} {n : Nat} {v : Value} {y : DataW H × List MemPlace} (ht : Try.prog.underlying t = some .bool) (h : DataW.trod enc Try.prog w base spare held n t [v] = some y) : ∃ x, v = .bool x := by
  obtain ⟨a, e0, _⟩ := DataW.trod_bool ht h
  simp at e0
  exact ⟨a, e0⟩
theorem getD_range {α : Type} (f : Nat → α) (d : α) {n j : Nat} (hj : j < n) : ((List.range n).map f).getD j d = f j := by simp [hj]
/-- ints that came in -/
theorem open_uints {fuel : Nat} {cs : List Value} {x : DataW H × List MemPlace} (h : DataW.trod enc Try.prog w base spare held fuel 25 cs = some x) : ∃ (v : Value) (l : List Int), cs = [v] ∧ Cl w v l ∧ l.length ≤ maxLen := by
  obtain ⟨a, len, cap, g, rfl, h1, h2, h3, h4, _⟩ := open_sl (s := 1) Try.underlying25 (by kernel_rfl) (by omega) (0 : Int) (fun (z : Int) _ => Value.int .i64 z) (fun _ => True) (fun n cs' y hl hy => by
    match cs', hl, hy with
    | [c], _, hy =>
      obtain ⟨z, rfl, _⟩ := uint_cell Try.underlying3 hy
      exact ⟨z, fun f hf => by (obtain rfl : f = 0 := by omega); rfl, trivial⟩) h
  refine ⟨_, (List.range len).map g, rfl, ?_, by simp; omega⟩
  unfold Cl
  rw [show ((List.range len).map g).length = len by simp]
  exact ⟨a, cap, rfl, h1, h3, h4.congr fun j hj f _ => by unfold encI atI; rw [getD_range g 0 hj]⟩
/-- a lane's cells -/
theorem open_ulane {n : Nat} {cs : List Value} {y : DataW H × List MemPlace} (hl : cs.length = 6) (h : DataW.trod enc Try.prog w base spare held n 57 cs = some y) :
    ∃ o : PLn × Value, (∀ f, f < 6 → cs[f]? = some (encP o.1 o.2 f)) ∧ Cl w o.2 o.1.cl := by
  match cs, hl, h with
  | [c0, c1, c2, c3, c4, c5], _, h =>
    obtain ⟨xs, n, _, _, _, hlen, hf⟩ := DataW.trod_struct Try.underlying57 h
    match xs, hlen, hf with
    | [y0, y1, y2, y3, y4, y5], _, hf =>
      have e1 : Try.prog.cellsOf 3 = 1 := by kernel_rfl
      have e2 : Try.prog.cellsOf 4 = 1 := by kernel_rfl
      have e3 : Try.prog.cellsOf 25 = 1 := by kernel_rfl
      obtain ⟨a0, rfl, _⟩ := uint_cell (v := c0) Try.underlying3 (by simpa [e1, e2, e3] using hf 0 _ rfl)
      obtain ⟨a1, rfl⟩ := ubool_cell (v := c1) Try.underlying4 (by simpa [e1, e2, e3] using hf 1 _ rfl)
      obtain ⟨a2, rfl, _⟩ := uint_cell (v := c2) Try.underlying3 (by simpa [e1, e2, e3] using hf 2 _ rfl)
      obtain ⟨v, l, e, hc, _⟩ := open_uints (cs := [c3]) (by simpa [e1, e2, e3] using hf 3 _ rfl)
      obtain ⟨a4, rfl, _⟩ := uint_cell (v := c4) Try.underlying3 (by simpa [e1, e2, e3] using hf 4 _ rfl)
      obtain ⟨a5, rfl, _⟩ := uint_cell (v := c5) Try.underlying3 (by simpa [e1, e2, e3] using hf 5 _ rfl)
      simp at e
      subst e
      refine ⟨(⟨a0, a1, a2, l, a4, a5⟩, c3), fun f hf => ?_, hc⟩
      match f, hf with
      | 0, _ => rfl
      | 1, _ => rfl
      | 2, _ => rfl
      | 3, _ => rfl
      | 4, _ => rfl
      | 5, _ => rfl
/-- a message's cells -/
theorem open_umsg {n : Nat} {cs : List Value} {y : DataW H × List MemPlace} (hl : cs.length = 4) (h : DataW.trod enc Try.prog w base spare held n 44 cs = some y) :
    ∃ o : PMs, (∀ f, f < 4 → cs[f]? = some (encM o f)) ∧ True := by
  match cs, hl, h with
  | [c0, c1, c2, c3], _, h =>
    obtain ⟨xs, n, _, _, _, hlen, hf⟩ := DataW.trod_struct Try.underlying44 h
    match xs, hlen, hf with
    | [y0, y1, y2, y3], _, hf =>
      have e1 : Try.prog.cellsOf 3 = 1 := by kernel_rfl
      have e2 : Try.prog.cellsOf 39 = 1 := by kernel_rfl
      obtain ⟨a0, rfl, _⟩ := uint_cell (v := c0) Try.underlying3 (by simpa [e1, e2] using hf 0 _ rfl)
      obtain ⟨a1, rfl, _⟩ := uint_cell (v := c1) Try.underlying3 (by simpa [e1, e2] using hf 1 _ rfl)
      obtain ⟨a2, rfl, _⟩ := uint_cell (v := c2) Try.underlying3 (by simpa [e1, e2] using hf 2 _ rfl)
      obtain ⟨a3, rfl, _⟩ := uint_cell (v := c3) Try.underlying39 (by simpa [e1, e2] using hf 3 _ rfl)
      refine ⟨⟨a0, a1, a2, a3⟩, fun f hf => ?_, trivial⟩
      match f, hf with
      | 0, _ => rfl
      | 1, _ => rfl
      | 2, _ => rfl
      | 3, _ => rfl
/-- a queue that came in -/
theorem open_uqueue {r : Reach} {b0 : Nat} {v : Value} {d : DataW H} {ps : List MemPlace} (hv : Value.okWide Try.prog w r b0 30 v) (hT : DataW.Trod enc Try.prog w base spare held 30 v d ps) :
    ∃ (vl vm : Value) (Q : Qu) (V : Nat → Value), v = quV vl vm ∧ QIs w vl vm Q V ∧ Q.ls.length ≤ maxLen ∧ Q.ms.length ≤ maxLen := by
  have hs := Try.underlying30
  obtain ⟨cs, rfl, hsz⟩ := okWide_struct hs hv
  rw [show Try.prog.cellsOf 30 = 2 by kernel_rfl] at hsz
  obtain ⟨l⟩ := cs
  match l, hsz with
  | [c0, c1], _ =>
    obtain ⟨fuel, hf⟩ := hT
    obtain ⟨xs, n, _, _, _, hlen, hf⟩ := DataW.trod_struct hs hf
    match xs, hlen, hf with
    | [y0, y1], _, hf =>
      have e1 : Try.prog.cellsOf 27 = 1 := by kernel_rfl
      have e2 : Try.prog.cellsOf 28 = 1 := by kernel_rfl
      obtain ⟨a, len, cap, g, e3, h1, h2, h3, h4, h5⟩ := open_sl (s := 6) (cs := [c0]) Try.underlying27 (by kernel_rfl) (by omega) ((pl0, undef) : PLn × Value) (fun (z : PLn × Value) => encP z.1 z.2) (fun z => Cl w z.2 z.1.cl) (fun n cs' y hl hy => open_ulane hl hy) (by simpa [Value.cells, e1, e2] using hf 0 _ rfl)
      obtain ⟨a', len', cap', g', e3', h1', h2', h3', h4', _⟩ := open_sl (s := 4) (cs := [c1]) Try.underlying28 (by kernel_rfl) (by omega) pm0 (fun (z : PMs) => encM z) (fun _ => True) (fun n cs' y hl hy => open_umsg hl hy) (by simpa [Value.cells, e1, e2] using hf 1 _ rfl)
      simp at e3 e3'
      subst e3 e3'
      refine ⟨_, _, ⟨(List.range len).map fun j => (g j).1, (List.range len').map g'⟩, fun j => (g j).2, rfl, ⟨?_, fun j hj => ?_, ?_⟩, by simp; omega, by simp; omega⟩
      · show Sl w 6 ((List.range len).map fun j => (g j).1).length _ _
        rw [show ((List.range len).map fun j => (g j).1).length = len by simp]
        exact ⟨a, cap, rfl, h1, h3, h4.congr fun j hj f _ => by unfold encLs atP; rw [getD_range _ pl0 hj]⟩
      · have hj' : j < len := by simpa using hj
        have := h5 j hj'
        unfold atP
        rw [getD_range _ pl0 hj']
        exact this
      · show Sl w 4 ((List.range len').map g').length _ _
        rw [show ((List.range len').map g').length = len' by simp]
        exact ⟨a', cap', rfl, h1', h3', h4'.congr fun j hj f _ => by unfold encMs atM; rw [getD_range _ pm0 hj]⟩
/-- ints that came in, as an argument -/
theorem open_uiv {r : Reach} {b0 : Nat} {v : Value} {d : DataW H} {ps : List MemPlace} (hv : Value.okWide Try.prog w r b0 25 v) (hT : DataW.Trod enc Try.prog w base spare held 25 v d ps) : ∃ (a : Option Addr) (len cap : Nat) (l : List Int), v = .slice a len cap ∧ Cl w (.slice a len cap) l := by
  obtain ⟨a, len, cap, rfl⟩ := okWide_slice Try.underlying25 hv
  obtain ⟨fuel, hf⟩ := hT
  obtain ⟨u, l, e, h1, _⟩ := open_uints hf
  simp [Value.cells] at e
  subst e
  exact ⟨a, len, cap, l, rfl, h1⟩
/-- bools that came in, as an argument -/
theorem open_ubv {r : Reach} {b0 : Nat} {v : Value} {d : DataW H} {ps : List MemPlace} (hv : Value.okWide Try.prog w r b0 26 v) (hT : DataW.Trod enc Try.prog w base spare held 26 v d ps) : ∃ (a : Option Addr) (len cap : Nat) (l : List Bool), v = .slice a len cap ∧ Sl w 1 l.length (fun j _ => .bool (l.getD j false)) (.slice a len cap) := by
  obtain ⟨a, len, cap, rfl⟩ := okWide_slice Try.underlying26 hv
  obtain ⟨fuel, hf⟩ := hT
  obtain ⟨a', len', cap', g, e, h1, h2, h3, h4, _⟩ := open_sl (s := 1) Try.underlying26 (by kernel_rfl) (by omega) false (fun (z : Bool) _ => Value.bool z) (fun _ => True) (fun n cs' y hl hy => by
    match cs', hl, hy with
    | [c], _, hy =>
      obtain ⟨z, rfl⟩ := ubool_cell Try.underlying4 hy
      exact ⟨z, fun f hf => by (obtain rfl : f = 0 := by omega); rfl, trivial⟩) hf
  simp [Value.cells] at e
  obtain ⟨rfl, rfl, rfl⟩ := e
  refine ⟨a, len, cap, (List.range len).map g, rfl, ?_⟩
  rw [show ((List.range len).map g).length = len by simp]
  exact ⟨a, cap, rfl, h1, h3, h4.congr fun j hj f _ => by rw [getD_range g false hj]⟩
/-- a message that came in -/
theorem open_umsgv {r : Reach} {b0 : Nat} {v : Value} {d : DataW H} {ps : List MemPlace} (hv : Value.okWide Try.prog w r b0 44 v) (hT : DataW.Trod enc Try.prog w base spare held 44 v d ps) : ∃ m : PMs, v = meV m ∧ True := by
  have hs := Try.underlying44
  obtain ⟨cs, rfl, hsz⟩ := okWide_struct hs hv
  rw [show Try.prog.cellsOf 44 = 4 by kernel_rfl] at hsz
  obtain ⟨l⟩ := cs
  match l, hsz with
  | [c0, c1, c2, c3], _ =>
    obtain ⟨fuel, hf⟩ := hT
    obtain ⟨o, ho, _⟩ := open_umsg (cs := [c0, c1, c2, c3]) rfl hf
    have e0 := ho 0 (by omega)
    have e1 := ho 1 (by omega)
    have e2 := ho 2 (by omega)
    have e3 := ho 3 (by omega)
    simp at e0 e1 e2 e3
    subst e0 e1 e2 e3
    exact ⟨o, rfl, trivial⟩
/-- a claim that came in -/
theorem open_uclaim {r : Reach} {b0 : Nat} {v : Value} {d : DataW H} {ps : List MemPlace} (hv : Value.okWide Try.prog w r b0 47 v) (hT : DataW.Trod enc Try.prog w base spare held 47 v d ps) : ∃ l n e : Int, v = .agg #[.int .i64 l, .int .i64 n, .int .i64 e] ∧ True := by
  have hs := Try.underlying47
  obtain ⟨cs, rfl, hsz⟩ := okWide_struct hs hv
  rw [show Try.prog.cellsOf 47 = 3 by kernel_rfl] at hsz
  obtain ⟨l⟩ := cs
  match l, hsz with
  | [c0, c1, c2], _ =>
    obtain ⟨fuel, hf⟩ := hT
    obtain ⟨xs, n, _, _, _, hlen, hf⟩ := DataW.trod_struct hs hf
    match xs, hlen, hf with
    | [y0, y1, y2], _, hf =>
      have e1 : Try.prog.cellsOf 3 = 1 := by kernel_rfl
      obtain ⟨a0, rfl, _⟩ := uint_cell (v := c0) Try.underlying3 (by simpa [Value.cells, e1] using hf 0 _ rfl)
      obtain ⟨a1, rfl, _⟩ := uint_cell (v := c1) Try.underlying3 (by simpa [Value.cells, e1] using hf 1 _ rfl)
      obtain ⟨a2, rfl, _⟩ := uint_cell (v := c2) Try.underlying3 (by simpa [Value.cells, e1] using hf 2 _ rfl)
      exact ⟨a0, a1, a2, rfl, trivial⟩
end
end Go.Proofs.Ytkgehbonijpdnaa
