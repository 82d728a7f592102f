/- Queues that came in. -/
import Derived.Test.YtcfmbppnghlkaaaUMem
import Derived.OpenShut
import Derived.Deep.Slices
import Derived.Lib.SmallJoins
namespace Go.Proofs.Ytcfmbppnghlkaaa
open Go.RowKit Go.ChangeShapes Go.WideShapes Go.Deep Go.Joins
set_option maxRecDepth 100000

theorem ucell_spot {w : World} {a : Addr} {v : Value} (h : w.cell? a = some v) : a.spot = none := by
  unfold World.cell? at h
  split at h
  · by_cases hs : a.spot.isSome
    · simp [hs] at h
    · simpa using hs
  · cases h
section
variable {H : Type} {enc : TypeId × Value → H} {w : World} {base : Nat} {spare : Nat → Bool} {held : Bool}
/-- a slice that came in, its elements by a reader of one -/
theorem open_sl {t e : TypeId} {s fuel : Nat} {cs : List Value} {x : DataW H × List MemPlace} (ht : Try.prog.underlying t = some (.slice e)) (hs : Try.prog.cellsOf e = s) (hs0 : 0 < s) {α : Type} (d0 : α) (C : α → Nat → Value) (P : α → Prop)
    (each : ∀ n cs' y, cs'.length = s → DataW.trod enc Try.prog w base spare held n e cs' = some y → ∃ o : α, (∀ f, f < s → cs'[f]? = some (C o f)) ∧ P o) (h : DataW.trod enc Try.prog w base spare held fuel t cs = some x) :
    ∃ (a : Option Addr) (len cap : Nat) (g : Nat → α), cs = [.slice a len cap] ∧ len ≤ cap ∧ cap ≤ maxLen ∧ (a = none → len = 0 ∧ cap = 0) ∧ Rd w a len s (fun j => C (g j)) ∧ ∀ j, j < len → P (g j) := by
  have i0 : Inhabited α := ⟨d0⟩
  rcases open_slice ht h with ⟨rfl, _⟩ | ⟨x, len, cap, m, n, D, Pl, rfl, _, hl, hm, hmm, _, hx⟩
  · exact ⟨none, 0, 0, fun _ => default, rfl, Nat.le_refl _, Nat.zero_le _, fun _ => ⟨rfl, rfl⟩, fun j hj => absurd hj (by omega), fun j hj => absurd hj (by omega)⟩
  · have hle : len ≤ m := by rw [hmm]; split <;> omega
    have key : ∀ j, j < len → ∃ o : α, (∀ f, f < s → w.cell? ((x.add (j * s)).add f) = some (C o f)) ∧ P o := by
      intro j hj
      obtain ⟨cs', h1, h2⟩ := hx j (by omega)
      rw [hs] at h1
      obtain ⟨_, hlen, hcell⟩ := World.cells?_some h1
      obtain ⟨o, h3, h4⟩ := each n cs' _ hlen h2
      refine ⟨o, fun f hf => ?_, h4⟩
      exact (hcell f (by omega)).trans (h3 f hf)
    obtain ⟨g, hg⟩ := choose_lt key
    refine ⟨some x, len, cap, g, rfl, hl, hm, (fun e => by cases e), fun j hj => ?_, fun j hj => (hg j hj).2⟩
    have h2 : x.spot = none := by
      have := (hg 0 (by omega)).1 0 hs0
      rw [Nat.zero_mul] at this
      exact ucell_spot (a := x) this
    obtain ⟨b, off, sp⟩ := x
    simp only at h2
    subst h2
    refine ⟨b, off, rfl, fun f hf => ?_⟩
    have := (hg j hj).1 f hf
    rwa [add_plain, add_plain] at this
theorem uint_cell {t : TypeId} {k : IntKind} {n : Nat} {v : Value} {y : DataW H × List MemPlace} (ht : Try.prog.underlying t = some (.int k)) (h : DataW.trod enc Try.prog w base spare held n t [v] = some y) : ∃ x, v = .int k x ∧ (Lit.int k x).wf = true := by
  obtain ⟨a, e0, _, wa⟩ := DataW.trod_int ht h
  simp at e0
  exact ⟨a, e0, wa⟩
theorem ubool_cell {t : TypeId} {n : Nat} {v : Value} {y : DataW H × List MemPlace} (ht : Try.prog.underlying t = some .bool) (h : DataW.trod enc Try.prog w base spare held n t [v] = some y) : ∃ x, v = .bool x := by
  obtain ⟨a, e0, _⟩ := DataW.trod_bool ht h
  simp at e0
  exact ⟨a, e0⟩
theorem getD_range {α : Type} (f : Nat → α) (d : α) {n j : Nat} (hj : j < n) : ((List.range n).map f).getD j d = f j := by simp [hj]
/-- ints that came in -/
theorem open_uints {fuel : Nat} {cs : List Value} {x : DataW H × List MemPlace} (h : DataW.trod enc Try.prog w base spare held fuel 22 cs = some x) : ∃ (v : Value) (l : List Int), cs = [v] ∧ Cl w v l ∧ l.length ≤ maxLen := by
  obtain ⟨a, len, cap, g, rfl, h1, h2, h3, h4, _⟩ := open_sl (s := 1) Try.underlying22 (by kernel_rfl) (by omega) (0 : Int) (fun (z : Int) _ => Value.int .i64 z) (fun _ => True) (fun n cs' y hl hy => by
    match cs', hl, hy with
    | [c], _, hy =>
      obtain ⟨z, rfl, _⟩ := uint_cell Try.underlying3 hy
      exact ⟨z, fun f hf => by (obtain rfl : f = 0 := by omega); rfl, trivial⟩) h
  refine ⟨_, (List.range len).map g, rfl, ?_, by simp; omega⟩
  unfold Cl
  rw [show ((List.range len).map g).length = len by simp]
  exact ⟨a, cap, rfl, h1, h3, h4.congr fun j hj f _ => by unfold encI atI; rw [getD_range g 0 hj]⟩
/-- ints that came in, as an argument -/
theorem open_uiv {r : Reach} {b0 : Nat} {v : Value} {d : DataW H} {ps : List MemPlace} (hv : Value.okWide Try.prog w r b0 22 v) (hT : DataW.Trod enc Try.prog w base spare held 22 v d ps) : ∃ (a : Option Addr) (len cap : Nat) (l : List Int), v = .slice a len cap ∧ Cl w (.slice a len cap) l := by
  obtain ⟨a, len, cap, rfl⟩ := okWide_slice Try.underlying22 hv
  obtain ⟨fuel, hf⟩ := hT
  obtain ⟨u, l, e, h1, _⟩ := open_uints hf
  simp [Value.cells] at e
  subst e
  exact ⟨a, len, cap, l, rfl, h1⟩
end
end Go.Proofs.Ytcfmbppnghlkaaa
