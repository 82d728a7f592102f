/- The document's own Turn and Then. -/
import Derived.Test.YtcfpfddbbhphgabThen
namespace Go.Proofs.Ytcfpfddbbhphgab
open Go.RowKit Go.Shelf

theorem encU_set (n : Nat) (z : Nat → Int) (j : Nat) (v : Int) : (encU n z).set j (.int .u64 v) = encU n (upd z j v) := by
  apply List.ext_getElem?
  intro i
  rw [List.getElem?_set]
  by_cases e : j = i
  · subst e
    by_cases h : j < n
    · simp [encU, h, upd]
    · simp [encU, h]
  · rw [if_neg e]
    by_cases h : i < n
    · rw [encU_at n z i h, encU_at n _ i h]; simp [upd, show ¬ i = j from fun h => e h.symm]
    · simp [encU, h]
theorem encU_zero (n : Nat) : List.replicate n (Value.int .u64 0) = encU n (fun _ => 0) := by
  apply List.ext_getElem <;> simp [encU]
/-- a made slice of n numbers, at the head of block g -/
def Out (W : World) (base g n : Nat) (z : Nat → Int) : Prop := W.ownsRow base 35 1 (.slice (some ⟨g, 0, none⟩) n n) n (encU n z)
theorem Out.cell {W : World} {base g n : Nat} {z : Nat → Int} (h : Out W base g n z) {j : Nat} (hj : j < n) : W.cell? ⟨g, j, none⟩ = some (.int .u64 (z j)) := by
  rw [World.ownsRow.cellAt h j (by omega)]; exact encU_at n z j hj
theorem Out.frozen {W : World} {base g n : Nat} {z : Nat → Int} (h : Out W base g n z) (j : Nat) : W.frozen? ⟨g, j, none⟩ = false := World.ownsRow.frozenAt h j
theorem Out.set {W : World} {base g n : Nat} {z : Nat → Int} (h : Out W base g n z) (j : Nat) (v : Int) : Out (W.setCell ⟨g, j, none⟩ (.int .u64 v)) base g n (upd z j v) := by
  have := (World.ownsRow.stored h j (.int .u64 v)).1
  rw [encU_set] at this; exact this
theorem Out.ge {W : World} {base g n : Nat} {z : Nat → Int} (h : Out W base g n z) : base ≤ g := own_ge h g rfl
theorem Out.lt {W : World} {base g n : Nat} {z : Nat → Int} (h : Out W base g n z) : g < W.heap.size := by
  rcases h.2 with ⟨e, _⟩ | ⟨g', cap, cur, e, _, hg, _⟩
  · cases e
  · cases e; exact (Array.getElem?_eq_some_iff.1 hg).1
theorem Out.below {W W' : World} {base g n : Nat} {z : Nat → Int} (h : Out W base g n z) (hb : Below W.heap.size W W') : Out W' base g n z := by
  refine ⟨h.1, ?_⟩
  rcases h.2 with h' | ⟨g', cap, cur, e, h1, hg, h2⟩
  · exact .inl h'
  · exact .inr ⟨g', cap, cur, e, h1, (hb.block g' (Array.getElem?_eq_some_iff.1 hg).1).trans hg, h2⟩
theorem Out.congr {W : World} {base g n : Nat} {z y : Nat → Int} (h : Out W base g n z) (e : ∀ j, j < n → z j = y j) : Out W base g n y := by
  have : encU n z = encU n y := List.map_congr_left fun j hj => by rw [e j (by simpa using hj)]
  unfold Out; rw [← this]; exact h

theorem made_zero (n : Nat) : (madeCells (Value.int .u64 0).cells (n * 1)).toList = encU n (fun _ => 0) := by
  apply List.ext_getElem?
  intro i
  by_cases h : i < n
  · rw [encU_at n _ i h]; simp [madeCells, h, Value.cells, Nat.mod_one]
  · simp [madeCells, encU, h]

theorem memsTo_all {n : Nat} (hn : n ≤ 64) {r : Int} (h : rowOk n r = true) : memsTo r n = mems r := by
  have h' := rowOk_iff.1 h
  have key : ∀ d, n + d ≤ 64 → memsTo r (n + d) = memsTo r n := by
    intro d
    induction d with
    | zero => intro _; rfl
    | succ d ih =>
      intro hd
      rw [show n + (d + 1) = (n + d) + 1 by omega, memsTo_miss, ih (by omega)]
      cases ht : tb r (n + d)
      · rfl
      · have := h' (n + d) (by omega) ht; omega
  have := key (64 - n) (by omega)
  rw [show n + (64 - n) = 64 by omega] at this
  exact this.symm

end Go.Proofs.Ytcfpfddbbhphgab
