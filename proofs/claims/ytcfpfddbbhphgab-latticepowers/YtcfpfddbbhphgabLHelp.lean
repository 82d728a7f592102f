/- Two rows, as the document's layer 2 compares them; a row of one's own, of whatever room. -/
import Derived.Test.YtcfpfddbbhphgabLRead
namespace Go.Proofs.Ytcfpfddbbhphgab
open Go.RowKit Go.Shelf

theorem own_stays {W W' : World} {base e size : Nat} {v : Value} {n : Nat} {xs : List Value} (h : W.ownsRow base e size v n xs) (hb : Below W.heap.size W W') : W'.ownsRow base e size v n xs := by
  refine ⟨h.1, ?_⟩
  rcases h.2 with h' | ⟨g', cap, cur, e, h1, hg, h2⟩
  · exact .inl h'
  · exact .inr ⟨g', cap, cur, e, h1, (hb.block g' (Array.getElem?_eq_some_iff.1 hg).1).trans hg, h2⟩
/-- a row of one's own: n numbers at the head of block g, with room for cap -/
def OutC (W : World) (base g n cap : Nat) (z : Nat → Int) : Prop := W.ownsRow base 35 1 (.slice (some ⟨g, 0, none⟩) n cap) n (encU n z)
theorem OutC.cell {W : World} {base g n cap : Nat} {z : Nat → Int} (h : OutC W base g n cap z) {j : Nat} (hj : j < n) : W.cell? ⟨g, j, none⟩ = some (.int .u64 (z j)) := by
  rw [World.ownsRow.cellAt h j (by omega)]; exact encU_at n z j hj
theorem OutC.frozen {W : World} {base g n cap : Nat} {z : Nat → Int} (h : OutC W base g n cap z) (j : Nat) : W.frozen? ⟨g, j, none⟩ = false := World.ownsRow.frozenAt h j
theorem OutC.set {W : World} {base g n cap : Nat} {z : Nat → Int} (h : OutC W base g n cap z) (j : Nat) (v : Int) : OutC (W.setCell ⟨g, j, none⟩ (.int .u64 v)) base g n cap (upd z j v) := by
  have := (World.ownsRow.stored h j (.int .u64 v)).1
  rw [encU_set] at this; exact this
theorem OutC.ge {W : World} {base g n cap : Nat} {z : Nat → Int} (h : OutC W base g n cap z) : base ≤ g := own_ge h g rfl
theorem OutC.cells {W : World} {base g n cap : Nat} {z : Nat → Int} (h : OutC W base g n cap z) : Cells W .u64 (some ⟨g, 0, none⟩) n z := fun j hj => ⟨g, 0, rfl, by rw [Nat.zero_add]; exact h.cell hj⟩
theorem OutC.congr {W : World} {base g n cap : Nat} {z y : Nat → Int} (h : OutC W base g n cap z) (e : ∀ j, j < n → z j = y j) : OutC W base g n cap y := by
  have : encU n z = encU n y := List.map_congr_left fun j hj => by rw [e j (by simpa using hj)]
  unfold OutC; rw [← this]; exact h

end Go.Proofs.Ytcfpfddbbhphgab
