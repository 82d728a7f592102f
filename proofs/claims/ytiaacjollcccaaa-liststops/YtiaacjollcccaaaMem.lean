/- Slices of numbers that are read: what they hold, and the functions that only read them. -/
import Derived.Test.YtiaacjollcccaaaLeaf
import Derived.Deep.QuietTactic
import Derived.BigQuiet
namespace Go.Proofs.Ytiaacjollcccaaa
open Go.RowKit

/-- the n cells of the slice at a hold the numbers z 0, z 1, .. -/
def Cells (w : World) (k : IntKind) (a : Option Addr) (n : Nat) (z : Nat → Int) : Prop :=
  ∀ j, j < n → ∃ b off, a = some ⟨b, off, none⟩ ∧ w.cell? ⟨b, off + j, none⟩ = some (.int k (z j))
theorem cell_lt {w : World} {b o : Nat} {v : Value} (h : w.cell? ⟨b, o, none⟩ = some v) : b < w.heap.size := by
  by_cases hb : b < w.heap.size
  · exact hb
  · exfalso
    have : w.heap[b]? = none := by simp; omega
    simp [World.cell?, this] at h
theorem Cells.below {w w' : World} {k : IntKind} {a : Option Addr} {n : Nat} {z : Nat → Int} (h : Cells w k a n z) (hb : Below w.heap.size w w') : Cells w' k a n z := by
  intro j hj
  obtain ⟨b, off, e, hc⟩ := h j hj
  exact ⟨b, off, e, (hb.cell (p := ⟨b, off + j, none⟩) (cell_lt hc)).trans hc⟩
theorem Cells.mono {w : World} {k : IntKind} {a : Option Addr} {n m : Nat} {z : Nat → Int} (h : Cells w k a n z) (hm : m ≤ n) : Cells w k a m z := fun j hj => h j (by omega)
theorem Cells.congr {w : World} {k : IntKind} {a : Option Addr} {n : Nat} {z y : Nat → Int} (h : Cells w k a n z) (e : ∀ j, j < n → z j = y j) : Cells w k a n y := fun j hj => by
  obtain ⟨b, off, e', hc⟩ := h j hj
  exact ⟨b, off, e', by rw [← e j hj]; exact hc⟩
theorem Below.onto {w w1 w2 : World} (h : Below w.heap.size w w1) (h2 : Below w1.heap.size w1 w2) : Below w.heap.size w w2 := h.trans (h2.mono h.size)

/-- the set of z 0 .. z (n-1) -/
def ofSet (z : Nat → Int) : Nat → Int
  | 0 => 0
  | n + 1 => setI (ofSet z n) (z n).toNat
theorem ofSet_nonneg (z : Nat → Int) (n : Nat) : 0 ≤ ofSet z n := by cases n <;> simp [ofSet, setI_nonneg]
theorem ofSet_lt (z : Nat → Int) (n : Nat) (h : ∀ j, j < n → 0 ≤ z j ∧ z j < 64) : ofSet z n < 18446744073709551616 := by
  induction n with
  | zero => simp [ofSet]
  | succ n ih => exact setI_lt (ih fun j hj => h j (by omega)) (by have := h n (by omega); omega)

def encL (l : List Nat) : List Value := l.map fun k : Nat => Value.int .i64 (k : Int)
theorem encL_snoc (l : List Nat) (k : Nat) : encL (l ++ [k]) = encL l ++ [Value.int .i64 (k : Int)] := by simp [encL]
/-- the j-th member of s -/
def memAt (s : Int) (j : Nat) : Int := (((mems s)[j]?.getD 0 : Nat) : Int)
theorem cells_of_own {w : World} {base e : Nat} {k : IntKind} {v : Value} {n : Nat} {xs : List Value} {z : Nat → Int} (h : w.ownsRow base e 1 v n xs) (hx : ∀ j, j < n → xs[j]? = some (.int k (z j))) :
    ∃ a cap, v = .slice a n cap ∧ Cells w k a n z ∧ (∀ b o p, a = some ⟨b, o, p⟩ → base ≤ b) := by
  rcases h.2 with ⟨rfl, rfl⟩ | ⟨g, cap, cur, rfl, hg, _⟩
  · exact ⟨none, 0, rfl, fun j hj => absurd hj (by omega), fun b o p e => by cases e⟩
  · refine ⟨some ⟨g, 0, none⟩, cap, rfl, fun j hj => ⟨g, 0, rfl, ?_⟩, fun b o p e => by cases e; exact hg⟩
    rw [Nat.zero_add, h.cellAt j (by omega)]
    exact hx j hj
theorem own_room {w : World} {base e : Nat} {a : Option Addr} {n m cap : Nat} {xs : List Value} (h : w.ownsRow base e 1 (.slice a n cap) m xs) : n ≤ cap ∧ (a = none → n = 0 ∧ cap = 0) := by
  rcases h.2 with ⟨e, _⟩ | ⟨g, c, cur, e, _, _, h4, _⟩
  · cases e; exact ⟨Nat.le_refl _, fun _ => ⟨rfl, rfl⟩⟩
  · cases e; exact ⟨h4, fun e => (by cases e)⟩
theorem own_ge {w : World} {base e size : Nat} {v : Value} {n : Nat} {xs : List Value} (h : w.ownsRow base e size v n xs) : ∀ k, v.ownBlock = some k → base ≤ k := by
  rcases h.2 with ⟨rfl, _⟩ | ⟨g, cap, cur, rfl, hg, _⟩
  · intro k e; cases e
  · intro k e; cases e; exact hg
theorem encL_at (s : Int) (j : Nat) (hj : j < (mems s).length) : (encL (mems s))[j]? = some (.int .i64 (memAt s j)) := by
  simp [encL, memAt, hj]

theorem Try.info3 : (Try.prog.info? 3).map (fun i => (i.zero, i.size, i.bytes)) = some (some (.int .i64 0), 1, 8) := by kernel_rfl

end Go.Proofs.Ytiaacjollcccaaa
