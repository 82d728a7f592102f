/- Pieces of bytes: plain facts, and rows of slices. -/
import Derived.Test.YtmhkkdbfejajeaaWClone
import Derived.Test.YtmhkkdbfejajeaaWStr
namespace Go.Proofs.Ytmhkkdbfejajeaa
open Go.RowKit

/-- the length of piece i of n bytes -/
def ln (n i : Nat) : Nat := min 16 (n - 16 * i)
/-- how many pieces of n bytes, at most m -/
def cnt (n : Nat) (m : Int) : Nat := min m.toNat ((n + 15) / 16)
/-- a row of N slices at v: slice i holds piece i of the bytes z 0 .. z (n-1) -/
def PRow (w : World) (v : Value) (N n : Nat) (z : Nat → Int) : Prop :=
  ∃ a cap, v = .slice a N cap ∧ ∀ i, i < N → ∃ b off pb po pc, a = some ⟨b, off, none⟩ ∧ w.cell? ⟨b, off + i, none⟩ = some (.slice (some ⟨pb, po, none⟩) (ln n i) pc) ∧ Cells w .u8 (some ⟨pb, po, none⟩) (ln n i) (fun j => z (16 * i + j))
theorem PRow.below {w w' : World} {v : Value} {N n : Nat} {z : Nat → Int} (h : PRow w v N n z) (hb : Below w.heap.size w w') : PRow w' v N n z := by
  obtain ⟨a, cap, e, h⟩ := h
  refine ⟨a, cap, e, fun i hi => ?_⟩
  obtain ⟨b, off, pb, po, pc, ea, hc, hz⟩ := h i hi
  exact ⟨b, off, pb, po, pc, ea, (hb.cell (p := ⟨b, off + i, none⟩) (cell_lt hc)).trans hc, hz.below hb⟩
theorem Try.infoSl : (Try.prog.info? 27).map (fun i => (i.zero, i.size, i.bytes)) = some (some (.slice none 0 0), 1, 24) := by kernel_rfl
/-- the pieces that lie in block g, one behind the other -/
def encP (g n k : Nat) : List Value := (List.range k).map fun i => Value.slice (some ⟨g, 16 * i, none⟩) (ln n i) (ln n i)
theorem encP_snoc (g n k : Nat) : encP g n (k + 1) = encP g n k ++ [.slice (some ⟨g, 16 * k, none⟩) (ln n k) (ln n k)] := by simp [encP, List.range_succ]
theorem encP_at (g n k i : Nat) (hi : i < k) : (encP g n k)[i]? = some (.slice (some ⟨g, 16 * i, none⟩) (ln n i) (ln n i)) := by simp [encP, hi]
theorem ln_cut {n N i : Nat} (hi : i < N) : ln (min (N * 16) n) i = ln n i := by unfold ln; omega
theorem ln_pos {n i : Nat} (h : 16 * i < n) : 0 < ln n i := by unfold ln; omega
theorem pieces_of_own {w : World} {base g N n k : Nat} {v : Value} {z : Nat → Int} (h : w.ownsRow base 27 1 v N (encP g n N)) (hc : Cells w .u8 (some ⟨g, 0, none⟩) k z) (hk : ∀ i, i < N → 16 * i + ln n i ≤ k) : PRow w v N n z := by
  rcases h.2 with ⟨rfl, rfl⟩ | ⟨r, cap, cur, rfl, _, _⟩
  · exact ⟨none, 0, rfl, fun i hi => absurd hi (by omega)⟩
  · refine ⟨some ⟨r, 0, none⟩, cap, rfl, fun i hi => ⟨r, 0, g, 16 * i, ln n i, rfl, ?_, ?_⟩⟩
    · rw [Nat.zero_add, h.cellAt i (by omega)]; exact encP_at g n N i hi
    · have := hc.part (16 * i) (ln n i) (hk i hi)
      rwa [Nat.zero_add] at this

theorem PRow.len {w : World} {v : Value} {N n n' : Nat} {z : Nat → Int} (h : PRow w v N n z) (e : ∀ i, i < N → ln n i = ln n' i) : PRow w v N n' z := by
  obtain ⟨a, cap, ev, h⟩ := h
  refine ⟨a, cap, ev, fun i hi => ?_⟩
  obtain ⟨b, off, pb, po, pc, ea, hc, hz⟩ := h i hi
  rw [e i hi] at hc hz
  exact ⟨b, off, pb, po, pc, ea, hc, hz⟩
/-- a slice's length -/
def lenV : Value → Nat
  | .slice _ l _ => l
  | _ => 0
theorem cnt_le (n : Nat) (m : Int) : cnt n m ≤ (n + 15) / 16 := by unfold cnt; omega
theorem more_iff {n N k : Nat} (hN : N ≤ (n + 15) / 16) : k < N ↔ 16 * k < min (N * 16) n := by omega
theorem Below.grow {w w1 w2 : World} {row : Option Nat} (h : Below w.heap.size w w1) (hg : w1.grownBy w2 row) (hr : ∀ k, row = some k → w.heap.size ≤ k) : Below w.heap.size w w2 := h.grown hg h.size hr

end Go.Proofs.Ytmhkkdbfejajeaa
