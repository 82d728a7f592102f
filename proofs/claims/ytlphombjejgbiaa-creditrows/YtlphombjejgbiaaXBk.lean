/- A whole block of cells; the law's acts, on accounts that may be. -/
import Derived.Test.YtlphombjejgbiaaXAct
namespace Go.Proofs.Ytlphombjejgbiaa
open Go.RowKit
set_option maxRecDepth 100000

def Bk (w : World) (b : Nat) (T : TypeId) (l : List Value) : Prop := w.heap[b]? = some (.cells l.toArray T (0, 0))
section
variable {w w' : World} {b : Nat} {T : TypeId} {l : List Value}
theorem Bk.lt (h : Bk w b T l) : b < w.heap.size := (Array.getElem?_eq_some_iff.1 h).1
theorem Bk.bx (h : Bk w b T l) : Bx w b l := fun i v hv => by rw [cell_of_row w b i _ T (0, 0) h]; simpa using hv
theorem Bk.fz (h : Bk w b T l) (i : Nat) : w.frozen? ⟨b, i, none⟩ = false := frozen_of_row _ _ i _ _ h
theorem Bk.same (h : Bk w b T l) (hb : w'.heap[b]? = w.heap[b]?) : Bk w' b T l := hb.trans h
theorem Bk.set (h : Bk w b T l) (i : Nat) (v : Value) : Bk (w.setCell ⟨b, i, none⟩ v) b T (l.set i v) := by
  unfold Bk
  rw [setCell_eq_setRow w b i _ T (0, 0) v h, setRow_heap w b _ _ T _ h]
  simp
theorem Bk.setO (h : Bk w b T l) {b' i : Nat} (hne : b ≠ b') (v : Value) : Bk (w.setCell ⟨b', i, none⟩ v) b T l := h.same (Below.heap_setCell _ _ _ _ hne)
theorem Bk.below (h : Bk w b T l) (hb : Below w.heap.size w w') : Bk w' b T l := h.same (hb.block b h.lt)
theorem Bk.upTo {B : Nat} (h : Bk w b T l) (hb : Below B w w') (hB : b < B) : Bk w' b T l := h.same (hb.block b hB)
end
theorem bk_new (w : World) (l : List Value) (T : TypeId) : Bk (w.alloc (.cells l.toArray T)) w.heap.size T l := gheap_new w _
/-- an act that tells no error makes an account that may be -/
theorem ao_ok {o : XOp} {c : Ac} (h : okA c = true) (he : aoE o c = 0) : okA (aoA o c) = true ∧ (aoA o c).rm = c.rm := by
  obtain ⟨⟨h1, h2⟩, ⟨h3, h4⟩, h5, h6⟩ := okA_iff.1 h
  unfold aoE aoA at *
  by_cases k1 : o.k = 1
  · simp only [k1, if_true] at he ⊢
    unfold spE spA bhE bhA at *
    simp only [h, if_true, true_and] at he ⊢
    rw [if_pos he]
    unfold dsE at he
    unfold dsA
    by_cases hz : c.rm - c.sp = 0
    · rw [if_pos hz] at he; omega
    · rw [if_neg hz]
      exact ⟨okA_iff.2 ⟨⟨h1, h2⟩, ⟨by simp; omega, by simp; omega⟩, h5, h6⟩, rfl⟩
  by_cases k2 : o.k = 2
  · simp only [k2, if_true] at he ⊢
    unfold bkE bkA bhE bhA at *
    simp only [h, if_true, true_and] at he ⊢
    simp at he ⊢
    rw [if_pos he]
    unfold dbE at he
    unfold dbA
    by_cases ht : o.e = c.ep
    · rw [if_pos ht] at he ⊢
      by_cases hz : c.sp = 0
      · rw [if_pos hz] at he; omega
      · rw [if_neg hz]
        exact ⟨okA_iff.2 ⟨⟨h1, h2⟩, ⟨by simp; omega, by simp; omega⟩, h5, h6⟩, rfl⟩
    · rw [if_neg ht]
      exact ⟨h, rfl⟩
  by_cases k3 : o.k = 3
  · simp only [k3, if_true] at he ⊢
    simp at he ⊢
    unfold rsE rsA bhE bhA at *
    simp only [h, if_true, true_and] at he ⊢
    rw [if_pos he]
    unfold drE at he
    unfold drA
    by_cases hz : c.ep = 1099511627776
    · rw [if_pos hz] at he; omega
    · rw [if_neg hz]
      exact ⟨okA_iff.2 ⟨⟨h1, h2⟩, ⟨by simp, by simp; omega⟩, by simp; omega, by simp; omega⟩, rfl⟩
  by_cases k4 : o.k = 4
  · simp [k4] at he
  · simp [k1, k2, k3, k4, h]
end Go.Proofs.Ytlphombjejgbiaa
