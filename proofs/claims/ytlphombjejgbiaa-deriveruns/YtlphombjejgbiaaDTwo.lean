/- Two forests of 16 nodes side by side; a node by a byte. -/
import Derived.Test.YtlphombjejgbiaaDUpw
namespace Go.Proofs.Ytlphombjejgbiaa
open Go.RowKit Go.Shelf
set_option maxRecDepth 100000

structure F2 (w wr : World) (a b : Fp) (L L0 : List Fe) : Prop where
  fa : Fo wr a 16 L
  fb : Fo wr b 16 L0
  ha : ∀ q, a.has q → w.heap.size ≤ q
  hb : ∀ q, b.has q → w.heap.size ≤ q
  ap : ∀ q, a.has q → ¬ b.has q
  bel : Below w.heap.size w wr
theorem F2.act {w wr wx : World} {a b : Fp} {L L0 L' : List Fe} (h : F2 w wr a b L L0) (hf : Fo wx a 16 L') (hb : But a.has wr wx) : F2 w wx a b L' L0 := by
  obtain ⟨z, h0⟩ := h.fb
  exact ⟨hf, ⟨z, h0.but hb fun q hq ha => h.ap q ha hq⟩, h.ha, h.hb, h.ap, h.bel.trans (hb.below h.bel.size h.ha)⟩
theorem F2.below {w wr wx : World} {a b : Fp} {L L0 : List Fe} (h : F2 w wr a b L L0) (hb : Below wr.heap.size wr wx) : F2 w wx a b L L0 :=
  ⟨h.fa.below hb, h.fb.below hb, h.ha, h.hb, h.ap, Below.onto h.bel hb⟩
theorem F2.make {w w1 w2 : World} {a b : Fp} {L L0 : List Fe} (h1 : Fm w w1 a 16 L) (h2 : Fm w1 w2 b 16 L0) : F2 w w2 a b L L0 :=
  ⟨h1.1.below h2.2.2, h2.1, h1.2.1, fun q hq => Nat.le_trans h1.2.2.size (h2.2.1 q hq), fun q ha hb => by have := h1.1.lt q ha; have := h2.2.1 q hb; omega, Below.onto h1.2.2 h2.2.2⟩
theorem Fo.ok {w : World} {a : Fp} {N : Nat} {L : List Fe} (h : Fo w a N L) : Fok N L := by
  obtain ⟨z, h⟩ := h
  exact h.ok
theorem mdS_ok {o : DOp} {L : List Fe} (h : Fok 16 L) : Fok 16 (mdS o L) := by
  unfold mdS
  split
  · exact h.root _
  split
  · exact h.der _ _
  split
  · exact h.cut _
  · exact h.pru _
theorem mdL_ok (g : Nat → DOp) : ∀ n, Fok 16 (mdL g n)
  | 0 => fok_nil 16
  | n + 1 => mdS_ok (mdL_ok g n)
end Go.Proofs.Ytlphombjejgbiaa
