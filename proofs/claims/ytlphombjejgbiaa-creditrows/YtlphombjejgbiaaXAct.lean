/- The law's acts, and the document's, on one account. -/
import Derived.Test.YtlphombjejgbiaaXAlive
namespace Go.Proofs.Ytlphombjejgbiaa
open Go.RowKit Go.Sort Go.Shelf
set_option maxRecDepth 100000

/-- an act -/
structure XOp where
  k : Int
  e : Int
abbrev xoL (o : XOp) : List Value := [.int .i64 o.k, .int .i64 o.e]
abbrev xoV (o : XOp) : Value := .agg #[.int .i64 o.k, .int .i64 o.e]
def encX (o : XOp) : Nat → Value
  | 0 => .int .i64 o.k
  | _ => .int .i64 o.e
def aoE (o : XOp) (c : Ac) : Int := if o.k = 1 then spE c else if o.k = 2 then bkE o.e c else if o.k = 3 then rsE c else if o.k = 4 then 1 else 0
def aoA (o : XOp) (c : Ac) : Ac := if o.k = 1 then spA c else if o.k = 2 then bkA o.e c else if o.k = 3 then rsA c else if o.k = 4 then ac0 else c
/-- three boxes that were made, behind a call -/
structure X3 (w w3 : World) (l1 l2 l3 : List Value) : Prop where
  x : Bx w3 w.heap.size l1
  y : Bx w3 (w.heap.size + 1 + 1) l3
  xl : w.heap.size < w3.heap.size
  yl : w.heap.size + 1 + 1 < w3.heap.size
  yf : ∀ i, w3.frozen? ⟨w.heap.size + 1 + 1, i, none⟩ = false
  xf : ∀ i, w3.frozen? ⟨w.heap.size, i, none⟩ = false
  o : Bx w3 (w.heap.size + 1) l2
  b : Below w.heap.size w w3
theorem x3 {w w3 : World} {l1 l2 l3 : List Value} {T1 T2 T3 : TypeId} (hb : Below (((w.alloc (.cells l1.toArray T1)).alloc (.cells l2.toArray T2)).alloc (.cells l3.toArray T3)).heap.size (((w.alloc (.cells l1.toArray T1)).alloc (.cells l2.toArray T2)).alloc (.cells l3.toArray T3)) w3) : X3 w w3 l1 l2 l3 := by
  obtain ⟨h1, h2, h3, h4, _, _, h7⟩ := x2 (l1 := l1) (l2 := l2) (T1 := T1) (T2 := T2) (Below.refl _ ((w.alloc (.cells l1.toArray T1)).alloc (.cells l2.toArray T2)))
  have hn := below_new ((w.alloc (.cells l1.toArray T1)).alloc (.cells l2.toArray T2)) (.cells l3.toArray T3)
  have hB := Below.onto hn hb
  have e1 : (w.alloc (.cells l1.toArray T1)).heap.size = w.heap.size + 1 := by simp
  have e2 : ((w.alloc (.cells l1.toArray T1)).alloc (.cells l2.toArray T2)).heap.size = w.heap.size + 1 + 1 := by simp
  have e3 : (((w.alloc (.cells l1.toArray T1)).alloc (.cells l2.toArray T2)).alloc (.cells l3.toArray T3)).heap.size = w.heap.size + 1 + 1 + 1 := by simp
  have k3 := bx_new ((w.alloc (.cells l1.toArray T1)).alloc (.cells l2.toArray T2)) l3 T3
  have g3 := gheap_new ((w.alloc (.cells l1.toArray T1)).alloc (.cells l2.toArray T2)) (.cells l3.toArray T3)
  have g1 := (below_new (w.alloc (.cells l1.toArray T1)) (.cells l2.toArray T2)).block w.heap.size (by omega) |>.trans (gheap_new w (.cells l1.toArray T1))
  rw [e2] at k3 g3
  have hs := hb.size
  exact ⟨h1.below hB, k3.below hb, by omega, by omega, fun i => frozen_of_row _ _ i _ _ ((hb.block _ (by omega)).trans g3), fun i => frozen_of_row _ _ i _ _ ((hB.block _ (by omega)).trans g1), h2.below hB, Below.onto h7 hB⟩
end Go.Proofs.Ytlphombjejgbiaa
