/- A lane beside a row of a law's own. -/
import Derived.Test.YtmdoiokgfdolpaaJOut
namespace Go.Proofs.Ytmdoiokgfdolpaa
open Go.RowKit Go.Sort
set_option maxRecDepth 100000

/-- blocks that are not the lane's: what came in, and the law's row -/
def Xo (w : World) (v : Value) (b : Nat) : Prop := b < w.heap.size ∨ v.ownBlock = some b
theorem els_base {w wr w' : World} {X : Nat → Prop} (h : Below w.heap.size w wr) (hb : But (Els X) wr w') (hX : ∀ b, b < w.heap.size → X b) : Below w.heap.size w w' :=
  h.trans ⟨hb.os, hb.tape, hb.output, hb.size, fun k hk => hb.block k (Nat.lt_of_lt_of_le hk h.size) (fun hn => hn (hX k hk))⟩
/-- a lane A behind p, and a row v of cells xs -/
structure St (w wr : World) (p : Nat) (A : La) (T : TypeId) (sz : Nat) (v : Value) (n : Nat) (xs : List Value) : Prop where
  ln : Ln wr p A (Xo w v)
  own : wr.ownsRow w.heap.size T sz v n xs
  bel : Below w.heap.size w wr
section
variable {w wr w' : World} {p : Nat} {A A' : La} {T : TypeId} {sz : Nat} {v : Value} {n : Nat} {xs : List Value}
theorem St.step (s : St w wr p A T sz v n xs) (l : Ln w' p A' (Xo w v)) (b : But (Els (Xo w v)) wr w') : St w w' p A' T sz v n xs :=
  ⟨l, own_block s.own fun q hq => b.block q (s.own.lt q hq).2 (fun h => h (.inr hq)), els_base s.bel b fun _ h => .inl h⟩
theorem St.below (s : St w wr p A T sz v n xs) (h : Below wr.heap.size wr w') : St w w' p A T sz v n xs :=
  ⟨s.ln.below h, own_block s.own fun q hq => h.block q (s.own.lt q hq).2, Below.onto s.bel h⟩
theorem St.alloc (s : St w wr p A T sz v n xs) (o : Obj) : St w (wr.alloc o) p A T sz v n xs := s.below (jalloc (Below.refl _ _) o)
theorem St.grow (s : St w wr p A T sz v n xs) {v' : Value} {n' : Nat} {xs' : List Value} (o : w'.ownsRow w.heap.size T sz v' n' xs') (hg : wr.grownBy w' v.ownBlock) (hl : v'.ownBlock = v.ownBlock ∨ v'.ownBlock = some wr.heap.size) : St w w' p A T sz v' n' xs' := by
  have hb : But (fun b => v.ownBlock = some b) wr w' := ⟨hg.os, hg.tape, hg.output, hg.size, fun k hk hne => hg.block k hk (fun e => hne e.symm)⟩
  refine ⟨?_, o, s.bel.grown hg s.bel.size (fun q e => (s.own.lt q e).1)⟩
  obtain ⟨h1, o1, hp, x, hX⟩ := s.ln
  refine ⟨fun b hx => ?_, o1, hp, x.but hb (fun b ho hs => hX b (.inr hs) ho), fun b hx ho => ?_⟩
  · rcases hx with hx | hx
    · exact Nat.lt_of_lt_of_le (h1 b (.inl hx)) hb.size
    · exact (o.lt b hx).2
  · rcases hx with hx | hx
    · exact hX b (.inl hx) ho
    · rcases hl with hl | hl
      · exact hX b (.inr (hl ▸ hx)) ho
      · have h9 := x.lt ho
        rw [hx] at hl
        have := Option.some.inj hl
        omega
theorem St.nil (l : Ln wr p A (fun b => b < w.heap.size)) (h : Below w.heap.size w wr) : St w wr p A T sz (.slice none 0 0) 0 [] :=
  ⟨l.less fun b hb => by
    rcases hb with hb | hb
    · exact hb
    · exact absurd hb (by simp [Value.ownBlock]), World.ownsRow_nil _ _ _ _, h⟩
theorem St.row (s : St w wr p A T sz v n xs) (l : Ln w' p A' (Xo w v)) (b : But (Els (Xo w v)) wr w') : St w w' p A' T sz (.slice none 0 0) 0 [] :=
  St.nil ((s.step l b).ln.less fun _ h => .inl h) (s.step l b).bel
end
end Go.Proofs.Ytmdoiokgfdolpaa
