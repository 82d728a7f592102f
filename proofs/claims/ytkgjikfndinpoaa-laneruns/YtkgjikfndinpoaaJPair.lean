/- The program's lane and the document's, side by side. -/
import Derived.Test.YtkgjikfndinpoaaJRefA
import Derived.Test.YtkgjikfndinpoaaJEls
namespace Go.Proofs.Ytkgjikfndinpoaa
open Go.RowKit Go.Sort
set_option maxRecDepth 100000

/-- behind p the program's lane A, behind r the document's B, none of the blocks Y is theirs; the document's stand below n -/
def Pr (n : Nat) (w : World) (p r : Nat) (A B : La) (Y : Nat → Prop) : Prop :=
  ∃ (o : Lo) (rv : Value), o.p = p ∧ Lx w o A ∧ B.Ok ∧ Rq w r rv B B.L ∧ (∀ b, Y b → b < w.heap.size ∧ ¬ o.has b ∧ ¬ rhas r rv b) ∧ (∀ b, o.has b → ¬ rhas r rv b) ∧ ∀ b, rhas r rv b → b < n
section
variable {n : Nat} {w w' : World} {p r : Nat} {A B A' B' : La} {Y Z : Nat → Prop} {f : FuncId} {args : Array Value}
theorem Pr.up (t : Pr n w p r A B Y) : Pr w.heap.size w p r A B Y := by
  obtain ⟨o, rv, ho, x, ok, y, hY, hd, _⟩ := t
  exact ⟨o, rv, ho, x, ok, y, hY, hd, fun b hb => y.hlt hb⟩
theorem Pr.okA (t : Pr n w p r A B Y) : A.Ok := by
  obtain ⟨o, rv, ho, x, _⟩ := t
  exact x.ok
theorem Pr.below (t : Pr n w p r A B Y) (h : Below w.heap.size w w') : Pr n w' p r A B Y := by
  obtain ⟨o, rv, ho, x, ok, y, hY, hd, hn⟩ := t
  exact ⟨o, rv, ho, x.below h, ok, y.below h, fun b hb => ⟨Nat.lt_of_lt_of_le (hY b hb).1 h.size, (hY b hb).2⟩, hd, hn⟩
theorem Pr.less (t : Pr n w p r A B Y) (h : ∀ b, Z b → Y b) : Pr n w p r A B Z := by
  obtain ⟨o, rv, ho, x, ok, y, hY, hd, hn⟩ := t
  exact ⟨o, rv, ho, x, ok, y, fun b hb => hY b (h b hb), hd, hn⟩
theorem Pr.box (t : Pr n w p r A B Y) (z : Obj) : Pr n (w.alloc z) p r A B (fun b => Y b ∨ b = w.heap.size) := by
  obtain ⟨o, rv, ho, x, ok, y, hY, hd, hn⟩ := t
  refine ⟨o, rv, ho, x.alloc z, ok, y.below (jalloc (Below.refl _ _) z), fun b hb => ?_, hd, hn⟩
  rcases hb with hb | hb
  · exact ⟨by have := (hY b hb).1; simp; omega, (hY b hb).2⟩
  · subst hb
    exact ⟨by simp, fun h => by have := x.lt h; omega, fun h => by have := y.hlt h; omega⟩
/-- a call of the program's -/
theorem Pr.stepL (t : Pr n w p r A B Y) {R : Ending → World → Prop} (h : ∀ X, Ln w p A X → Calls Try.prog f args w fun e w' => R e w' ∧ Ln w' p A' X ∧ But (Els X) w w') :
    Calls Try.prog f args w fun e w' => R e w' ∧ Pr n w' p r A' B Y ∧ But (Els Y) w w' := by
  obtain ⟨o, rv, ho, x, ok, y, hY, hd, hn⟩ := t
  refine (h (fun b => Y b ∨ rhas r rv b) ⟨fun b hb => ?_, o, ho, x, fun b hb hh => ?_⟩).mono ?_
  · rcases hb with hb | hb
    · exact (hY b hb).1
    · exact y.hlt hb
  · rcases hb with hb | hb
    · exact (hY b hb).2.1 hh
    · exact hd b hh hb
  · rintro e w' ⟨he, ⟨hlt, o', ho', x', hX⟩, hb⟩
    refine ⟨he, ⟨o', rv, ho', x', ok, y.but hb (fun b hb' hs => hs (.inr hb')), fun b hb' => ⟨hlt b (.inl hb'), hX b (.inl hb'), (hY b hb').2.2⟩, fun b hb' hh => hX b (.inr hh) hb', hn⟩, hb.mono fun _ h h' => h (.inl h')⟩
/-- a call of the document's -/
theorem Pr.stepR (t : Pr n w p r A B Y) {R : Ending → World → Prop} (h : ∀ X, Rn w r B X → Calls Try.prog f args w fun e w' => R e w' ∧ Rn w' r B' X ∧ But (Els X) w w') :
    Calls Try.prog f args w fun e w' => R e w' ∧ Pr w'.heap.size w' p r A B' Y ∧ But (Els fun b => Y b ∨ (n ≤ b ∧ b < w.heap.size)) w w' := by
  obtain ⟨o, rv, ho, x, ok, y, hY, hd, hn⟩ := t
  refine (h (fun b => (Y b ∨ (n ≤ b ∧ b < w.heap.size)) ∨ o.has b) ⟨fun b hb => ?_, ok, rv, y, fun b hb hh => ?_⟩).mono ?_
  · rcases hb with (hb | hb) | hb
    · exact (hY b hb).1
    · exact hb.2
    · exact x.lt hb
  · rcases hb with (hb | hb) | hb
    · exact (hY b hb).2.2 hh
    · have := hn b hh; omega
    · exact hd b hb hh
  · rintro e w' ⟨he, ⟨hlt, ok', rv', y', hX⟩, hb⟩
    refine ⟨he, ⟨o, rv', ho, x.but hb (fun b hb' hs => hs (.inr hb')), ok', y', fun b hb' => ⟨hlt b (.inl (.inl hb')), (hY b hb').2.1, hX b (.inl (.inl hb'))⟩, fun b hb' hh => hX b (.inr hb') hh, fun b hb' => y'.hlt hb'⟩, hb.mono fun _ h h' => h (.inl h')⟩
/-- .. and no more is asked -/
theorem Pr.stepR' (t : Pr n w p r A B Y) {R : Ending → World → Prop} (h : ∀ X, Rn w r B X → Calls Try.prog f args w fun e w' => R e w' ∧ Rn w' r B' X ∧ But (Els X) w w') :
    Calls Try.prog f args w fun e w' => R e w' ∧ Pr w'.heap.size w' p r A B' Y ∧ But (Els Y) w w' :=
  (t.stepR h).mono fun _ _ h => ⟨h.1, h.2.1, h.2.2.mono fun _ h h' => h (.inl h')⟩
end
theorem pr_new {w0 w1 w2 : World} {p r : Nat} {rv : Value} {A B : La} (l1 : Ln w1 p A (fun b => b < w0.heap.size)) (h1 : Below w0.heap.size w0 w1) (y : Rq w2 r rv B B.L) (ok : B.Ok) (hr : ∀ b, rhas r rv b → w1.heap.size ≤ b) (h2 : Below w1.heap.size w1 w2) : Pr w2.heap.size w2 p r A B (fun b => b < w0.heap.size) := by
  obtain ⟨k1, o, ho, x, hY⟩ := l1
  refine ⟨o, rv, ho, x.below h2, ok, y, fun b hb => ⟨Nat.lt_of_lt_of_le hb (Nat.le_trans h1.size h2.size), hY b hb, fun h => ?_⟩, fun b hb h => ?_, fun b hb => y.hlt hb⟩
  · have := hr b h
    have := h1.size
    omega
  · have := hr b h
    have := x.lt hb
    omega
end Go.Proofs.Ytkgjikfndinpoaa
