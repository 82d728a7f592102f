/- Two lanes beside each other, and blocks of others. -/
import Derived.Test.YtilahfomiofgcaaJEls
namespace Go.Proofs.Ytilahfomiofgcaa
open Go.RowKit Go.Sort
set_option maxRecDepth 100000

/-- a lane A behind p, a lane B behind r, and blocks Y of neither -/
def Two (w : World) (p r : Nat) (A B : La) (Y : Nat → Prop) : Prop :=
  ∃ o : Lo, o.p = r ∧ Lx w o B ∧ (∀ b, Y b → ¬ o.has b) ∧ Ln w p A (fun b => Y b ∨ o.has b)
section
variable {w w' : World} {p r : Nat} {A B A' B' : La} {Y Z : Nat → Prop} {f : FuncId} {args : Array Value}
theorem Two.swap (t : Two w p r A B Y) : Two w r p B A Y := by
  obtain ⟨o, ho, x, hY, h1, q, hq, y, hX⟩ := t
  refine ⟨q, hq, y, fun b hb => hX b (.inl hb), fun b hb => ?_, o, ho, x, fun b hb h => ?_⟩
  · rcases hb with hb | hb
    · exact h1 b (.inl hb)
    · exact y.lt hb
  · rcases hb with hb | hb
    · exact hY b hb h
    · exact hX b (.inr h) hb
theorem Two.lt (t : Two w p r A B Y) {b : Nat} (h : Y b) : b < w.heap.size := by
  obtain ⟨o, ho, x, hY, h1, _⟩ := t
  exact h1 b (.inl h)
theorem Two.okA (t : Two w p r A B Y) : A.Ok := by
  obtain ⟨_, _, _, _, l⟩ := t
  exact l.ok
theorem Two.okB (t : Two w p r A B Y) : B.Ok := t.swap.okA
theorem Two.below (t : Two w p r A B Y) (h : Below w.heap.size w w') : Two w' p r A B Y := by
  obtain ⟨o, ho, x, hY, l⟩ := t
  exact ⟨o, ho, x.below h, hY, l.below h⟩
theorem Two.less (t : Two w p r A B Y) (h : ∀ b, Z b → Y b) : Two w p r A B Z := by
  obtain ⟨o, ho, x, hY, l⟩ := t
  refine ⟨o, ho, x, fun b hb => hY b (h b hb), l.less fun b hb => ?_⟩
  rcases hb with hb | hb
  · exact .inl (h b hb)
  · exact .inr hb
theorem Two.box (t : Two w p r A B Y) (z : Obj) : Two (w.alloc z) p r A B (fun b => Y b ∨ b = w.heap.size) := by
  obtain ⟨o, ho, x, hY, l⟩ := t
  refine ⟨o, ho, x.alloc z, fun b hb h => ?_, (l.box z).less fun b hb => ?_⟩
  · rcases hb with hb | hb
    · exact hY b hb h
    · have := x.lt h; omega
  · rcases hb with (hb | hb) | hb
    · exact .inl (.inl hb)
    · exact .inr hb
    · exact .inl (.inr hb)
/-- a call of the first -/
theorem Two.step (t : Two w p r A B Y) {R : Ending → World → Prop} (h : ∀ X, (∀ b, Y b → X b) → Ln w p A X → Calls Try.prog f args w fun e w' => R e w' ∧ Ln w' p A' X ∧ But (Els X) w w') :
    Calls Try.prog f args w fun e w' => R e w' ∧ Two w' p r A' B Y ∧ But (Els Y) w w' := by
  obtain ⟨o, ho, x, hY, l⟩ := t
  refine (h _ (fun _ h => .inl h) l).mono ?_
  rintro e w' ⟨he, l', hb⟩
  exact ⟨he, ⟨o, ho, x.but hb (fun b hb' h => h (.inr hb')), hY, l'⟩, hb.mono fun _ h h' => h (.inl h')⟩
/-- a call of the second -/
theorem Two.stepB (t : Two w p r A B Y) {R : Ending → World → Prop} (h : ∀ X, (∀ b, Y b → X b) → Ln w r B X → Calls Try.prog f args w fun e w' => R e w' ∧ Ln w' r B' X ∧ But (Els X) w w') :
    Calls Try.prog f args w fun e w' => R e w' ∧ Two w' p r A B' Y ∧ But (Els Y) w w' :=
  (t.swap.step h).mono fun _ _ h => ⟨h.1, h.2.1.swap, h.2.2⟩
end
/-- two new ones -/
theorem two_new {w0 w1 w2 : World} {p r : Nat} {A B : La} (l1 : Ln w1 p A (fun b => b < w0.heap.size)) (h1 : Below w0.heap.size w0 w1) (l2 : Ln w2 r B (fun b => b < w1.heap.size)) (h2 : Below w1.heap.size w1 w2) : Two w2 p r A B (fun b => b < w0.heap.size) := by
  obtain ⟨_, o, ho, x, hX⟩ := l2
  obtain ⟨k1, q, hq, y, hY⟩ := l1
  refine ⟨o, ho, x, fun b hb => hX b (Nat.lt_of_lt_of_le hb h1.size), fun b hb => ?_, q, hq, y.below h2, fun b hb h => ?_⟩
  · rcases hb with hb | hb
    · exact Nat.lt_of_lt_of_le hb (Nat.le_trans h1.size h2.size)
    · exact x.lt hb
  · rcases hb with hb | hb
    · exact hY b hb h
    · exact hX b (y.lt h) hb

/-! ### one-way lanes that are alike to their senders -/
structure Like1 (A B : La) : Prop where
  two : A.two = false
  st : A.st = B.st
  cr : A.cr = B.cr
  c : A.c = B.c
  ep : A.ep = B.ep
  C : A.C = B.C
  n : A.T.length + A.P.length = B.T.length + B.P.length
section
variable {A B : La}
theorem Like1.len (h : Like1 A B) : A.len = B.len := by
  have h1 := h.n
  unfold La.len
  rw [h.C]
  omega
theorem Like1.room (h : Like1 A B) : roomB A = roomB B := by unfold roomB; rw [h.len, h.cr]
theorem Like1.r (h : Like1 A B) : A.r = B.r := by unfold La.r; rw [h.c, h.C]
theorem Like1.claimV (h : Like1 A B) : claimV A = claimV B := by unfold Proofs.Ytilahfomiofgcaa.claimV; rw [h.room, h.st, h.c, h.ep]
theorem Like1.claim (h : Like1 A B) : Like1 (claimA A) (claimA B) := by
  unfold claimA
  rw [h.room]
  split
  · exact ⟨h.two, h.st, h.cr, by simp [h.c], h.ep, by simp [h.C, h.c], h.n⟩
  · exact h
theorem Like1.inC (h : Like1 A B) (q e : Int) : inC A q e = Proofs.Ytilahfomiofgcaa.inC B q e := by unfold Proofs.Ytilahfomiofgcaa.inC; rw [h.ep, h.r, h.st, h.c]
theorem Like1.atC (h : Like1 A B) (q : Int) : atC A q = Proofs.Ytilahfomiofgcaa.atC B q := by unfold Proofs.Ytilahfomiofgcaa.atC; rw [h.r, h.st]
theorem Like1.layE (h : Like1 A B) (q e : Int) : layE A q e = Proofs.Ytilahfomiofgcaa.layE B q e := by unfold Proofs.Ytilahfomiofgcaa.layE; rw [h.inC]
theorem Like1.lay (h : Like1 A B) (q e n g : Int) : Like1 (layA A q e n g) (layA B q e n g) := by
  unfold layA
  rw [h.inC, h.atC, h.C]
  split
  · exact ⟨h.two, h.st, h.cr, h.c, h.ep, rfl, h.n⟩
  · exact h
theorem Like1.lackE (h : Like1 A B) (q e : Int) : lackE A q e = Proofs.Ytilahfomiofgcaa.lackE B q e := by unfold Proofs.Ytilahfomiofgcaa.lackE laidB; rw [h.inC, h.atC, h.C, h.st, h.r]
theorem Like1.pub (h : Like1 A B) (q e t s : Int) : Like1 (pubA A q e t s) (pubA B q e t s) := by
  unfold pubA
  rw [h.lackE, h.C]
  split
  · split
    · exact h
    · exact ⟨h.two, h.st, h.cr, h.c, h.ep, rfl, by simp; have := h.n; omega⟩
  · exact h
theorem Like1.take (h : Like1 A B) : Like1 (takeA A) B := by
  unfold takeA
  split
  · exact h
  · rename_i m P hP
    exact ⟨h.two, h.st, h.cr, h.c, h.ep, h.C, by have := h.n; rw [hP] at this; simp at this ⊢; omega⟩
theorem Like1.ret (h : Like1 A B) (q e : Int) : Like1 (retA A q e) B := by
  unfold retA
  split
  · rw [if_neg (by rw [h.two]; simp)]
    exact ⟨h.two, h.st, h.cr, h.c, h.ep, h.C, by simp [holdL]; exact h.n⟩
  · exact h
theorem Like1.resE (h : Like1 A B) : resE A = Proofs.Ytilahfomiofgcaa.resE B := by unfold Proofs.Ytilahfomiofgcaa.resE; rw [h.C]
theorem Like1.res (h : Like1 A B) : Like1 (resA A) (resA B) := by
  unfold resA
  rw [h.C]
  split
  · exact ⟨h.two, h.st, h.cr, h.c, by simp [h.ep], by simp, by simp⟩
  · exact h
theorem Like1.left (h : Like1 A B) : leftI A = leftI B := by unfold leftI; rw [h.cr, h.len]
end
theorem Like1.new {n : Nat} {st : Int} : Like1 (newA n false st) (newA n false st) := ⟨rfl, rfl, rfl, rfl, rfl, rfl, rfl⟩
end Go.Proofs.Ytilahfomiofgcaa
