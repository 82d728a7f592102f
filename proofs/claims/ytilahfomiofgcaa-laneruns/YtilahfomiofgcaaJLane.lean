/- A lane behind a pointer, and blocks of others that its calls leave alone. -/
import Derived.Test.YtilahfomiofgcaaJRet
namespace Go.Proofs.Ytilahfomiofgcaa
open Go.RowKit Go.Sort
set_option maxRecDepth 100000

/-- behind p lies a lane A; none of the blocks X is its -/
def Ln (w : World) (p : Nat) (A : La) (X : Nat → Prop) : Prop := (∀ b, X b → b < w.heap.size) ∧ ∃ o : Lo, o.p = p ∧ Lx w o A ∧ ∀ b, X b → ¬ o.has b
abbrev pV (p : Nat) : Value := .pointer (some ⟨p, 0, none⟩)
abbrev Els (X : Nat → Prop) : Nat → Prop := fun b => ¬ X b
theorem Ln.ok {w : World} {p : Nat} {A : La} {X : Nat → Prop} (l : Ln w p A X) : A.Ok := by
  obtain ⟨_, o, _, x, _⟩ := l
  exact x.ok
theorem Ln.below {w w' : World} {p : Nat} {A : La} {X : Nat → Prop} (l : Ln w p A X) (hb : Below w.heap.size w w') : Ln w' p A X := by
  obtain ⟨h, o, hp, x, hX⟩ := l
  exact ⟨fun b hx => Nat.lt_of_lt_of_le (h b hx) hb.size, o, hp, x.below hb, hX⟩
theorem Ln.box {w : World} {p : Nat} {A : La} {X : Nat → Prop} (l : Ln w p A X) (z : Obj) : Ln (w.alloc z) p A (fun b => X b ∨ b = w.heap.size) := by
  obtain ⟨h, o, hp, x, hX⟩ := l
  refine ⟨fun b hb => ?_, o, hp, x.alloc z, fun b hb ho => ?_⟩
  · rcases hb with hb | hb
    · have := h b hb; simp; omega
    · simp [hb]
  · rcases hb with hb | hb
    · exact hX b hb ho
    · have := x.lt ho; omega
/-- foreign stores -/
theorem Ln.but {w w' : World} {p : Nat} {A : La} {X S : Nat → Prop} (l : Ln w p A X) (hb : But S w w') (hS : ∀ b, S b → X b) : Ln w' p A X := by
  obtain ⟨h, o, hp, x, hX⟩ := l
  exact ⟨fun b hx => Nat.lt_of_lt_of_le (h b hx) hb.size, o, hp, x.but hb (fun b ho hs => hX b (hS b hs) ho), hX⟩
theorem Ln.less {w : World} {p : Nat} {A : La} {X Y : Nat → Prop} (l : Ln w p A X) (h : ∀ b, Y b → X b) : Ln w p A Y := by
  obtain ⟨h1, o, hp, x, hX⟩ := l
  exact ⟨fun b hb => h1 b (h b hb), o, hp, x, fun b hb => hX b (h b hb)⟩
theorem els_below {X : Nat → Prop} {w w' : World} (h : Below w.heap.size w w') : But (Els X) w w' := But.of h
theorem els_cell {X : Nat → Prop} {w w' : World} (h : But (Els X) w w') {b i : Nat} {v : Value} (hX : X b) (hc : w.cell? ⟨b, i, none⟩ = some v) : w'.cell? ⟨b, i, none⟩ = some v := h.cell hc (fun h => h hX)

section
variable {w : World} {p : Nat} {A A' : La} {X : Nat → Prop} {f : FuncId} {args : Array Value} {v : Value}
theorem lift (l : Ln w p A X) (h : ∀ o : Lo, o.p = p → Lx w o A → Calls Try.prog f args w fun e w' => e = .returned v ∧ Goes w o w' A') :
    Calls Try.prog f args w fun e w' => e = .returned v ∧ Ln w' p A' X ∧ But (Els X) w w' := by
  obtain ⟨hlt, o, hp, x, hX⟩ := l
  refine (h o hp x).mono ?_
  rintro e w' ⟨he, o', hp', x', hb, hh⟩
  refine ⟨he, ⟨fun b hb' => Nat.lt_of_lt_of_le (hlt b hb') hb.size, o', hp'.trans hp, x', fun b hb' ho => ?_⟩, hb.mono fun i hi hx => hX i hx hi⟩
  rcases hh b ho with h1 | h1
  · exact hX b hb' h1
  · have := hlt b hb'; omega
theorem liftB (l : Ln w p A X) (h : ∀ o : Lo, o.p = p → Lx w o A → Calls Try.prog f args w fun e w' => e = .returned v ∧ Below w.heap.size w w') :
    Calls Try.prog f args w fun e w' => e = .returned v ∧ Ln w' p A X ∧ But (Els X) w w' :=
  lift l fun o hp x => (h o hp x).mono fun _ _ h' => ⟨h'.1, Goes.stay x h'.2⟩

def claimV (A : La) : Value := if roomB A then .tuple #[tkV (sqI A.st A.c) A.ep, .int .i64 0] else .tuple #[tkV 0 0, .int .i64 81]
theorem claimN (l : Ln w p A X) (hc : A.c < 1000000) : Calls Try.prog 10 #[pV p] w fun e w' => e = .returned (claimV A) ∧ Ln w' p (claimA A) X ∧ But (Els X) w w' := by
  unfold claimV
  cases hr : roomB A
  · have e : claimA A = A := by simp [claimA, hr]
    rw [e]
    simp only [Bool.false_eq_true, if_false]
    exact liftB l fun o hp x => by subst hp; exact jclaim_no o A w x hr
  · simp only [if_true]
    exact lift l fun o hp x => by subst hp; exact jclaim_ok o A w x hr hc
theorem layN (l : Ln w p A X) {q e n g : Int} (q0 : 0 ≤ q) (q1 : q < 18446744073709551616) : Calls Try.prog 11 #[pV p, tkV q e, slV n g] w fun v w' => v = .returned (.int .i64 (layE A q e)) ∧ Ln w' p (layA A q e n g) X ∧ But (Els X) w w' :=
  lift l fun o hp x => by subst hp; exact jlay o A q e n g w x q0 q1
theorem pubN (l : Ln w p A X) {q e t s : Int} (q0 : 0 ≤ q) (q1 : q < 18446744073709551616) : Calls Try.prog 12 #[pV p, tkV q e, smV t s] w fun v w' => v = .returned (.int .i64 (lackE A q e)) ∧ Ln w' p (pubA A q e t s) X ∧ But (Els X) w w' :=
  lift l fun o hp x => by subst hp; exact jpub o A q e t s w x q0 q1
theorem readyN (l : Ln w p A X) {q e : Int} (q0 : 0 ≤ q) (q1 : q < 18446744073709551616) : Calls Try.prog 15 #[pV p, tkV q e] w fun v w' => v = .returned (.bool (decide (lackE A q e = 0))) ∧ Ln w' p A X ∧ But (Els X) w w' :=
  liftB l fun o hp x => by subst hp; exact jready o A q e w x q0 q1
theorem stateN (l : Ln w p A X) : Calls Try.prog 8 #[pV p] w fun v w' => v = .returned (staV A) ∧ Ln w' p A X ∧ But (Els X) w w' :=
  liftB l fun o hp x => by subst hp; exact jState o A w x
def firstV (A : La) : Value := match A.P with
  | [] => .tuple #[smV 0 0, tkV 0 0, .bool false]
  | m :: _ => .tuple #[smV m.tk m.sp, tkV (sqI A.st m.k) A.ep, .bool true]
theorem firstN (l : Ln w p A X) : Calls Try.prog 20 #[pV p] w fun v w' => v = .returned (firstV A) ∧ Ln w' p A X ∧ But (Els X) w w' := by
  unfold firstV
  cases hP : A.P with
  | nil => exact liftB l fun o hp x => by subst hp; exact jfirst_no o A w x hP
  | cons m P' => exact liftB l fun o hp x => by subst hp; exact jfirst_ok o A w x hP
def takeV (A : La) : Value := match A.P with
  | [] => .tuple #[slV 0 0, tkV 0 0, .int .i64 82]
  | m :: _ => .tuple #[slV m.n m.g, tkV (sqI A.st m.k) A.ep, .int .i64 0]
theorem takeN (l : Ln w p A X) : Calls Try.prog 13 #[pV p] w fun v w' => v = .returned (takeV A) ∧ Ln w' p (takeA A) X ∧ But (Els X) w w' := by
  unfold takeV
  cases hP : A.P with
  | nil =>
    have e : takeA A = A := by unfold takeA; rw [hP]
    rw [e]
    exact liftB l fun o hp x => by subst hp; exact jtake_no o A w x hP
  | cons m P' => exact lift l fun o hp x => by subst hp; exact jtake_ok o A w x hP
theorem retN (l : Ln w p A X) {q e : Int} (q0 : 0 ≤ q) (q1 : q < 18446744073709551616) :
    Calls Try.prog 14 #[pV p, tkV q e] w fun v w' => v = .returned (.tuple #[slV (retS A q e).1 (retS A q e).2, .bool (retB A q e), .int .i64 (retE A q e)]) ∧ Ln w' p (retA A q e) X ∧ But (Els X) w w' := by
  by_cases he : e = A.ep
  · cases ht : takenB A q
    · have e1 : retS A q e = (0, 0) := by unfold retS; rw [if_neg (by rw [ht]; simp)]
      have e2 : retB A q e = false := by unfold retB; rw [ht]; simp
      have e3 : retE A q e = 82 := by unfold retE; rw [if_pos he, ht]; simp
      have e4 : retA A q e = A := by unfold retA; rw [if_neg (by rw [ht]; simp)]
      rw [e1, e2, e3, e4]
      exact liftB l fun o hp x => by subst hp; exact jret_gone o A q e w x q0 q1 he ht
    · have e2 : retB A q e = A.two := by unfold retB; rw [ht, he]; simp
      have e3 : retE A q e = 0 := by unfold retE; rw [if_pos he, ht]; simp
      rw [e2, e3]
      exact lift l fun o hp x => by subst hp; exact jret_ok o A q e w x q0 q1 he ht
  · have e1 : retS A q e = (0, 0) := by unfold retS; rw [if_neg (by rintro ⟨h, _⟩; exact he h)]
    have e2 : retB A q e = false := by unfold retB; simp [he]
    have e3 : retE A q e = 0 := by unfold retE; rw [if_neg he]
    have e4 : retA A q e = A := by unfold retA; rw [if_neg (by rintro ⟨h, _⟩; exact he h)]
    rw [e1, e2, e3, e4]
    exact liftB l fun o hp x => by subst hp; exact jret_other o A q e w x q0 q1 he
theorem newN (w : World) {c : Nat} {two : Bool} {st : Int} (h1 : 1 ≤ c) (h2 : c ≤ 64) (s0 : 0 ≤ st) (s1 : st < 18446744073709551616) :
    Calls Try.prog 5 #[.int .i64 (c : Int), .bool two, .int .u64 st] w fun v w' => ∃ p, v = .returned (.tuple #[pV p, .int .i64 0]) ∧ Ln w' p (newA c two st) (fun b => b < w.heap.size) ∧ Below w.heap.size w w' :=
  (jnew_ok c two st w h1 h2 s0 s1).mono fun _ w' ⟨o, he, x, hb, hh⟩ => ⟨o.p, he, ⟨fun b hb' => Nat.lt_of_lt_of_le hb' hb.size, o, rfl, x, fun b hb' ho => by have := hh b ho; omega⟩, hb⟩
end
end Go.Proofs.Ytilahfomiofgcaa
