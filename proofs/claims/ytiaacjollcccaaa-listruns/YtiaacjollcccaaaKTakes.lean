/- In a region that draws its order: what only reads is taken first, all at once. -/
import Derived.Test.YtiaacjollcccaaaKLast
namespace Go.Proofs.Ytiaacjollcccaaa
open Go.RowKit

def dstsOf (ops : Array Oper) (l : List Nat) : List Nat := l.filterMap fun i => (ops[i]?).bind (·.dst)
def putIdx (af : Act) (ops : Array Oper) : List Nat → Act → Act
  | [], a => a
  | i :: l, a => putIdx af ops l (match (ops[i]?).bind (·.dst) with | some d => a.put (some d) (af.tmps.getD d undef) | none => a)
def markIdx : List Nat → Array Bool → Array Bool
  | [], b => b
  | i :: l, b => markIdx l (b.setIfInBounds i true)
def takesOk (ops : Array Oper) : List Nat → Array Bool → Bool
  | [], _ => true
  | i :: l, listed => (match ops[i]? with
      | none => false
      | some o => o.guard.isNone && o.dst.isSome && (tmpsOf o).all fun d => !(dstsOf ops (i :: l)).contains d) &&
    Region.free .any ops listed i && (Region.ready .any ops listed).contains i && takesOk ops l (listed.setIfInBounds i true)
def ReadsI (P : Program) (ops : Array Oper) (S : World → Prop) (af : Act) : List Nat → Prop
  | [] => True
  | i :: l => (∃ o d v, ops[i]? = some o ∧ o.dst = some d ∧ af.tmps[d]? = some v ∧ ∀ W, S W → (execOp af.eval o).run P W = .ok (.value v) W) ∧ ReadsI P ops S af l

section
variable {P : Program} {ops : Array Oper} {Q : Exit → Act → World → Prop} {S : World → Prop} {af : Act} {w : World}

theorem putIdx_other (l : List Nat) (a : Act) (d : Nat) (h : d ∉ dstsOf ops l) : (putIdx af ops l a).tmps[d]? = a.tmps[d]? := by
  induction l generalizing a with
  | nil => rfl
  | cons i l ih =>
    have h1 : d ∉ dstsOf ops l := fun hm => h (by
      simp only [dstsOf, List.mem_filterMap] at hm ⊢
      obtain ⟨j, hj, e⟩ := hm
      exact ⟨j, by simp [hj], e⟩)
    refine (ih _ h1).trans ?_
    cases hd : (ops[i]?).bind (·.dst) with
    | none => rfl
    | some d' =>
      show (a.tmps.setIfInBounds d' _)[d]? = _
      rw [Array.getElem?_setIfInBounds, if_neg]
      rintro rfl
      exact h (by simp only [dstsOf, List.mem_filterMap]; exact ⟨i, by simp, hd⟩)

theorem takes (hs : Region.noSelect ops = true) (hQ : ∀ c a d v w, Q (.panic c) (Act.put a d v) w → Q (.panic c) a w) (hS : S w) :
    ∀ (idx : List Nat) (fuel : Nat) (listed : Array Bool) (a : Act), takesOk ops idx listed = true → putIdx af ops idx a = af → ReadsI P ops S af idx →
      wpAnyH P .any ops Q S fuel (markIdx idx listed) af w → wpAnyH P .any ops Q S (fuel + idx.length) listed a w
  | [], fuel, listed, a, _, hp, _, h => by
    have : a = af := hp
    rw [this]; exact h
  | i :: l, fuel, listed, a, hok, hp, hr, h => by
    obtain ⟨⟨o, d, v, e, hd, hv, hrun⟩, hr2⟩ := hr
    simp only [takesOk, e, Bool.and_eq_true] at hok
    obtain ⟨⟨⟨⟨⟨hg, _⟩, hops⟩, hfree⟩, hready⟩, hrest⟩ := hok
    have hgd : o.guard = none := by simpa using hg
    have hev : ∀ x ∈ o.op.operands, a.eval x = af.eval x := by
      intro x hx
      cases x with
      | tmp d' =>
        have hm : d' ∈ tmpsOf o := List.mem_filterMap.2 ⟨.tmp d', Array.mem_toList_iff.2 hx, rfl⟩
        have hn := List.all_eq_true.1 hops d' hm
        have h1 := putIdx_other (af := af) (ops := ops) (i :: l) a d' (by simpa using hn)
        rw [hp] at h1
        show a.tmps.getD d' undef = af.tmps.getD d' undef
        simp only [Array.getD_eq_getD_getElem?, h1]
      | _ => rfl
    have hsel := Region.noSelect_spec hs
    have hex := execOp_congr o (fun cs b => hsel i o cs b e) hev
    have hgv : af.tmps.getD d undef = v := by simp only [Array.getD_eq_getD_getElem?, hv]; rfl
    have h2 := takes hs hQ hS l fuel (listed.setIfInBounds i true) (a.put o.dst v) hrest (by
      have : putIdx af ops (i :: l) a = putIdx af ops l (a.put (some d) (af.tmps.getD d undef)) := by
        show putIdx af ops l (match (ops[i]?).bind (·.dst) with | some d => a.put (some d) (af.tmps.getD d undef) | none => a) = _
        simp only [e, Option.bind_some, hd]
      rw [hd, ← hgv, ← this]; exact hp) hr2 h
    have := wpAnyH_take (i := i) (oi := o) (v := v) (fuel := fuel + l.length) (listed := listed) (a := a) e hs hfree hready (fun c a w => hQ c a o.dst v w)
      (Or.inl ⟨by simp [Region.wanted, hgd], fun W hW => by rw [hex]; exact hrun W hW⟩) hS h2
    exact this
end
end Go.Proofs.Ytiaacjollcccaaa
