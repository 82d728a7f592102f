/- A region that draws its order, whose last operation waits for all others: the others first, in whatever order; then it. -/
import Derived.Test.YtiaacjollcccaaaKQuiet
import Derived.Deep.RegionHeld3
namespace Go.Proofs.Ytiaacjollcccaaa
open Go.RowKit

/-- none is guarded, each waits for earlier ones alone, the last one for all -/
def lastOk (l : List Oper) (o : Oper) : Bool :=
  o.guard.isNone && (List.range l.length).all (fun i => hasEdge o i) && o.after.toList.all (fun e => decide (e.on < l.length)) &&
  (List.range l.length).all fun i => match l[i]? with
    | none => false
    | some x => x.guard.isNone && x.after.toList.all fun e => decide (e.on < i)
/-- behind the others the last one comes up -/
def lastQ (P : Program) (o : Oper) (Q : Exit → Act → World → Prop) : Exit → Act → World → Prop
  | .normal, a, w => o.wp P a w (fun a' w' => Q .normal a' w') Q
  | e, a, w => Q e a w

section
variable {P : Program} {Q : Exit → Act → World → Prop} {l : List Oper} {o : Oper}

theorem wp_lastQ {x : Oper} {a : Act} {w : World} {K : Act → World → Prop} (h : x.wp P a w K (lastQ P o Q)) : x.wp P a w K Q := by
  unfold Oper.wp at *
  generalize (execOp a.eval x).run P w = r at *
  cases r with
  | ok n w' => cases n <;> exact h
  | halt n w' => cases n <;> exact h

structure LastOk (l : List Oper) (o : Oper) : Prop where
  guard : o.guard = none
  all : ∀ i, i < l.length → hasEdge o i = true
  low : ∀ e ∈ o.after, e.on < l.length
  each : ∀ (i : Nat) (x : Oper), l[i]? = some x → x.guard = none ∧ ∀ e ∈ x.after, e.on < i
theorem lastOk_of (h : lastOk l o = true) : LastOk l o := by
  unfold lastOk at h
  rw [Bool.and_eq_true, Bool.and_eq_true, Bool.and_eq_true] at h
  obtain ⟨⟨⟨h1, h2⟩, h4⟩, h3⟩ := h
  refine ⟨by simpa using h1, fun i hi => List.all_eq_true.1 h2 i (List.mem_range.2 hi), fun e he => by simpa using List.all_eq_true.1 h4 e (Array.mem_toList_iff.2 he), fun i x e => ?_⟩
  have hi := (List.getElem?_eq_some_iff.1 e).1
  have := List.all_eq_true.1 h3 i (List.mem_range.2 hi)
  simp only [e, Bool.and_eq_true] at this
  refine ⟨by simpa using this.1, fun y hy => ?_⟩
  have := List.all_eq_true.1 this.2 y (Array.mem_toList_iff.2 hy)
  simpa using this

theorem ready_of {ops : Array Oper} {listed : Array Bool} {i : Nat} {x : Oper} (e : ops[i]? = some x) (h1 : listed.getD i true = false) (h2 : ∀ y ∈ x.after, Region.binds .any y = true → listed.getD y.on false = true) : i ∈ Region.ready .any ops listed := by
  unfold Region.ready
  refine List.mem_filter.2 ⟨List.mem_range.2 (Array.getElem?_eq_some_iff.1 e).1, ?_⟩
  rw [Bool.and_eq_true]
  refine ⟨by simp [h1], ?_⟩
  simp only [e, Option.map_some, Option.getD_some]
  refine Array.all_eq_true_iff_forall_mem.2 fun y hy => ?_
  cases hb : Region.binds .any y
  · simp
  · simp [h2 y hy hb]
theorem ready_parts {ops : Array Oper} {listed : Array Bool} {i : Nat} (h : i ∈ Region.ready .any ops listed) : ∃ x, ops[i]? = some x ∧ listed.getD i true = false ∧ ∀ y ∈ x.after, Region.binds .any y = true → listed.getD y.on false = true := by
  unfold Region.ready at h
  obtain ⟨h1, h2⟩ := List.mem_filter.1 h
  rw [Bool.and_eq_true] at h2
  obtain ⟨x, e⟩ : ∃ x, ops[i]? = some x := ⟨ops[i]'(by simpa using h1), by simp⟩
  refine ⟨x, e, by simpa using h2.1, fun y hy hb => ?_⟩
  have h3 := h2.2
  simp only [e, Option.map_some, Option.getD_some] at h3
  have := Array.all_eq_true_iff_forall_mem.1 h3 y hy
  simpa [hb] using this

theorem getD_push {b : Array Bool} {i : Nat} {d : Bool} (h : i < b.size) : (b.push false).getD i d = b.getD i d := by
  simp only [Array.getD_eq_getD_getElem?, Array.getElem?_push]
  rw [if_neg (by omega)]
theorem getD_push_last {b : Array Bool} {d : Bool} : (b.push false).getD b.size d = false := by
  simp [Array.getD_eq_getD_getElem?]
theorem push_set {b : Array Bool} {i : Nat} (h : i < b.size) : (b.push false).setIfInBounds i true = (b.setIfInBounds i true).push false := by
  apply Array.ext_getElem?
  intro j
  simp only [Array.getElem?_setIfInBounds, Array.getElem?_push, Array.size_push, Array.size_setIfInBounds]
  grind

theorem split_last (ok : LastOk l o) : ∀ (fuel : Nat) (listed : Array Bool) (a : Act) (w : World), listed.size = l.length →
    wpAny P .any l.toArray (lastQ P o Q) fuel listed a w → wpAny P .any (l ++ [o]).toArray Q (fuel + 1) (listed.push false) a w := by
  have at1 : ∀ (i : Nat), i < l.length → (l ++ [o]).toArray[i]? = l.toArray[i]? := fun i hi => by simp [List.getElem?_append_left hi]
  have atL : (l ++ [o]).toArray[l.length]? = some o := by simp
  have edge : ∀ {x : Oper} {j : Nat}, hasEdge x j = true → ∃ e ∈ x.after, Region.binds .any e = true ∧ e.on = j := fun {x j} h => by
    obtain ⟨y, hy, hy2⟩ := List.any_eq_true.1 h
    rw [Bool.and_eq_true] at hy2
    exact ⟨y, Array.mem_toList_iff.1 hy, hy2.1, by simpa using hy2.2⟩
  have gd : ∀ (b : Array Bool) (j : Nat), j < b.size → b.getD j true = b.getD j false := fun b j hj => by
    simp only [Array.getD_eq_getD_getElem?]
    rw [Array.getElem?_eq_getElem hj]; rfl
  have over : ∀ (listed : Array Bool) (a : Act) (w : World), listed.size = l.length + 1 → (∀ j, j < l.length + 1 → listed.getD j true = true) → Q .normal a w → ∀ fuel, wpAny P .any (l ++ [o]).toArray Q fuel listed a w := by
    intro listed a w hs hall hQ fuel
    have hr : Region.ready .any (l ++ [o]).toArray listed = [] := by
      refine List.filter_eq_nil_iff.2 fun j hj => ?_
      have := hall j (by simpa using hj)
      simp [this]
    cases fuel with
    | zero => exact ⟨hr, hQ⟩
    | succ f => exact ⟨fun _ => hQ, fun i hi => by rw [hr] at hi; simp at hi⟩
  have empty : ∀ (listed : Array Bool), listed.size = l.length → Region.ready .any (l ++ [o]).toArray (listed.push false) ≠ [] := by
    intro listed hs hr
    obtain ⟨i, ⟨hi1, hi2⟩, hmin⟩ := least (p := fun i => i ≤ l.length ∧ (listed.push false).getD i true = false) l.length ⟨Nat.le_refl _, by rw [← hs]; exact getD_push_last⟩
    have hlow : ∀ j, j < i → (listed.push false).getD j false = true := fun j hj => by
      have := hmin j hj
      rw [← gd _ j (by simp; omega)]
      cases hh : (listed.push false).getD j true
      · exact absurd ⟨by omega, hh⟩ this
      · rfl
    have : i ∈ Region.ready .any (l ++ [o]).toArray (listed.push false) := by
      by_cases hil : i < l.length
      · obtain ⟨x, e⟩ : ∃ x, l[i]? = some x := ⟨l[i], by simp [hil]⟩
        exact ready_of (x := x) ((at1 i hil).trans (by simpa using e)) hi2 fun y hy _ => hlow _ ((ok.each i x e).2 y hy)
      · obtain rfl : i = l.length := by omega
        exact ready_of atL hi2 fun y hy _ => hlow _ (ok.low y hy)
    rw [hr] at this
    simp at this
  have fin : ∀ (listed : Array Bool) (a : Act) (w : World) (fuel : Nat), listed.size = l.length → (Region.ready .any l.toArray listed = [] → lastQ P o Q .normal a w) → l.length ∈ Region.ready .any (l ++ [o]).toArray (listed.push false) →
      wpOp P (l ++ [o]).toArray Q l.length (wpAny P .any (l ++ [o]).toArray Q fuel ((listed.push false).setIfInBounds l.length true)) a w := by
    intro listed a w fuel hs h hi
    obtain ⟨x, e, hun, hed⟩ := ready_parts hi
    rw [atL] at e
    cases e
    have hall : ∀ j, j < l.length → listed.getD j false = true := fun j hj => by
      obtain ⟨y, hy, hb, hj'⟩ := edge (ok.all j hj)
      have := hed y hy hb
      rw [hj', getD_push (by omega)] at this
      exact this
    have hr : Region.ready .any l.toArray listed = [] := by
      refine List.filter_eq_nil_iff.2 fun j hj => ?_
      have hj' : j < l.length := by simpa using hj
      have := hall j hj'
      rw [← gd _ j (by omega)] at this
      simp [this]
    have hq : o.wp P a w (fun a' w' => Q .normal a' w') Q := h hr
    unfold wpOp
    simp only [atL]
    rw [if_pos (by simp [Region.wanted, ok.guard])]
    refine .inl (Oper.wp_mono (fun a' w' hq' => over _ a' w' (by simp [hs]) (fun j hj => ?_) hq' fuel) hq)
    rw [getD_set]
    by_cases hjl : l.length = j
    · rw [if_pos ⟨hjl, by simp; omega⟩]
    · rw [if_neg (by omega), getD_push (by omega), gd _ j (by omega)]
      exact hall j (by omega)
  intro fuel
  induction fuel with
  | zero =>
    intro listed a w hs h
    refine ⟨fun hr => absurd hr (empty listed hs), fun i hi => ?_⟩
    obtain ⟨x, e, hun, hed⟩ := ready_parts hi
    by_cases hil : i < l.length
    · exfalso
      have : i ∈ Region.ready .any l.toArray listed := by
        rw [at1 i hil] at e
        refine ready_of e (by rwa [getD_push (by omega)] at hun) fun y hy hb => ?_
        have := hed y hy hb
        have hlt := (ok.each i x (by simpa using e)).2 y hy
        rwa [getD_push (by omega)] at this
      rw [h.1] at this
      simp at this
    · have hi2 := (Array.getElem?_eq_some_iff.1 e).1
      obtain rfl : i = l.length := by simp at hi2; omega
      exact fin listed a w 0 hs (fun _ => h.2) hi
  | succ fuel ih =>
    intro listed a w hs h
    refine ⟨fun hr => absurd hr (empty listed hs), fun i hi => ?_⟩
    obtain ⟨x, e, hun, hed⟩ := ready_parts hi
    by_cases hil : i < l.length
    · rw [at1 i hil] at e
      have hin : i ∈ Region.ready .any l.toArray listed := by
        refine ready_of e (by rwa [getD_push (by omega)] at hun) fun y hy hb => ?_
        have := hed y hy hb
        have hlt := (ok.each i x (by simpa using e)).2 y hy
        rwa [getD_push (by omega)] at this
      have h1 := h.2 i hin
      have hg := (ok.each i x (by simpa using e)).1
      unfold wpOp at h1 ⊢
      simp only [e, at1 i hil] at h1 ⊢
      rw [if_pos (by simp [Region.wanted, hg])] at h1 ⊢
      rcases h1 with h1 | ⟨h1, a1, w1, h2⟩
      · refine .inl (Oper.wp_mono (fun a' w' hk => ?_) (wp_lastQ h1))
        rw [push_set (by omega)]
        exact ih _ a' w' (by simp [hs]) hk
      · exact .inr ⟨h1, a1, w1, h2⟩
    · have hi2 := (Array.getElem?_eq_some_iff.1 e).1
      obtain rfl : i = l.length := by simp at hi2; omega
      exact fin listed a w (fuel + 1) hs h.1 hi

/-- THE LAW: the others under S, in whatever order; then the last one. -/
theorem wp_region_last {id : Nat} {a : Act} {w : World} {S : World → Prop} (hm : P.follows .mixedOrders = true) (hok : lastOk l o = true)
    (h : wpAnyH P .any l.toArray (lastQ P o Q) S l.length (Array.replicate l.length false) a w.drew) : (Code.region id (l ++ [o]).toArray true).wp P Q a w := by
  refine wp_region_any hm ?_
  have h1 := split_last (lastOk_of hok) _ _ a w.drew (by simp) (wpAny_of_held _ _ _ _ h)
  have e1 : (Array.replicate l.length false).push false = Array.replicate (l ++ [o]).toArray.size false := by
    simp [Array.replicate_succ]
  rw [e1] at h1
  simpa using h1
theorem wp_region_last2 {id : Nat} {a : Act} {w : World} {l1 : List Oper} (hne : l1 ≠ []) (S : World → Prop) (hm : P.follows .mixedOrders = true) (hok : lastOk l1.dropLast (l1.getLast hne) = true)
    (h : wpAnyH P .any l1.dropLast.toArray (lastQ P (l1.getLast hne) Q) S l1.dropLast.length (Array.replicate l1.dropLast.length false) a w.drew) : (Code.region id l1.toArray true).wp P Q a w := by
  have := wp_region_last (id := id) hm hok h
  rwa [List.dropLast_concat_getLast hne] at this

end
end Go.Proofs.Ytiaacjollcccaaa
