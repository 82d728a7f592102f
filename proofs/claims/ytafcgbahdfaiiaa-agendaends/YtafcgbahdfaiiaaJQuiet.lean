/- A region that draws its order, all but whose last operation are quiet in the class 'old blocks stay', and whose last one waits for all: one walk. -/
import Derived.Test.YtafcgbahdfaiiaaKLast
import Derived.Lib.QuietBelow
import Derived.BigRegion
namespace Go.Proofs.Ytafcgbahdfaiiaa
open Go.RowKit Go.Sort

/-- does an operation wait for number i, if over others? -/
def reach (l : List Oper) : Nat → Oper → Nat → Bool
  | 0, o, i => hasEdge o i
  | n + 1, o, i => hasEdge o i || (List.range l.length).any fun j => hasEdge o j && match l[j]? with
    | none => false
    | some x => reach l n x i
def lastOk3 (l : List Oper) (o : Oper) : Bool :=
  o.guard.isNone && (List.range l.length).all (fun i => reach l 4 o i) && o.after.toList.all (fun e => decide (e.on < l.length)) &&
  (List.range l.length).all fun i => match l[i]? with
    | none => false
    | some x => x.guard.isNone && x.after.toList.all fun e => decide (e.on < i)
structure LastOk3 (l : List Oper) (o : Oper) : Prop where
  guard : o.guard = none
  all : ∀ i, i < l.length → reach l 4 o i = true
  low : ∀ e ∈ o.after, e.on < l.length
  each : ∀ (i : Nat) (x : Oper), l[i]? = some x → x.guard = none ∧ ∀ e ∈ x.after, e.on < i
theorem lastOk3_of {l : List Oper} {o : Oper} (h : lastOk3 l o = true) : LastOk3 l o := by
  unfold lastOk3 at h
  rw [Bool.and_eq_true, Bool.and_eq_true, Bool.and_eq_true] at h
  obtain ⟨⟨⟨h1, h2⟩, h4⟩, h3⟩ := h
  refine ⟨by simpa using h1, fun i hi => List.all_eq_true.1 h2 i (List.mem_range.2 hi), fun e he => by simpa using List.all_eq_true.1 h4 e (Array.mem_toList_iff.2 he), fun i x e => ?_⟩
  have hi := (List.getElem?_eq_some_iff.1 e).1
  have := List.all_eq_true.1 h3 i (List.mem_range.2 hi)
  simp only [e, Bool.and_eq_true] at this
  refine ⟨by simpa using this.1, fun y hy => ?_⟩
  have := List.all_eq_true.1 this.2 y (Array.mem_toList_iff.2 hy)
  simpa using this
/-- whoever has been done, those for which it waits have -/
def Shut (l : List Oper) (listed : Array Bool) : Prop := ∀ (i : Nat) (x : Oper), l[i]? = some x → listed.getD i false = true → ∀ y ∈ x.after, Region.binds .any y = true → listed.getD y.on false = true
theorem shut_none (l : List Oper) (n : Nat) : Shut l (Array.replicate n false) := fun i x _ h => by
  simp only [Array.getD_eq_getD_getElem?, Array.getElem?_replicate] at h
  split at h <;> simp at h
theorem set_true {b : Array Bool} {i j : Nat} (h : b.getD j false = true) : (b.setIfInBounds i true).getD j false = true := by
  simp only [Array.getD_eq_getD_getElem?, Array.getElem?_setIfInBounds] at h ⊢
  split
  · split <;> simp_all
  · exact h
theorem Shut.more {l : List Oper} {listed : Array Bool} (h : Shut l listed) {i : Nat} {x : Oper} (e : l[i]? = some x) (hs : i < listed.size) (hx : ∀ y ∈ x.after, Region.binds .any y = true → listed.getD y.on false = true) : Shut l (listed.setIfInBounds i true) := fun k z ez hk y hy hb => by
  by_cases hki : k = i
  · subst hki
    rw [e] at ez
    cases ez
    exact set_true (hx y hy hb)
  · refine set_true (h k z ez ?_ y hy hb)
    simp only [Array.getD_eq_getD_getElem?, Array.getElem?_setIfInBounds, if_neg (Ne.symm hki)] at hk ⊢
    exact hk
theorem reach_listed {l : List Oper} {listed : Array Bool} (hs : Shut l listed) : ∀ (n : Nat) {o : Oper} {i : Nat}, (∀ j, hasEdge o j = true → listed.getD j false = true) → reach l n o i = true → listed.getD i false = true
  | 0, _, i, hd, h => hd i h
  | n + 1, o, i, hd, h => by
    unfold reach at h
    rw [Bool.or_eq_true] at h
    rcases h with h | h
    · exact hd i h
    · obtain ⟨j, _, hj⟩ := List.any_eq_true.1 h
      rw [Bool.and_eq_true] at hj
      obtain ⟨hj1, hj2⟩ := hj
      cases ej : l[j]? with
      | none => rw [ej] at hj2; cases hj2
      | some x =>
        rw [ej] at hj2
        refine reach_listed hs n (fun k hk => ?_) hj2
        obtain ⟨y, hy, hy2⟩ := List.any_eq_true.1 hk
        rw [Bool.and_eq_true] at hy2
        have := hs j x ej (hd j hj1) y (Array.mem_toList_iff.1 hy) hy2.1
        have hyk : y.on = k := by simpa using hy2.2
        rwa [hyk] at this
section
variable {P : Program} {Q : Exit → Act → World → Prop} {l : List Oper} {o : Oper}
theorem split_last3 (ok : LastOk3 l o) : ∀ (fuel : Nat) (listed : Array Bool) (a : Act) (w : World), listed.size = l.length → Shut l listed →
    wpAny P .any l.toArray (lastQ P o Q) fuel listed a w → wpAny P .any (l ++ [o]).toArray Q (fuel + 1) (listed.push false) a w := by
  have at1 : ∀ (i : Nat), i < l.length → (l ++ [o]).toArray[i]? = l.toArray[i]? := fun i hi => by simp [List.getElem?_append_left hi]
  have atL : (l ++ [o]).toArray[l.length]? = some o := by simp
  have edge : ∀ {x : Oper} {j : Nat}, hasEdge x j = true → ∃ e ∈ x.after, Region.binds .any e = true ∧ e.on = j := fun {x j} h => by
    obtain ⟨y, hy, hy2⟩ := List.any_eq_true.1 h
    rw [Bool.and_eq_true] at hy2
    exact ⟨y, Array.mem_toList_iff.1 hy, hy2.1, by simpa using hy2.2⟩
  have gd : ∀ (b : Array Bool) (j : Nat), j < b.size → b.getD j true = b.getD j false := fun b j hj => by
    simp only [Array.getD_eq_getD_getElem?]
    rw [Array.getElem?_eq_getElem hj]; rfl
  have over : ∀ (listed : Array Bool) (a : Act) (w : World), listed.size = l.length + 1 → (∀ j, j < l.length + 1 → listed.getD j true = true) → Q .normal a w → ∀ fuel, wpAny P .any (l ++ [o]).toArray Q fuel listed a w := by
    intro listed a w hs hall hQ fuel
    have hr : Region.ready .any (l ++ [o]).toArray listed = [] := by
      refine List.filter_eq_nil_iff.2 fun j hj => ?_
      have := hall j (by simpa using hj)
      simp [this]
    cases fuel with
    | zero => exact ⟨hr, hQ⟩
    | succ f => exact ⟨fun _ => hQ, fun i hi => by rw [hr] at hi; simp at hi⟩
  have empty : ∀ (listed : Array Bool), listed.size = l.length → Region.ready .any (l ++ [o]).toArray (listed.push false) ≠ [] := by
    intro listed hs hr
    obtain ⟨i, ⟨hi1, hi2⟩, hmin⟩ := least (p := fun i => i ≤ l.length ∧ (listed.push false).getD i true = false) l.length ⟨Nat.le_refl _, by rw [← hs]; exact getD_push_last⟩
    have hlow : ∀ j, j < i → (listed.push false).getD j false = true := fun j hj => by
      have := hmin j hj
      rw [← gd _ j (by simp; omega)]
      cases hh : (listed.push false).getD j true
      · exact absurd ⟨by omega, hh⟩ this
      · rfl
    have : i ∈ Region.ready .any (l ++ [o]).toArray (listed.push false) := by
      by_cases hil : i < l.length
      · obtain ⟨x, e⟩ : ∃ x, l[i]? = some x := ⟨l[i], by simp [hil]⟩
        exact ready_of (x := x) ((at1 i hil).trans (by simpa using e)) hi2 fun y hy _ => hlow _ ((ok.each i x e).2 y hy)
      · obtain rfl : i = l.length := by omega
        exact ready_of atL hi2 fun y hy _ => hlow _ (ok.low y hy)
    rw [hr] at this
    simp at this
  have fin : ∀ (listed : Array Bool) (a : Act) (w : World) (fuel : Nat), listed.size = l.length → Shut l listed → (Region.ready .any l.toArray listed = [] → lastQ P o Q .normal a w) → l.length ∈ Region.ready .any (l ++ [o]).toArray (listed.push false) →
      wpOp P (l ++ [o]).toArray Q l.length (wpAny P .any (l ++ [o]).toArray Q fuel ((listed.push false).setIfInBounds l.length true)) a w := by
    intro listed a w fuel hs hsh h hi
    obtain ⟨x, e, hun, hed⟩ := ready_parts hi
    rw [atL] at e
    cases e
    have hall : ∀ j, j < l.length → listed.getD j false = true := fun j hj => reach_listed hsh _ (fun j' hj' => by
      obtain ⟨y, hy, hb, hj2⟩ := edge hj'
      have := hed y hy hb
      have hlt := ok.low y hy
      rw [hj2] at this hlt
      rw [getD_push (by omega)] at this
      exact this) (ok.all j hj)
    have hr : Region.ready .any l.toArray listed = [] := by
      refine List.filter_eq_nil_iff.2 fun j hj => ?_
      have hj' : j < l.length := by simpa using hj
      have := hall j hj'
      rw [← gd _ j (by omega)] at this
      simp [this]
    have hq : o.wp P a w (fun a' w' => Q .normal a' w') Q := h hr
    unfold wpOp
    simp only [atL]
    rw [if_pos (by simp [Region.wanted, ok.guard])]
    refine .inl (Oper.wp_mono (fun a' w' hq' => over _ a' w' (by simp [hs]) (fun j hj => ?_) hq' fuel) hq)
    rw [getD_set]
    by_cases hjl : l.length = j
    · rw [if_pos ⟨hjl, by simp; omega⟩]
    · rw [if_neg (by omega), getD_push (by omega), gd _ j (by omega)]
      exact hall j (by omega)
  intro fuel
  induction fuel with
  | zero =>
    intro listed a w hs hsh h
    refine ⟨fun hr => absurd hr (empty listed hs), fun i hi => ?_⟩
    obtain ⟨x, e, hun, hed⟩ := ready_parts hi
    by_cases hil : i < l.length
    · exfalso
      have : i ∈ Region.ready .any l.toArray listed := by
        rw [at1 i hil] at e
        refine ready_of e (by rwa [getD_push (by omega)] at hun) fun y hy hb => ?_
        have := hed y hy hb
        have hlt := (ok.each i x (by simpa using e)).2 y hy
        rwa [getD_push (by omega)] at this
      rw [h.1] at this
      simp at this
    · have hi2 := (Array.getElem?_eq_some_iff.1 e).1
      obtain rfl : i = l.length := by simp at hi2; omega
      exact fin listed a w 0 hs hsh (fun _ => h.2) hi
  | succ fuel ih =>
    intro listed a w hs hsh h
    refine ⟨fun hr => absurd hr (empty listed hs), fun i hi => ?_⟩
    obtain ⟨x, e, hun, hed⟩ := ready_parts hi
    by_cases hil : i < l.length
    · rw [at1 i hil] at e
      have hin : i ∈ Region.ready .any l.toArray listed := by
        refine ready_of e (by rwa [getD_push (by omega)] at hun) fun y hy hb => ?_
        have := hed y hy hb
        have hlt := (ok.each i x (by simpa using e)).2 y hy
        rwa [getD_push (by omega)] at this
      have h1 := h.2 i hin
      have hg := (ok.each i x (by simpa using e)).1
      unfold wpOp at h1 ⊢
      simp only [e, at1 i hil] at h1 ⊢
      rw [if_pos (by simp [Region.wanted, hg])] at h1 ⊢
      rcases h1 with h1 | ⟨h1, a1, w1, h2⟩
      · refine .inl (Oper.wp_mono (fun a' w' hk => ?_) (wp_lastQ h1))
        rw [push_set (by omega)]
        exact ih _ a' w' (by simp [hs]) (hsh.more (by simpa using e) (by omega) fun y hy hb => by
          have h3 := hed y hy hb
          have hlt := (ok.each i x (by simpa using e)).2 y hy
          rwa [getD_push (by omega)] at h3) hk
      · exact .inr ⟨h1, a1, w1, h2⟩
    · have hi2 := (Array.getElem?_eq_some_iff.1 e).1
      obtain rfl : i = l.length := by simp at hi2; omega
      exact fin listed a w (fuel + 1) hs hsh h.1 hi

end
theorem wp_region_quiet_last {P : Program} {id : Nat} {Q : Exit → Act → World → Prop} {a : Act} {w : World} {l1 : List Oper} (hne : l1 ≠ []) (hm : P.follows .mixedOrders = true) (hok : lastOk3 l1.dropLast (l1.getLast hne) = true) (hB : Region.lexB .any l1.dropLast.toArray = true)
    (h : wpQuiet P l1.dropLast.toArray (fun w' => ∃ p : Regrown, w' = grow (redrawn w p.d) p.os) (fun a' => ∀ w', (∃ p : Regrown, w' = grow (redrawn w p.d) p.os) → ∀ K : Act → World → Prop, (∀ a w, Q .normal a w → K a w) → (l1.getLast hne).wp P a' w' K Q) l1.dropLast a) : (Code.region id l1.toArray true).wp P Q a w := by
  simp only [Region.lexB, Bool.and_eq_true] at hB
  refine wp_region_any hm ?_
  have h0 : wpAny P .any l1.dropLast.toArray (lastQ P (l1.getLast hne) Q) l1.dropLast.length (Array.replicate l1.dropLast.length false) a w.drew := by
    refine wpAny_of_quiet (C := fun w' => ∃ p : Regrown, w' = grow (redrawn w p.d) p.os) (Q := fun a' => ∀ w', (∃ p : Regrown, w' = grow (redrawn w p.d) p.os) → ∀ K : Act → World → Prop, (∀ a w, Q .normal a w → K a w) → (l1.getLast hne).wp P a' w' K Q) (fun a' w' hw' h => h w' hw' _ (fun _ _ h => h)) _ _ _ _ ⟨⟨w.drawn + 1, #[]⟩, by rw [grow_empty]; rfl⟩ ?_
    have := wpAnyQ_lex (C := fun w' => ∃ p : Regrown, w' = grow (redrawn w p.d) p.os) (md := .any) hB.1 l1.dropLast 0 (Array.replicate l1.dropLast.length false) a (by simp) (by simpa using hB.2) h
    simpa using this
  have h1 := split_last3 (lastOk3_of hok) _ _ a w.drew (by simp) (shut_none _ _) h0
  have e1 : (Array.replicate l1.dropLast.length false).push false = Array.replicate (l1.dropLast ++ [l1.getLast hne]).toArray.size false := by
    simp [Array.replicate_succ]
  rw [e1, List.dropLast_concat_getLast hne] at h1
  have e2 : l1.dropLast.length + 1 = l1.toArray.size := by
    have := congrArg List.length (List.dropLast_concat_getLast hne)
    simpa using this
  rw [e2] at h1
  exact h1

/-- the last ones, one behind the other -/
def tailQ (P : Program) (Q : Exit → Act → World → Prop) : List Oper → Exit → Act → World → Prop
  | [] => Q
  | o :: t => lastQ P o (tailQ P Q t)
def tailOk (l : List Oper) : List Oper → Bool
  | [] => true
  | o :: t => lastOk3 l o && tailOk (l ++ [o]) t
theorem split_tail {P : Program} {Q : Exit → Act → World → Prop} : ∀ (t l : List Oper) (a : Act) (w : World), tailOk l t = true →
    wpAny P .any l.toArray (tailQ P Q t) l.length (Array.replicate l.length false) a w → wpAny P .any (l ++ t).toArray Q (l ++ t).length (Array.replicate (l ++ t).length false) a w
  | [], l, a, w, _, h => by simpa [tailQ] using h
  | o :: t, l, a, w, ho, h => by
    unfold tailOk at ho
    rw [Bool.and_eq_true] at ho
    have h1 := split_last3 (lastOk3_of ho.1) _ _ a w (by simp) (shut_none _ _) h
    have e1 : (Array.replicate l.length false).push false = Array.replicate (l ++ [o]).length false := by simp [Array.replicate_succ]
    rw [e1] at h1
    have h2 := split_tail t (l ++ [o]) a w ho.2 (by simpa using h1)
    simpa using h2
/-- walked one by one -/
def tailWp (P : Program) (Q : Exit → Act → World → Prop) : List Oper → Act → World → Prop
  | [], a, w => Q .normal a w
  | o :: t, a, w => ∀ K : Act → World → Prop, (∀ a w, tailWp P Q t a w → K a w) → o.wp P a w K (tailQ P Q t)
theorem tailQ_of {P : Program} {Q : Exit → Act → World → Prop} : ∀ (t : List Oper) (a : Act) (w : World), tailWp P Q t a w → tailQ P Q t .normal a w
  | [], _, _, h => h
  | o :: t, a, w, h => by
    unfold tailWp at h
    exact h (fun a w => tailQ P Q t .normal a w) (fun a w h => tailQ_of t a w h)
/-- THE LAW: the first n are quiet; each of the others waits for all before it -/
theorem wp_region_quiet_tail {P : Program} {id : Nat} {Q : Exit → Act → World → Prop} {a : Act} {w : World} {l1 : List Oper} (n : Nat) (hm : P.follows .mixedOrders = true) (hok : tailOk (l1.take n) (l1.drop n) = true) (hB : Region.lexB .any (l1.take n).toArray = true)
    (h : wpQuiet P (l1.take n).toArray (fun w' => ∃ p : Regrown, w' = grow (redrawn w p.d) p.os) (fun a' => ∀ w', (∃ p : Regrown, w' = grow (redrawn w p.d) p.os) → tailWp P Q (l1.drop n) a' w') (l1.take n) a) : (Code.region id l1.toArray true).wp P Q a w := by
  simp only [Region.lexB, Bool.and_eq_true] at hB
  refine wp_region_any hm ?_
  have h0 : wpAny P .any (l1.take n).toArray (tailQ P Q (l1.drop n)) (l1.take n).length (Array.replicate (l1.take n).length false) a w.drew := by
    refine wpAny_of_quiet (C := fun w' => ∃ p : Regrown, w' = grow (redrawn w p.d) p.os) (Q := fun a' => ∀ w', (∃ p : Regrown, w' = grow (redrawn w p.d) p.os) → tailWp P Q (l1.drop n) a' w') (fun a' w' hw' h => tailQ_of _ _ _ (h w' hw')) _ _ _ _ ⟨⟨w.drawn + 1, #[]⟩, by rw [grow_empty]; rfl⟩ ?_
    have := wpAnyQ_lex (C := fun w' => ∃ p : Regrown, w' = grow (redrawn w p.d) p.os) (md := .any) hB.1 (l1.take n) 0 (Array.replicate (l1.take n).length false) a (by simp) (by simpa using hB.2) h
    simpa using this
  have h1 := split_tail _ _ a w.drew hok h0
  rw [List.take_append_drop] at h1
  simpa using h1
end Go.Proofs.Ytafcgbahdfaiiaa
