/- A region that draws its order, within a round too: all its operations but the last one only read. -/
import Derived.OrdersIn
import Derived.Test.YtiaacjollcccaaaMem
namespace Go.Proofs.Ytiaacjollcccaaa
open Go.RowKit

def tmpsOf (o : Oper) : List Nat := o.op.operands.toList.filterMap fun | .tmp t => some t | _ => none
def hasEdge (o : Oper) (j : Nat) : Bool := o.after.toList.any fun e => Region.binds .any e && e.on == j
def plainOp (o : Oper) : Bool := o.guard.isNone && match o.op with | .call _ | .defer _ | .select _ _ | .go _ => false | _ => true
/-- each of the region's operations but the last one is wanted by a later one; none is a call; each number has one place -/
def regionOk (ops : Array Oper) (L : Nat) : Bool :=
  ops.size == L + 1 && (List.range (L + 1)).all fun i => match ops[i]? with
    | none => false
    | some o => plainOp o && (i == L || o.dst.isSome) && (i != L || o.dst.isNone) && (o.after.all fun e => decide (e.on < i)) &&
      ((List.range (L + 1)).all fun j => match ops[j]? with
        | none => false
        | some oj => (match oj.dst with | none => true | some d => (!(tmpsOf o).contains d || hasEdge o j) && (i == j || o.dst != some d))) &&
      (i == L || (List.range (L + 1)).any fun k => decide (i < k) && match ops[k]? with | some ok => hasEdge ok i | none => false)

structure RegOk (ops : Array Oper) (L : Nat) : Prop where
  size : ops.size = L + 1
  plain : ∀ (i : Nat) (o : Oper), ops[i]? = some o → plainOp o = true ∧ (i < L → ∃ d, o.dst = some d) ∧ (i = L → o.dst = none) ∧ ∀ e ∈ o.after, e.on < i
  dep : ∀ (i j : Nat) (o oj : Oper) (d : Nat), ops[i]? = some o → ops[j]? = some oj → oj.dst = some d → d ∈ tmpsOf o → hasEdge o j = true
  dist : ∀ (i j : Nat) (o oj : Oper) (d : Nat), ops[i]? = some o → ops[j]? = some oj → o.dst = some d → oj.dst = some d → i = j
  used : ∀ i, i < L → ∃ (k : Nat) (ok : Oper), i < k ∧ k ≤ L ∧ ops[k]? = some ok ∧ hasEdge ok i = true

theorem regOk_of {ops : Array Oper} {L : Nat} (h : regionOk ops L = true) : RegOk ops L := by
  unfold regionOk at h
  rw [Bool.and_eq_true] at h
  obtain ⟨h0, h1⟩ := h
  have hsz : ops.size = L + 1 := by simpa using h0
  have hlt : ∀ i o, ops[i]? = some o → i < L + 1 := fun i o e => by have := (Array.getElem?_eq_some_iff.1 e).1; omega
  have hat : ∀ i, i < L + 1 → ∃ o, ops[i]? = some o := fun i hi => ⟨ops[i]'(by omega), by simp [hsz, hi]⟩
  have hall : ∀ i o, ops[i]? = some o → plainOp o = true ∧ (i == L || o.dst.isSome) = true ∧ (i != L || o.dst.isNone) = true ∧ (o.after.all fun e => decide (e.on < i)) = true ∧ ((List.range (L + 1)).all fun j => match ops[j]? with
        | none => false
        | some oj => (match oj.dst with | none => true | some d => (!(tmpsOf o).contains d || hasEdge o j) && (i == j || o.dst != some d))) = true ∧ (i == L || (List.range (L + 1)).any fun k => decide (i < k) && match ops[k]? with | some ok => hasEdge ok i | none => false) = true := by
    intro i o e
    have := List.all_eq_true.1 h1 i (List.mem_range.2 (hlt i o e))
    simp only [e, Bool.and_eq_true] at this
    exact ⟨this.1.1.1.1.1, this.1.1.1.1.2, this.1.1.1.2, this.1.1.2, this.1.2, this.2⟩
  refine ⟨hsz, ?_, ?_, ?_, ?_⟩
  · intro i o e
    obtain ⟨g1, g2, g3, g4, _, _⟩ := hall i o e
    refine ⟨g1, ?_, ?_, ?_⟩
    · intro hi
      have : i ≠ L := by omega
      simp [this] at g2
      exact Option.isSome_iff_exists.1 g2
    · intro hi
      simp [hi] at g3
      exact g3
    · intro x hx
      have := Array.all_eq_true_iff_forall_mem.1 g4 x hx
      simpa using this
  · intro i j o oj d e ej hd hm
    have g5 := (hall i o e).2.2.2.2.1
    have := List.all_eq_true.1 g5 j (List.mem_range.2 (hlt j oj ej))
    simp only [ej, hd, Bool.and_eq_true, Bool.or_eq_true, Bool.not_eq_true'] at this
    rcases this.1 with h | h
    · simp [hm] at h
    · exact h
  · intro i j o oj d e ej hd hd'
    have g5 := (hall i o e).2.2.2.2.1
    have := List.all_eq_true.1 g5 j (List.mem_range.2 (hlt j oj ej))
    simp only [ej, hd', hd, Bool.and_eq_true, Bool.or_eq_true] at this
    rcases this.2 with h | h
    · simpa using h
    · simp at h
  · intro i hi
    obtain ⟨o, e⟩ := hat i (by omega)
    have g6 := (hall i o e).2.2.2.2.2
    have hne : i ≠ L := by omega
    simp only [Bool.or_eq_true, beq_iff_eq, hne, false_or] at g6
    obtain ⟨k, hk, hk2⟩ := List.any_eq_true.1 g6
    rw [Bool.and_eq_true] at hk2
    obtain ⟨ok, ek⟩ := hat k (List.mem_range.1 hk)
    simp only [ek] at hk2
    exact ⟨k, ok, by simpa using hk2.1, by have := List.mem_range.1 hk; omega, ek, hk2.2⟩

/-- what has come up so far has its value, all else is as it was -/
def Agr (ops : Array Oper) (L : Nat) (a af : Act) (listed : Array Bool) (a' : Act) : Prop :=
  a'.tmps.size = a.tmps.size ∧ a'.defers = a.defers ∧
  (∀ i o d, i < L → ops[i]? = some o → o.dst = some d → listed.getD i true = true → a'.tmps[d]? = af.tmps[d]?) ∧
  (∀ d, (∀ i o, i < L → ops[i]? = some o → o.dst = some d → listed.getD i true = false) → a'.tmps[d]? = a.tmps[d]?)

theorem filter_less {α : Type} {p q : α → Bool} (l : List α) (h : ∀ x, x ∈ l → q x = true → p x = true) (x : α) (hx : x ∈ l) (h1 : p x = true) (h2 : q x = false) : (l.filter q).length < (l.filter p).length := by
  induction l with
  | nil => simp at hx
  | cons y l ih =>
    have hle : (l.filter q).length ≤ (l.filter p).length := by
      clear ih hx
      induction l with
      | nil => simp
      | cons z l ih2 =>
        have := ih2 (fun x hx => h x (by rcases List.mem_cons.1 hx with rfl | hx <;> simp [*]))
        have hz := h z (by simp)
        cases hq : q z <;> cases hp : p z <;> simp [hq, hp] at hz ⊢ <;> omega
    rcases List.mem_cons.1 hx with rfl | hx
    · simp [h1, h2]; omega
    · have := ih (fun x hx => h x (by simp [hx])) hx
      have hy := h y (by simp)
      cases hq : q y <;> cases hp : p y <;> simp [hq, hp] at hy ⊢ <;> omega

theorem ready_iff {ops : Array Oper} {listed : Array Bool} {i : Nat} (h : i ∈ Region.ready .any ops listed) : ∃ o, ops[i]? = some o ∧ listed.getD i true = false ∧ ∀ j, hasEdge o j = true → listed.getD j false = true := by
  unfold Region.ready at h
  obtain ⟨h1, h2⟩ := List.mem_filter.1 h
  rw [Bool.and_eq_true] at h2
  obtain ⟨o, e⟩ : ∃ o, ops[i]? = some o := ⟨ops[i]'(by simpa using h1), by simp⟩
  refine ⟨o, e, by simpa using h2.1, fun j hj => ?_⟩
  have h3 := h2.2
  simp only [e, Option.map_some, Option.getD_some] at h3
  unfold hasEdge at hj
  obtain ⟨x, hx, hx2⟩ := List.any_eq_true.1 hj
  have := Array.all_eq_true_iff_forall_mem.1 h3 x (Array.mem_toList_iff.1 hx)
  rw [Bool.and_eq_true] at hx2
  simp only [hx2.1, Bool.not_true, Bool.false_or] at this
  rw [← (by simpa using hx2.2 : x.on = j)]
  exact this

section
variable {F : Fence} {n : Nat} {P : Program} {ops : Array Oper} {Q : Exit → Act → World → Prop} {L : Nat} {a af : Act} {W W' : World}

theorem getD_set {l : Array Bool} {i j : Nat} {b : Bool} : (l.setIfInBounds i true).getD j b = if i = j ∧ j < l.size then true else l.getD j b := by
  simp only [Array.getD_eq_getD_getElem?, Array.getElem?_setIfInBounds]
  by_cases h : i = j
  · subst h
    by_cases h2 : i < l.size
    · simp [h2]
    · simp [h2]
  · simp [h]

theorem least {p : Nat → Prop} (m : Nat) (h : p m) : ∃ i, p i ∧ ∀ j, j < i → ¬ p j := by
  induction m using Nat.strongRecOn with
  | _ m ih =>
    by_cases hh : ∃ j, j < m ∧ p j
    · obtain ⟨j, hj, hp⟩ := hh
      exact ih j hj hp
    · exact ⟨m, h, fun j hj hp => hh ⟨j, hj, hp⟩⟩
theorem wpAnyIn_over {listed : Array Bool} {a : Act} {w : World} (hr : Region.ready .any ops listed = []) (h : Q .normal a w) : ∀ fuel, wpAnyIn F n P .any ops Q fuel listed a w
  | 0 => ⟨hr, h⟩
  | fuel + 1 => ⟨fun _ => h, fun i hi => by rw [hr] at hi; simp at hi⟩

theorem any_reads (ok : RegOk ops L)
    (hsz : af.tmps.size = a.tmps.size) (hdf : af.defers = a.defers)
    (hfix : ∀ d, (∀ i o, i < L → ops[i]? = some o → o.dst ≠ some d) → af.tmps[d]? = a.tmps[d]?)
    (hval : ∀ i o d, i < L → ops[i]? = some o → o.dst = some d → ∃ v, af.tmps[d]? = some v ∧ (execOp af.eval o).run P W = .ok (.value v) W)
    (hlast : ∀ o, ops[L]? = some o → (execOp af.eval o).run P W = .ok .skip W') (hQ : Q .normal af W') :
    ∀ (fuel : Nat) (listed : Array Bool) (a' : Act), listed.size = L + 1 → listed.getD L true = false →
      (∀ i o, ops[i]? = some o → listed.getD i false = true → ∀ j, hasEdge o j = true → listed.getD j false = true) →
      ((List.range (L + 1)).filter fun i => !listed.getD i true).length ≤ fuel → Agr ops L a af listed a' → wpAnyIn F n P .any ops Q fuel listed a' W := by
  have gd : ∀ (listed : Array Bool) i, listed.size = L + 1 → i ≤ L → listed.getD i true = listed.getD i false := fun listed i h1 h2 => by
    simp only [Array.getD_eq_getD_getElem?]
    rw [Array.getElem?_eq_getElem (by omega)]; rfl
  intro fuel
  induction fuel with
  | zero =>
    intro listed a' hl hL hcl hc hA
    exfalso
    have : L ∈ (List.range (L + 1)).filter fun i => !listed.getD i true := List.mem_filter.2 ⟨by simp, by simp [hL]⟩
    have := List.length_pos_of_mem this
    omega
  | succ fuel ih =>
    intro listed a' hl hL hcl hc hA
    refine ⟨fun hr => ?_, fun i hi => ?_⟩
    · /- there is always one that may come up: the first that has not -/
      exfalso
      obtain ⟨i, ⟨hiL, hif⟩, hmin⟩ := least (p := fun i => i ≤ L ∧ listed.getD i true = false) L ⟨Nat.le_refl _, hL⟩
      have hin : i ∈ Region.ready .any ops listed := by
        obtain ⟨o, e⟩ : ∃ o, ops[i]? = some o := ⟨ops[i]'(by rw [ok.size]; omega), by simp⟩
        unfold Region.ready
        refine List.mem_filter.2 ⟨List.mem_range.2 (by rw [ok.size]; omega), ?_⟩
        rw [Bool.and_eq_true]
        refine ⟨by simp [hif], ?_⟩
        simp only [e, Option.map_some, Option.getD_some]
        refine Array.all_eq_true_iff_forall_mem.2 fun x hx => ?_
        have h1 := (ok.plain i o e).2.2.2 x hx
        have h2 := hmin x.on h1
        have h3 : listed.getD x.on true = true := by
          cases hh : listed.getD x.on true
          · exact absurd ⟨by omega, hh⟩ h2
          · rfl
        rw [gd listed x.on hl (by omega)] at h3
        simp [h3]
      rw [hr] at hin
      simp at hin
    · obtain ⟨o, e, hif, hed⟩ := ready_iff hi
      have hiL : i ≤ L := by have := (Array.getElem?_eq_some_iff.1 e).1; rw [ok.size] at this; omega
      obtain ⟨hp, hd1, hd2, _⟩ := ok.plain i o e
      have hg : o.guard = none := by
        unfold plainOp at hp
        rw [Bool.and_eq_true] at hp
        simpa using hp.1
      have hk : (∀ c, o.op ≠ .call c) ∧ (∀ c, o.op ≠ .defer c) ∧ (∀ cs b, o.op ≠ .select cs b) := by
        unfold plainOp at hp
        rw [Bool.and_eq_true] at hp
        refine ⟨fun c hc => ?_, fun c hc => ?_, fun cs b hc => ?_⟩ <;> · rw [hc] at hp; simp at hp
      have hev : ∀ x ∈ o.op.operands, a'.eval x = af.eval x := by
        intro x hx
        cases x with
        | tmp d =>
          have hd : d ∈ tmpsOf o := List.mem_filterMap.2 ⟨.tmp d, Array.mem_toList_iff.2 hx, rfl⟩
          have : a'.tmps[d]? = af.tmps[d]? := by
            by_cases hh : ∃ (j : Nat) (oj : Oper), j < L ∧ ops[j]? = some oj ∧ oj.dst = some d
            · obtain ⟨j, oj, hj, ej, hdj⟩ := hh
              refine hA.2.2.1 j oj d hj ej hdj ?_
              rw [gd listed j hl (by omega)]
              exact hed j (ok.dep i j o oj d e ej hdj hd)
            · rw [hA.2.2.2 d (fun j oj hj ej hdj => absurd ⟨j, oj, hj, ej, hdj⟩ hh)]
              exact (hfix d (fun j oj hj ej hdj => hh ⟨j, oj, hj, ej, hdj⟩)).symm
          show a'.tmps.getD d undef = af.tmps.getD d undef
          simp only [Array.getD_eq_getD_getElem?, this]
        | _ => rfl
      have hex := execOp_congr o hk.2.2 hev
      have hab : o.about P W a'.eval = none := by
        unfold Oper.about
        split
        · rename_i c hc; exact absurd hc (hk.1 c)
        · rfl
      have hw : Region.wanted o (yielded ops a'.tmps) = true := by simp [Region.wanted, hg]
      unfold wpOpIn
      simp only [e, hw, if_true]
      unfold Oper.wpIn
      rw [Oper.semAt_eq _ _ _ hk.2.1, hex]
      refine ⟨fun f hf => by (rw [hab] at hf; cases hf), ?_⟩
      by_cases hil : i < L
      · obtain ⟨d, hd⟩ := hd1 hil
        obtain ⟨v, hv1, hv2⟩ := hval i o d hil e hd
        rw [hv2]
        show wpAnyIn F n P .any ops Q fuel (listed.setIfInBounds i true) (a'.put o.dst v) W
        rw [hd]
        refine ih _ _ (by simp [hl]) ?_ ?_ ?_ ?_
        · rw [getD_set, if_neg (by omega)]; exact hL
        · intro j oj ej hj k hk
          rw [getD_set] at hj ⊢
          by_cases hij : i = j
          · subst hij
            rw [e] at ej; cases ej
            split
            · rfl
            · exact hed k hk
          · rw [if_neg (by omega)] at hj
            split
            · rfl
            · exact hcl j oj ej hj k hk
        · have := filter_less (p := fun i => !listed.getD i true) (q := fun j => !(listed.setIfInBounds i true).getD j true) (List.range (L + 1)) (fun x hx hq => by
            simp only [getD_set] at hq
            by_cases hix : i = x
            · subst hix; simp [hif]
            · rw [if_neg (by omega)] at hq; exact hq) i (by simp; omega) (by simp [hif]) (by rw [getD_set, if_pos ⟨rfl, by omega⟩]; rfl)
          omega
        · obtain ⟨a1, a2, a3, a4⟩ := hA
          have hdl : d < a'.tmps.size := by
            have h5 := (Array.getElem?_eq_some_iff.1 hv1).1
            rw [hsz, ← a1] at h5
            exact h5
          refine ⟨by simp [Act.put, a1], a2, ?_, ?_⟩
          · intro j oj d' hj ej hdj hlj
            show (a'.tmps.setIfInBounds d v)[d']? = _
            rw [Array.getElem?_setIfInBounds]
            by_cases hdd : d = d'
            · subst hdd; rw [if_pos rfl, if_pos hdl, hv1]
            · rw [if_neg hdd]
              have hij : i ≠ j := by rintro rfl; rw [e] at ej; cases ej; rw [hd] at hdj; exact hdd (Option.some.inj hdj)
              rw [getD_set, if_neg (by omega)] at hlj
              exact a3 j oj d' hj ej hdj hlj
          · intro d' hno
            show (a'.tmps.setIfInBounds d v)[d']? = _
            have hdd : d ≠ d' := by
              rintro rfl
              have := hno i o hil e hd
              rw [getD_set, if_pos ⟨rfl, by omega⟩] at this
              cases this
            rw [Array.getElem?_setIfInBounds, if_neg hdd]
            refine a4 d' fun j oj hj ej hdj => ?_
            have := hno j oj hj ej hdj
            rw [getD_set] at this
            split at this
            · cases this
            · exact this
      · obtain rfl : i = L := by omega
        rw [hlast o e]
        show wpAnyIn F n P .any ops Q fuel (listed.setIfInBounds i true) (a'.put o.dst undef) W'
        rw [hd2 rfl]
        have hall : ∀ k j, j + k = i → j < i → listed.getD j false = true := by
          intro k
          induction k using Nat.strongRecOn with
          | _ k ihk =>
            intro j hjk hj
            obtain ⟨k', ok', h1, h2, h3, h4⟩ := ok.used j hj
            by_cases hk' : k' = i
            · subst hk'; rw [e] at h3; cases h3; exact hed j h4
            · exact hcl k' ok' h3 (ihk (i - k') (by omega) k' (by omega) (by omega)) j h4
        have hal : ∀ j, j < i → listed.getD j true = true := fun j hj => by rw [gd listed j hl (by omega)]; exact hall (i - j) j (by omega) hj
        refine wpAnyIn_over ?_ ?_ fuel
        · unfold Region.ready
          refine List.filter_eq_nil_iff.2 fun j hj => ?_
          have hjL : j < i + 1 := by have := List.mem_range.1 hj; rw [ok.size] at this; exact this
          have : (listed.setIfInBounds i true).getD j true = true := by
            rw [getD_set]
            split
            · rfl
            · exact hal j (by omega)
          simp [this]
        · have : a'.put none undef = af := by
            obtain ⟨a1, a2, a3, a4⟩ := hA
            have ht : a'.tmps = af.tmps := by
              apply Array.ext_getElem?
              intro d
              by_cases hh : ∃ (j : Nat) (oj : Oper), j < i ∧ ops[j]? = some oj ∧ oj.dst = some d
              · obtain ⟨j, oj, hj, ej, hdj⟩ := hh
                exact a3 j oj d hj ej hdj (hal j hj)
              · rw [a4 d (fun j oj hj ej hdj => absurd ⟨j, oj, hj, ej, hdj⟩ hh)]
                exact (hfix d (fun j oj hj ej hdj => hh ⟨j, oj, hj, ej, hdj⟩)).symm
            have hdf2 : a'.defers = af.defers := a2.trans hdf.symm
            cases a' ; cases af
            simp only at ht hdf2
            subst ht hdf2
            rfl
          rw [this]
          exact hQ

/-- what the operations answer, each in the frame in which all have answered -/
def Reads1 (P : Program) (af : Act) (W : World) : List Oper → Prop
  | [] => True
  | o :: l => (∃ d v, o.dst = some d ∧ af.tmps[d]? = some v ∧ (execOp af.eval o).run P W = .ok (.value v) W) ∧ Reads1 P af W l
theorem reads1_at {l : List Oper} (h : Reads1 P af W l) {i : Nat} {o : Oper} (e : l[i]? = some o) : ∃ d v, o.dst = some d ∧ af.tmps[d]? = some v ∧ (execOp af.eval o).run P W = .ok (.value v) W := by
  induction l generalizing i with
  | nil => simp at e
  | cons x l ih =>
    cases i with
    | zero => simp at e; subst e; exact h.1
    | succ i => exact ih h.2 (by simpa using e)

/-- the values of the frame at the places of a list -/
def putAll (af : Act) : List Oper → Act → Act
  | [], a => a
  | o :: l, a => putAll af l (match o.dst with | some d => a.put (some d) (af.tmps.getD d undef) | none => a)
theorem putAll_size (l : List Oper) (a : Act) : (putAll af l a).tmps.size = a.tmps.size ∧ (putAll af l a).defers = a.defers := by
  induction l generalizing a with
  | nil => exact ⟨rfl, rfl⟩
  | cons o l ih =>
    obtain ⟨h1, h2⟩ := ih (match o.dst with | some d => a.put (some d) (af.tmps.getD d undef) | none => a)
    refine ⟨h1.trans ?_, h2.trans ?_⟩
    · cases o.dst <;> simp [Act.put]
    · cases o.dst <;> rfl
theorem putAll_other (l : List Oper) (a : Act) (d : Nat) (h : ∀ (i : Nat) (o : Oper), l[i]? = some o → o.dst ≠ some d) : (putAll af l a).tmps[d]? = a.tmps[d]? := by
  induction l generalizing a with
  | nil => rfl
  | cons o l ih =>
    refine (ih _ (fun i o' e => h (i + 1) o' (by simpa using e))).trans ?_
    have := h 0 o (by simp)
    cases hd : o.dst with
    | none => rfl
    | some d' =>
      show (a.tmps.setIfInBounds d' _)[d]? = _
      rw [Array.getElem?_setIfInBounds, if_neg (by rintro rfl; exact this hd)]

theorem wpIn_region_reads {id : Nat} {w w' : World} {l : List Oper} {o : Oper} (hm : P.follows .mixedOrders = true) (hok : regionOk (l ++ [o]).toArray l.length = true)
    (af : Act) (haf : putAll af l a = af) (hval : Reads1 P af w.drew l) (hlast : (execOp af.eval o).run P w.drew = .ok .skip w') (hQ : Q .normal af w') :
    (Code.region id (l ++ [o]).toArray true).wpIn F n P Q a w := by
  have ok := regOk_of hok
  have at1 : ∀ (i : Nat) (x : Oper), i < l.length → (l ++ [o]).toArray[i]? = some x → l[i]? = some x := fun i x hi e => by
    simpa [List.getElem?_append_left hi] using e
  refine wpIn_region_any hm ?_
  have e0 : (l ++ [o]).toArray.size = l.length + 1 := by simp
  rw [e0]
  refine any_reads (W' := w') (a := a) (af := af) (L := l.length) ok ?_ ?_ ?_ ?_ ?_ hQ _ _ a (by simp) ?_ ?_ ?_ ?_
  · rw [← haf]; exact ((putAll_size l a).1).trans rfl
  · rw [← haf]; exact (putAll_size l a).2
  · intro d hd
    have := putAll_other (af := af) l a d (fun i x e => hd i x (by
      have := (List.getElem?_eq_some_iff.1 e).1; exact this) (by
      have hi := (List.getElem?_eq_some_iff.1 e).1
      simpa [List.getElem?_append_left hi] using e))
    rwa [haf] at this
  · intro i x d hi e hd
    obtain ⟨d', v, h1, h2, h3⟩ := reads1_at hval (at1 i x hi e)
    rw [hd] at h1
    cases h1
    exact ⟨v, h2, h3⟩
  · intro x e
    have : x = o := by simpa using e.symm
    subst this
    exact hlast
  · simp
  · intro i x e hi j hj
    exfalso
    simp [Array.getD_eq_getD_getElem?, Array.getElem?_replicate] at hi
    split at hi <;> simp at hi
  · refine Nat.le_trans (List.length_filter_le _ _) ?_
    simp
  · refine ⟨rfl, rfl, ?_, fun _ _ => rfl⟩
    intro i x d hi e hd hl
    exfalso
    have hi2 : i < l.length + 1 := by omega
    simp [Array.getD_eq_getD_getElem?, hi2] at hl

theorem wpIn_region_reads2 {id : Nat} {w w' : World} {l1 : List Oper} (hne : l1 ≠ []) (hm : P.follows .mixedOrders = true) (hok : regionOk l1.toArray (l1.length - 1) = true)
    (af : Act) (haf : putAll af l1.dropLast a = af) (hval : Reads1 P af w.drew l1.dropLast) (hlast : (execOp af.eval (l1.getLast hne)).run P w.drew = .ok .skip w') (hQ : Q .normal af w') :
    (Code.region id l1.toArray true).wpIn F n P Q a w := by
  have e := List.dropLast_concat_getLast hne
  have e2 : l1.dropLast.length = l1.length - 1 := List.length_dropLast
  have := wpIn_region_reads (F := F) (n := n) (id := id) (o := l1.getLast hne) (l := l1.dropLast) hm (by rw [e, e2]; exact hok) af haf hval hlast hQ
  rwa [e] at this
end
end Go.Proofs.Ytiaacjollcccaaa
