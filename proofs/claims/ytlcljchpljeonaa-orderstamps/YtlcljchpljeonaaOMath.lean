/- Stamps in order, as plain lists: rising ones, each once. -/
import Derived.WalkKit
namespace Go.Proofs.Ytlcljchpljeonaa
open Go.RowKit

abbrev St := Int × Int
abbrev ltS (x y : St) : Prop := x.1 < y.1 ∨ (x.1 = y.1 ∧ x.2 < y.2)
theorem ltS_irrefl (x : St) : ¬ ltS x x := by unfold ltS; omega
theorem ltS_trans {x y z : St} (h : ltS x y) (h' : ltS y z) : ltS x z := by unfold ltS at *; omega
theorem ltS_total {x y : St} (h : ¬ ltS x y) (h' : ¬ ltS y x) : x = y := by
  obtain ⟨a, b⟩ := x
  obtain ⟨c, d⟩ := y
  unfold ltS at *
  simp only [Prod.mk.injEq] at *
  omega
theorem ltS_le {x y z : St} (h : ¬ ltS y x) (h' : ltS y z) : ltS x z := by unfold ltS at *; omega

/-- a stamp's two cells, a row's cells -/
def encS : List St → List Value
  | [] => []
  | x :: l => .int .i64 x.1 :: .int .i64 x.2 :: encS l
theorem encS_len (l : List St) : (encS l).length = l.length * 2 := by
  induction l with
  | nil => rfl
  | cons x l ih => simp only [encS, List.length_cons, ih]; omega
theorem encS_app (l l' : List St) : encS (l ++ l') = encS l ++ encS l' := by
  induction l with
  | nil => rfl
  | cons x l ih => simp [encS, ih]
theorem encS_one (l : List St) : ∀ u ∈ encS l, u.oneCell' = true := by
  induction l with
  | nil => intro u hu; simp [encS] at hu
  | cons x l ih =>
    intro u hu
    simp only [encS, List.mem_cons] at hu
    rcases hu with rfl | rfl | hu
    · rfl
    · rfl
    · exact ih u hu
theorem encS_take (l : List St) (k : Nat) : encS (l.take k) = (encS l).take (k * 2) := by
  induction l generalizing k with
  | nil => simp [encS]
  | cons x l ih =>
    cases k with
    | zero => simp [encS]
    | succ k => rw [List.take_succ_cons, show (k + 1) * 2 = k * 2 + 1 + 1 by omega]; simp [encS, ih]
theorem encS_drop (l : List St) (k : Nat) : encS (l.drop k) = (encS l).drop (k * 2) := by
  induction l generalizing k with
  | nil => simp [encS]
  | cons x l ih =>
    cases k with
    | zero => simp
    | succ k => rw [List.drop_succ_cons, show (k + 1) * 2 = k * 2 + 1 + 1 by omega]; simp [encS, ih]
theorem encS_at (l : List St) {k : Nat} (h : k < l.length) : (encS l)[k * 2]? = some (.int .i64 l[k].1) ∧ (encS l)[k * 2 + 1]? = some (.int .i64 l[k].2) := by
  induction l generalizing k with
  | nil => simp at h
  | cons x l ih =>
    cases k with
    | zero => simp [encS]
    | succ k =>
      rw [show (k + 1) * 2 = k * 2 + 1 + 1 by omega]
      have := ih (k := k) (by simpa using h)
      simpa [encS] using this

/-- rising, each once -/
def Rise (l : List St) : Prop := l.Pairwise ltS
theorem rise_unique : ∀ {a b : List St}, Rise a → Rise b → (∀ x, x ∈ a ↔ x ∈ b) → a = b
  | [], [], _, _, _ => rfl
  | [], y :: b, _, _, h => absurd ((h y).2 (by simp)) (by simp)
  | x :: a, [], _, _, h => absurd ((h x).1 (by simp)) (by simp)
  | x :: a, y :: b, ha, hb, h => by
    obtain ⟨ha1, ha2⟩ := List.pairwise_cons.1 ha
    obtain ⟨hb1, hb2⟩ := List.pairwise_cons.1 hb
    have hxy : x = y := by
      rcases List.mem_cons.1 ((h x).1 (by simp)) with e | hx
      · exact e
      · rcases List.mem_cons.1 ((h y).2 (by simp)) with e | hy
        · exact e.symm
        · exact absurd (ltS_trans (hb1 x hx) (ha1 y hy)) (ltS_irrefl y)
    subst hxy
    congr 1
    refine rise_unique ha2 hb2 fun z => ?_
    constructor
    · intro hz
      rcases List.mem_cons.1 ((h z).1 (by simp [hz])) with e | hz'
      · subst e; exact absurd (ha1 z hz) (ltS_irrefl z)
      · exact hz'
    · intro hz
      rcases List.mem_cons.1 ((h z).2 (by simp [hz])) with e | hz'
      · subst e; exact absurd (hb1 z hz) (ltS_irrefl z)
      · exact hz'

/-- of the first i of a row, those that differ from the one ahead -/
def onceTo (d : Nat → St) : Nat → List St
  | 0 => []
  | i + 1 => if i = 0 ∨ ¬ d i = d (i - 1) then onceTo d i ++ [d i] else onceTo d i
theorem onceTo_len (d : Nat → St) (i : Nat) : (onceTo d i).length ≤ i := by
  induction i with
  | zero => simp [onceTo]
  | succ i ih =>
    unfold onceTo
    split
    · simp; omega
    · omega
theorem onceTo_mem (d : Nat → St) (i : Nat) (x : St) : x ∈ onceTo d i ↔ ∃ j, j < i ∧ x = d j := by
  induction i with
  | zero => simp [onceTo]
  | succ i ih =>
    unfold onceTo
    by_cases c : i = 0 ∨ ¬ d i = d (i - 1)
    · rw [if_pos c, List.mem_append, ih]
      constructor
      · rintro (⟨j, hj, rfl⟩ | h)
        · exact ⟨j, by omega, rfl⟩
        · exact ⟨i, by omega, by simpa using h⟩
      · rintro ⟨j, hj, rfl⟩
        by_cases e : j = i
        · subst e; exact .inr (by simp)
        · exact .inl ⟨j, by omega, rfl⟩
    · rw [if_neg c, ih]
      have h1 : ¬ i = 0 := fun e => c (.inl e)
      have h2 : d i = d (i - 1) := Classical.byContradiction fun e => c (.inr e)
      constructor
      · rintro ⟨j, hj, rfl⟩
        exact ⟨j, by omega, rfl⟩
      · rintro ⟨j, hj, rfl⟩
        by_cases e : j = i
        · subst e; exact ⟨j - 1, by omega, h2⟩
        · exact ⟨j, by omega, rfl⟩
theorem onceTo_rise (d : Nat → St) (n : Nat) (hs : ∀ i j, i < j → j < n → ¬ ltS (d j) (d i)) (i : Nat) (hi : i ≤ n) : Rise (onceTo d i) := by
  induction i with
  | zero => exact List.Pairwise.nil
  | succ i ih =>
    unfold onceTo
    by_cases c : i = 0 ∨ ¬ d i = d (i - 1)
    · rw [if_pos c]
      refine List.pairwise_append.2 ⟨ih (by omega), by simp, fun x hx y hy => ?_⟩
      obtain ⟨j, hj, rfl⟩ := (onceTo_mem d i x).1 hx
      obtain rfl : y = d i := by simpa using hy
      have h0 : ¬ i = 0 := by omega
      have hne : ¬ d i = d (i - 1) := by
        rcases c with c | c
        · exact absurd c h0
        · exact c
      have hlt : ltS (d (i - 1)) (d i) := Classical.byContradiction fun h => hne (ltS_total (hs (i - 1) i (by omega) (by omega)) h)
      by_cases e : j = i - 1
      · rw [e]; exact hlt
      · exact ltS_le (hs j (i - 1) (by omega) (by omega)) hlt
    · rw [if_neg c]
      exact ih (by omega)

/-- how many at the front stand ahead of x -/
def posS (x : St) : List St → Nat
  | [] => 0
  | y :: l => if ltS y x then posS x l + 1 else 0
theorem posS_le (x : St) (l : List St) : posS x l ≤ l.length := by
  induction l with
  | nil => simp [posS]
  | cons y l ih => unfold posS; split <;> simp <;> omega
theorem posS_lt (x : St) (l : List St) {k : Nat} (h : k < posS x l) : ∃ hk : k < l.length, ltS l[k] x := by
  induction l generalizing k with
  | nil => simp [posS] at h
  | cons y l ih =>
    unfold posS at h
    by_cases c : ltS y x
    · rw [if_pos c] at h
      cases k with
      | zero => exact ⟨by simp, c⟩
      | succ k =>
        obtain ⟨hk, h'⟩ := ih (k := k) (by omega)
        exact ⟨by simp; omega, by simpa using h'⟩
    · rw [if_neg c] at h; omega
theorem posS_ge (x : St) (l : List St) (h : posS x l < l.length) : ¬ ltS l[posS x l] x := by
  induction l with
  | nil => simp at h
  | cons y l ih =>
    by_cases c : ltS y x
    · have e : posS x (y :: l) = posS x l + 1 := by simp [posS, c]
      simp only [e, List.getElem_cons_succ]
      exact ih (by simpa [e] using h)
    · have e : posS x (y :: l) = 0 := by simp [posS, c]
      simpa only [e, List.getElem_cons_zero] using c
/-- a stamp is laid into a rising row, if it is not there -/
def insS (l : List St) (x : St) : List St := if x ∈ l then l else l.take (posS x l) ++ [x] ++ l.drop (posS x l)
theorem insS_mem (l : List St) (x y : St) : y ∈ insS l x ↔ y ∈ l ∨ y = x := by
  unfold insS
  by_cases c : x ∈ l
  · rw [if_pos c]
    constructor
    · exact .inl
    · rintro (h | rfl)
      · exact h
      · exact c
  · rw [if_neg c]
    have : y ∈ l ↔ y ∈ l.take (posS x l) ∨ y ∈ l.drop (posS x l) := by rw [← List.mem_append, List.take_append_drop]
    rw [this]
    simp only [List.mem_append, List.mem_singleton]
    grind
theorem pos_in {l : List St} (hr : Rise l) {x : St} (h : x ∈ l) : ∃ hk : posS x l < l.length, l[posS x l] = x := by
  induction l with
  | nil => simp at h
  | cons y l ih =>
    obtain ⟨h1, h2⟩ := List.pairwise_cons.1 hr
    rcases List.mem_cons.1 h with rfl | hx
    · have e : posS x (x :: l) = 0 := by simp [posS, ltS_irrefl]
      exact ⟨by simp [e], by simp only [e, List.getElem_cons_zero]⟩
    · have e : posS x (y :: l) = posS x l + 1 := by simp [posS, h1 x hx]
      obtain ⟨hk, e2⟩ := ih h2 hx
      exact ⟨by simp [e]; exact hk, by simp only [e, List.getElem_cons_succ]; exact e2⟩
theorem pos_out {l : List St} (hr : Rise l) {x : St} (h : ¬ x ∈ l) : ∀ y ∈ l.drop (posS x l), ltS x y := by
  induction l with
  | nil => intro y hy; simp at hy
  | cons z l ih =>
    obtain ⟨h1, h2⟩ := List.pairwise_cons.1 hr
    by_cases c : ltS z x
    · have e : posS x (z :: l) = posS x l + 1 := by simp [posS, c]
      rw [e, List.drop_succ_cons]
      exact ih h2 (fun hx => h (by simp [hx]))
    · have e : posS x (z :: l) = 0 := by simp [posS, c]
      rw [e, List.drop_zero]
      have hz : ltS x z := Classical.byContradiction fun h' => h (by rw [ltS_total h' c]; simp)
      intro y hy
      rcases List.mem_cons.1 hy with rfl | hy
      · exact hz
      · exact ltS_trans hz (h1 y hy)
theorem pos_take (x : St) (l : List St) : ∀ y ∈ l.take (posS x l), ltS y x := by
  intro y hy
  obtain ⟨k, hk, rfl⟩ := List.mem_iff_getElem.1 hy
  rw [List.length_take] at hk
  obtain ⟨_, h⟩ := posS_lt x l (k := k) (by omega)
  rw [List.getElem_take]
  exact h
theorem insS_rise {l : List St} (hr : Rise l) (x : St) : Rise (insS l x) := by
  unfold insS
  by_cases c : x ∈ l
  · rw [if_pos c]; exact hr
  · rw [if_neg c]
    have ht : Rise (l.take (posS x l)) := hr.sublist (List.take_sublist _ _)
    have hd : Rise (l.drop (posS x l)) := hr.sublist (List.drop_sublist _ _)
    have h1 := pos_take x l
    have h2 := pos_out hr c
    refine List.pairwise_append.2 ⟨List.pairwise_append.2 ⟨ht, by simp, ?_⟩, hd, ?_⟩
    · intro a ha b hb
      obtain rfl : b = x := by simpa using hb
      exact h1 a ha
    · intro a ha b hb
      rcases List.mem_append.1 ha with ha | ha
      · exact ltS_trans (h1 a ha) (h2 b hb)
      · obtain rfl : a = x := by simpa using ha
        exact h2 b hb
theorem insS_len (l : List St) (x : St) : (insS l x).length ≤ l.length + 1 := by
  unfold insS
  split
  · omega
  · simp [List.length_take, List.length_drop]; have := posS_le x l; omega
/-- is it there? at its place -/
theorem ins_at {l : List St} (hr : Rise l) (x : St) : x ∈ l ↔ ∃ hk : posS x l < l.length, l[posS x l] = x :=
  ⟨pos_in hr, fun ⟨hk, e⟩ => by rw [← e]; exact List.getElem_mem hk⟩
/-- the document's: one by one -/
def docTo (d : Nat → St) : Nat → List St
  | 0 => []
  | i + 1 => insS (docTo d i) (d i)
theorem docTo_rise (d : Nat → St) (i : Nat) : Rise (docTo d i) := by
  induction i with
  | zero => exact List.Pairwise.nil
  | succ i ih => exact insS_rise ih _
theorem docTo_len (d : Nat → St) (i : Nat) : (docTo d i).length ≤ i := by
  induction i with
  | zero => simp [docTo]
  | succ i ih => have := insS_len (docTo d i) (d i); unfold docTo; omega
theorem docTo_mem (d : Nat → St) (i : Nat) (x : St) : x ∈ docTo d i ↔ ∃ j, j < i ∧ x = d j := by
  induction i with
  | zero => simp [docTo]
  | succ i ih =>
    unfold docTo
    rw [insS_mem, ih]
    constructor
    · rintro (⟨j, hj, rfl⟩ | rfl)
      · exact ⟨j, by omega, rfl⟩
      · exact ⟨i, by omega, rfl⟩
    · rintro ⟨j, hj, rfl⟩
      by_cases e : j = i
      · subst e; exact .inr rfl
      · exact .inl ⟨j, by omega, rfl⟩
/-- sorted and each once is what the document says -/
theorem once_doc (d d' : Nat → St) (n : Nat) (hm : ∀ x, (∃ j, j < n ∧ x = d' j) ↔ ∃ j, j < n ∧ x = d j) (hs : ∀ i j, i < j → j < n → ¬ ltS (d' j) (d' i)) : onceTo d' n = docTo d n :=
  rise_unique (onceTo_rise d' n hs n (Nat.le_refl _)) (docTo_rise d n) fun x => by rw [onceTo_mem, docTo_mem, hm]

end Go.Proofs.Ytlcljchpljeonaa
