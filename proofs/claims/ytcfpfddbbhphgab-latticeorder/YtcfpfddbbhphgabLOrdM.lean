/- An order of labels in which lower ones stand first: plain facts. -/
import Derived.Test.YtcfpfddbbhphgabLHelp
namespace Go.Proofs.Ytcfpfddbbhphgab
open Go.RowKit Go.Shelf

/-- the labels below one -/
def blw (n : Nat) (z : Nat → Int) (a : Nat) : Int := anI (turnTo z n a) (z a)
theorem blw_nonneg (n : Nat) (z : Nat → Int) (a : Nat) : 0 ≤ blw n z a := anI_nonneg _ _
theorem blw_lt {n : Nat} {z : Nat → Int} (hP : Pol n z) {a : Nat} (ha : a < n) : blw n z a < 18446744073709551616 := anI_lt _ (hP.turn.bds a ha).2
theorem tb_blw {n : Nat} {z : Nat → Int} (hP : Pol n z) {a : Nat} (ha : a < n) (b : Nat) : tb (blw n z a) b = true ↔ b < n ∧ tb (z b) a = true ∧ tb (z a) b = false := by
  have hn := hP.le
  unfold blw
  rw [tb_anI (hP.turn.bds a ha).2 (hP.bds a ha).1 (hP.bds a ha).2, Bool.and_eq_true, tb_dn z (by omega)]
  constructor
  · rintro ⟨⟨h1, h2⟩, h3⟩; exact ⟨h1, h2, by simpa using h3⟩
  · rintro ⟨h1, h2, h3⟩; exact ⟨⟨h1, h2⟩, by simp [h3]⟩
theorem blw_set {n : Nat} {z : Nat → Int} (hP : Pol n z) {a : Nat} (ha : a < n) : setTo (fun b => tb (z b) a && !tb (z a) b) n = blw n z a :=
  (eq_setTo (blw_nonneg n z a) fun j => by
    rw [tb_blw hP ha, Bool.and_eq_true]
    constructor
    · rintro ⟨h1, h2, h3⟩; exact ⟨h1, h2, by simp [h3]⟩
    · rintro ⟨h1, h2, h3⟩; exact ⟨h1, h2, by simpa using h3⟩).symm
/-- is none of those that are left below it? -/
def frB (n : Nat) (z : Nat → Int) (s : Int) (a : Nat) : Bool := andI (blw n z a) s == 0
theorem frB_iff {n : Nat} {z : Nat → Int} {s : Int} {a : Nat} : frB n z s a = true ↔ ∀ j, tb (blw n z a) j = true → tb s j = false := by
  unfold frB
  rw [beq_iff_eq, tb_eq_zero (andI_nonneg _ _)]
  constructor
  · intro h j hj
    have := h j
    rw [tb_andI, hj] at this
    simpa using this
  · intro h j
    rw [tb_andI]
    cases hj : tb (blw n z a) j
    · rfl
    · rw [h j hj]; rfl
/-- the least that is left and below which none is left -/
def IsNext (n : Nat) (z : Nat → Int) (s : Int) (a : Nat) : Prop := a < n ∧ tb s a = true ∧ frB n z s a = true ∧ ∀ b, b < a → tb s b = true → frB n z s b = false
theorem IsNext.one {n : Nat} {z : Nat → Int} {s : Int} {a b : Nat} (h : IsNext n z s a) (g : IsNext n z s b) : a = b := by
  rcases Nat.lt_trichotomy a b with e | e | e
  · have := g.2.2.2 a e h.2.1; rw [h.2.2.1] at this; cases this
  · exact e
  · have := h.2.2.2 b e g.2.1; rw [g.2.2.1] at this; cases this
theorem least_of {P : Nat → Prop} : ∀ m a, a ≤ m → P a → ∃ b, P b ∧ ∀ c, c < b → ¬ P c := by
  intro m
  induction m with
  | zero => intro a ha h; exact ⟨a, h, fun c hc => absurd hc (by omega)⟩
  | succ m ih =>
    intro a ha h
    by_cases hh : ∃ c, c < a ∧ P c
    · obtain ⟨c, hc, hPc⟩ := hh
      exact ih c (by omega) hPc
    · exact ⟨a, h, fun c hc hPc => hh ⟨c, hc, hPc⟩⟩
theorem filter_lt {α : Type} (l : List α) (p q : α → Bool) (h : ∀ x, p x = true → q x = true) (x : α) (hx : x ∈ l) (hq : q x = true) (hp : p x = false) : (l.filter p).length < (l.filter q).length := by
  have e : l.filter p = (l.filter q).filter p := by
    rw [List.filter_filter]
    exact List.filter_congr fun y _ => by cases hy : p y <;> simp [h, hy]
  rw [e]
  exact List.length_filter_lt_length_iff_exists.2 ⟨x, List.mem_filter.2 ⟨hx, hq⟩, by simp [hp]⟩
theorem free_ex {n : Nat} {z : Nat → Int} (hP : Pol n z) {s : Int} (hs : ∀ j, tb s j = true → j < n) : ∀ m a, tb s a = true → (mems (andI (blw n z a) s)).length ≤ m → ∃ b, tb s b = true ∧ frB n z s b = true := by
  have hn := hP.le
  intro m
  induction m with
  | zero =>
    intro a ha hm
    refine ⟨a, ha, frB_iff.2 fun j hj => ?_⟩
    cases ht : tb s j
    · rfl
    · have : j ∈ mems (andI (blw n z a) s) := mem_mems.2 ⟨by have := hs j ht; omega, by rw [tb_andI, hj, ht]; rfl⟩
      have := List.length_pos_of_mem this
      omega
  | succ m ih =>
    intro a ha hm
    by_cases hf : frB n z s a = true
    · exact ⟨a, ha, hf⟩
    · have : ∃ c, tb (blw n z a) c = true ∧ tb s c = true := by
        refine Classical.byContradiction fun hh => hf (frB_iff.2 fun j hj => ?_)
        cases ht : tb s j
        · rfl
        · exact absurd ⟨j, hj, ht⟩ hh
      obtain ⟨c, hc, hcs⟩ := this
      have han := hs a ha
      obtain ⟨c1, c2, c3⟩ := (tb_blw hP han c).1 hc
      refine ih c hcs ?_
      have : (mems (andI (blw n z c) s)).length < (mems (andI (blw n z a) s)).length := by
        unfold mems memsTo
        refine filter_lt _ _ _ (fun j hj => ?_) c (by simp; omega) ?_ ?_
        · rw [tb_andI, Bool.and_eq_true] at hj ⊢
          obtain ⟨d1, d2, d3⟩ := (tb_blw hP c1 j).1 hj.1
          refine ⟨(tb_blw hP han j).2 ⟨d1, hP.trans d1 d2 c2, ?_⟩, hj.2⟩
          cases ht : tb (z a) j
          · rfl
          · have := hP.trans c1 c2 ht; rw [d3] at this; cases this
        · rw [tb_andI, hc, hcs]; rfl
        · rw [tb_andI]
          cases ht : tb (blw n z c) c
          · rfl
          · have := ((tb_blw hP c1 c).1 ht).2.2; rw [hP.refl c1] at this; cases this
      omega
theorem next_ex {n : Nat} {z : Nat → Int} (hP : Pol n z) {s : Int} (hs : ∀ j, tb s j = true → j < n) {a : Nat} (ha : tb s a = true) : ∃ b, IsNext n z s b := by
  obtain ⟨b, hb, hf⟩ := free_ex hP hs _ a ha (Nat.le_refl _)
  obtain ⟨c, ⟨hc, hfc⟩, hl⟩ := least_of (P := fun b => tb s b = true ∧ frB n z s b = true) b b (Nat.le_refl _) ⟨hb, hf⟩
  refine ⟨c, hs c hc, hc, hfc, fun d hd hds => ?_⟩
  cases hh : frB n z s d
  · rfl
  · exact absurd ⟨hds, hh⟩ (hl d hd)
/-- a set without one of its members -/
def clrI (s : Int) (k : Nat) : Int := anI s ((2 ^ k : Nat) : Int)
theorem pow_lt64 {k : Nat} (hk : k < 64) : (((2 ^ k : Nat)) : Int) < 18446744073709551616 := by
  have : (2 : Nat) ^ k < 2 ^ 64 := Nat.pow_lt_pow_right (by decide) hk
  omega
theorem wrap_pow {k : Nat} (hk : k < 64) : IntKind.u64.wrap (2 ^ k) = ((2 ^ k : Nat) : Int) := by
  have := pow_lt64 hk
  rw [IntKind.wrap_u64, pow_cast]
  generalize (2 : Nat) ^ k = q at *
  omega
theorem clr_eq {s : Int} (h0 : 0 ≤ s) (h1 : s < 18446744073709551616) {k : Nat} (hk : k < 64) : bits .andNot .u64 s (IntKind.u64.wrap (2 ^ k)) = clrI s k := by
  rw [wrap_pow hk]
  exact an_eq h0 h1 (Int.natCast_nonneg _) (pow_lt64 hk)
theorem clr_nonneg (s : Int) (k : Nat) : 0 ≤ clrI s k := anI_nonneg _ _
theorem clr_lt {s : Int} (h1 : s < 18446744073709551616) (k : Nat) : clrI s k < 18446744073709551616 := anI_lt _ h1
theorem tb_clr {s : Int} (h1 : s < 18446744073709551616) {k : Nat} (hk : k < 64) (j : Nat) : tb (clrI s k) j = true ↔ tb s j = true ∧ j ≠ k := by
  unfold clrI
  rw [tb_anI h1 (Int.natCast_nonneg _) (pow_lt64 hk), Bool.and_eq_true]
  have : tb (((2 ^ k : Nat)) : Int) j = decide (k = j) := by unfold tb; rw [Int.toNat_natCast, Nat.testBit_two_pow]
  rw [this]
  constructor
  · rintro ⟨a, b⟩; refine ⟨a, fun e => ?_⟩; subst e; simp at b
  · rintro ⟨a, b⟩; exact ⟨a, by simp; omega⟩
/-- behind k steps: the row L stands, s is left -/
def OrdIs (n : Nat) (z : Nat → Int) : Nat → List Nat → Int → Prop
  | 0, L, s => L = [] ∧ s = lowI n
  | k + 1, L, s => ∃ L' s' a, OrdIs n z k L' s' ∧ IsNext n z s' a ∧ L = L' ++ [a] ∧ s = clrI s' a
theorem OrdIs.one {n : Nat} {z : Nat → Int} : ∀ {k : Nat} {L L' : List Nat} {s s' : Int}, OrdIs n z k L s → OrdIs n z k L' s' → L = L' ∧ s = s'
  | 0, _, _, _, _, h, g => ⟨h.1.trans g.1.symm, h.2.trans g.2.symm⟩
  | k + 1, _, _, _, _, ⟨_, _, _, h1, h2, rfl, rfl⟩, ⟨_, _, _, g1, g2, rfl, rfl⟩ => by
    obtain ⟨rfl, rfl⟩ := OrdIs.one h1 g1
    obtain rfl := h2.one g2
    exact ⟨rfl, rfl⟩
theorem tb_low {n : Nat} (hn : n ≤ 64) (j : Nat) : tb (lowI n) j = true ↔ j < n := by
  unfold lowI tb
  rw [Nat.min_eq_left hn, Int.toNat_natCast, Nat.testBit_two_pow_sub_one]; simp
theorem OrdIs.inv {n : Nat} (hn : n ≤ 16) {z : Nat → Int} : ∀ {k : Nat} {L : List Nat} {s : Int}, OrdIs n z k L s → L.length = k ∧ 0 ≤ s ∧ s < 18446744073709551616 ∧ (∀ j, tb s j = true ↔ j < n ∧ j ∉ L) ∧ (∀ j, j ∈ L → j < n) := by
  intro k
  induction k with
  | zero =>
    rintro L s ⟨rfl, rfl⟩
    exact ⟨rfl, lowI_nonneg n, lowI_lt n, fun j => by rw [tb_low (by omega)]; simp, fun j hj => absurd hj (by simp)⟩
  | succ k ih =>
    rintro L s ⟨L', s', a, h1, h2, rfl, rfl⟩
    obtain ⟨i1, i2, i3, i4, i5⟩ := ih h1
    have ha := h2.1
    refine ⟨by simp [i1], clr_nonneg _ _, clr_lt i3 _, fun j => ?_, fun j hj => ?_⟩
    · rw [tb_clr i3 (by omega), i4]
      simp only [List.mem_append, List.mem_singleton]
      constructor
      · rintro ⟨⟨h3, h4⟩, h5⟩; exact ⟨h3, fun h => h.elim h4 h5⟩
      · rintro ⟨h3, h4⟩; exact ⟨⟨h3, fun h => h4 (.inl h)⟩, fun h => h4 (.inr h)⟩
    · rcases List.mem_append.1 hj with h | h
      · exact i5 j h
      · rw [List.mem_singleton.1 h]; exact ha
theorem pigeon : ∀ (m : Nat) (L : List Nat), (∀ j, j < m → j ∈ L) → m ≤ L.length := by
  intro m
  induction m with
  | zero => intro L _; omega
  | succ m ih =>
    intro L h
    have hm := h m (by omega)
    have := ih (L.erase m) fun j hj => (List.mem_erase_of_ne (by omega)).2 (h j (by omega))
    rw [List.length_erase_of_mem hm] at this
    have := List.length_pos_of_mem hm
    omega
/-- while labels are left there is a next one -/
theorem OrdIs.more {n : Nat} {z : Nat → Int} (hP : Pol n z) {k : Nat} {L : List Nat} {s : Int} (h : OrdIs n z k L s) (hk : k < n) : ∃ a, IsNext n z s a := by
  obtain ⟨i1, i2, i3, i4, i5⟩ := h.inv hP.le
  have : ∃ j, j < n ∧ j ∉ L := by
    refine Classical.byContradiction fun hh => ?_
    have := pigeon n L fun j hj => Classical.byContradiction fun h => hh ⟨j, hj, h⟩
    omega
  obtain ⟨j, hj, hjL⟩ := this
  exact next_ex hP (fun j hj => ((i4 j).1 hj).1) ((i4 j).2 ⟨hj, hjL⟩)
def natAt (l : List Nat) (j : Nat) : Int := ((l[j]?.getD 0 : Nat) : Int)
theorem encL_nat (l : List Nat) (j : Nat) (hj : j < l.length) : (encL l)[j]? = some (.int .i64 (natAt l j)) := by simp [encL, natAt, hj]
theorem own_slice {w : World} {base e : Nat} {v : Value} {n : Nat} {xs : List Value} (h : w.ownsRow base e 1 v n xs) : ∃ a cap, v = .slice a n cap := by
  rcases h.2 with ⟨rfl, rfl⟩ | ⟨g, cap, cur, rfl, _, _⟩
  · exact ⟨none, 0, rfl⟩
  · exact ⟨_, cap, rfl⟩
/-- an answer: all labels in order, or nothing with an error -/
def GivesO (w : World) (n : Nat) (z : Nat → Int) (e : Ending) (w' : World) : Prop :=
  ∃ a cap L, e = .returned (.tuple #[.slice a L.length cap, .int .i64 (polE n z)]) ∧ Cells w' .i64 a L.length (natAt L) ∧ ((polE n z ≠ 0 ∧ L = []) ∨ (polE n z = 0 ∧ ∃ s, OrdIs n z n L s)) ∧ Below w.heap.size w w'

end Go.Proofs.Ytcfpfddbbhphgab
