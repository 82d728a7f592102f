/- Policies: plain facts on rows. -/
import Derived.Test.YtcfpfddbbhphgabCloMath
import Derived.Test.YtcfpfddbbhphgabTurnMath
namespace Go.Proofs.Ytcfpfddbbhphgab

def Bds (n : Nat) (z : Nat → Int) : Prop := ∀ j, j < n → 0 ≤ z j ∧ z j < 18446744073709551616

/-! ### sets by a test -/
def setTo (p : Nat → Bool) : Nat → Int
  | 0 => 0
  | k + 1 => if p k then setI (setTo p k) k else setTo p k
theorem setTo_hit {p : Nat → Bool} {k : Nat} (h : p k = true) : setTo p (k + 1) = setI (setTo p k) k := by simp [setTo, h]
theorem setTo_miss {p : Nat → Bool} {k : Nat} (h : p k = false) : setTo p (k + 1) = setTo p k := by simp [setTo, h]
theorem setTo_nonneg (p : Nat → Bool) (n : Nat) : 0 ≤ setTo p n := by
  induction n with
  | zero => simp [setTo]
  | succ n ih =>
    unfold setTo
    by_cases h : p n = true
    · rw [if_pos h]; exact setI_nonneg _ _
    · rw [if_neg h]; exact ih
theorem setTo_lt (p : Nat → Bool) {n : Nat} (hn : n ≤ 64) : setTo p n < 18446744073709551616 := by
  induction n with
  | zero => simp [setTo]
  | succ n ih =>
    unfold setTo
    by_cases h : p n = true
    · rw [if_pos h]; exact setI_lt (ih (by omega)) (by omega)
    · rw [if_neg h]; exact ih (by omega)
theorem tb_setTo (p : Nat → Bool) (n j : Nat) : tb (setTo p n) j = (decide (j < n) && p j) := by
  induction n with
  | zero => simp [setTo, tb_zero]
  | succ n ih =>
    unfold setTo
    by_cases h : p n = true
    · rw [if_pos h, tb_setI, ih]
      by_cases e : n = j
      · subst e; simp [h]
      · simp [e, show (j < n + 1) = (j < n) by rw [eq_iff_iff]; omega]
    · rw [if_neg h, ih]
      by_cases e : n = j
      · subst e; simp at h; simp [h]
      · simp [show (j < n + 1) = (j < n) by rw [eq_iff_iff]; omega]
theorem tb_setTo_iff (p : Nat → Bool) (n j : Nat) : tb (setTo p n) j = true ↔ j < n ∧ p j = true := by rw [tb_setTo]; simp
/-- a set is what its test says -/
theorem eq_setTo {s : Int} {p : Nat → Bool} {n : Nat} (h0 : 0 ≤ s) (h : ∀ j, tb s j = true ↔ j < n ∧ p j = true) : s = setTo p n :=
  eq_of_tb h0 (setTo_nonneg _ _) fun j => by rw [Bool.eq_iff_iff, h, tb_setTo_iff]
theorem tb_eq_zero {s : Int} (h0 : 0 ≤ s) : s = 0 ↔ ∀ j, tb s j = false := by
  constructor
  · rintro rfl j; exact tb_zero j
  · intro h; exact eq_of_tb h0 (by omega) fun j => by rw [h j, tb_zero]

def andI (a b : Int) : Int := ((a.toNat &&& b.toNat : Nat) : Int)
theorem and_eq {a b : Int} (ha0 : 0 ≤ a) (ha : a < 18446744073709551616) (hb0 : 0 ≤ b) (hb : b < 18446744073709551616) : bits .and .u64 a b = andI a b := u64_and _ _ ha0 ha hb0 hb
theorem andI_nonneg (a b : Int) : 0 ≤ andI a b := by unfold andI; omega
theorem andI_lt {a : Int} (b : Int) (ha : a < 18446744073709551616) : andI a b < 18446744073709551616 := by
  have := Nat.and_le_left (n := a.toNat) (m := b.toNat)
  unfold andI; omega
theorem tb_andI (a b : Int) (j : Nat) : tb (andI a b) j = (tb a j && tb b j) := by unfold tb andI; rw [Int.toNat_natCast, Nat.testBit_and]
def anI (a b : Int) : Int := ((a.toNat &&& (18446744073709551615 - b.toNat) : Nat) : Int)
theorem an_eq {a b : Int} (ha0 : 0 ≤ a) (ha : a < 18446744073709551616) (hb0 : 0 ≤ b) (hb : b < 18446744073709551616) : bits .andNot .u64 a b = anI a b := u64_andNot _ _ ha0 ha hb0 hb
theorem anI_nonneg (a b : Int) : 0 ≤ anI a b := by unfold anI; omega
theorem anI_lt {a : Int} (b : Int) (ha : a < 18446744073709551616) : anI a b < 18446744073709551616 := by
  have := Nat.and_le_left (n := a.toNat) (m := 18446744073709551615 - b.toNat)
  unfold anI; omega
theorem tb_anI {a b : Int} (ha : a < 18446744073709551616) (hb0 : 0 ≤ b) (hb : b < 18446744073709551616) (j : Nat) : tb (anI a b) j = (tb a j && !tb b j) := by
  unfold anI
  show ((((a.toNat &&& (18446744073709551615 - b.toNat) : Nat) : Int)).toNat).testBit j = _
  rw [Int.toNat_natCast, Nat.testBit_and, show 18446744073709551615 - b.toNat = 2 ^ 64 - (b.toNat + 1) by omega, Nat.testBit_two_pow_sub_succ (by omega)]
  show (tb a j && (decide (j < 64) && !tb b j)) = _
  by_cases hj : j < 64
  · simp [hj]
  · rw [tb_ge ha (by omega)]; rfl
/-- 'x &^ y == 0': y has all that x has -/
theorem an_sub {a b : Int} (ha : a < 18446744073709551616) (hb0 : 0 ≤ b) (hb : b < 18446744073709551616) : (anI a b == 0) = subB a b := by
  rw [Bool.eq_iff_iff, beq_iff_eq, tb_eq_zero (anI_nonneg a b), subB_iff]
  constructor
  · intro h j _ ht
    have := h j
    rw [tb_anI ha hb0 hb, ht] at this
    simpa using this
  · intro h j
    rw [tb_anI ha hb0 hb]
    cases ht : tb a j
    · rfl
    · rw [h j (in_64 ha ht) ht]; rfl
theorem subB_all {a b : Int} (ha : a < 18446744073709551616) : subB a b = true ↔ ∀ j, tb a j = true → tb b j = true := by
  rw [subB_iff]
  exact ⟨fun h j ht => h j (in_64 ha ht) ht, fun h j _ ht => h j ht⟩

/-! ### policies -/
def polB (n : Nat) (z : Nat → Int) : Bool := (List.range n).all fun j => decide (clo n z j = z j)
theorem polB_iff {n : Nat} {z : Nat → Int} : polB n z = true ↔ ∀ j, j < n → clo n z j = z j := by
  unfold polB; rw [List.all_eq_true]; simp
/-- the errors ahead of ErrPolicy -/
def shpE (n : Nat) (z : Nat → Int) : Int := if 16 < n then 3 else if n = 0 then 1 else chkI n z
def polE (n : Nat) (z : Nat → Int) : Int := if shpE n z = 0 then (if polB n z then 0 else 20) else shpE n z
theorem shpE_ok {n : Nat} {z : Nat → Int} (h : shpE n z = 0) : 1 ≤ n ∧ n ≤ 16 ∧ chkI n z = 0 := by
  unfold shpE at h
  by_cases h1 : 16 < n
  · simp [h1] at h
  · by_cases h2 : n = 0
    · simp [h2] at h
    · simp [h1, h2] at h; exact ⟨by omega, by omega, h⟩
theorem shpE_of {n : Nat} {z : Nat → Int} (h1 : 1 ≤ n) (h2 : n ≤ 16) : shpE n z = chkI n z := by
  unfold shpE; rw [if_neg (by omega), if_neg (by omega)]
theorem polE_ok {n : Nat} {z : Nat → Int} (h : polE n z = 0) : shpE n z = 0 ∧ polB n z = true := by
  unfold polE at h
  by_cases h1 : shpE n z = 0
  · cases hb : polB n z
    · simp [h1, hb] at h
    · exact ⟨h1, rfl⟩
  · simp [h1] at h
def Pol (n : Nat) (z : Nat → Int) : Prop := 1 ≤ n ∧ n ≤ 16 ∧ Bds n z ∧ (∀ i j, i < n → tb (z i) j = true → j < n) ∧ (∀ i, i < n → tb (z i) i = true) ∧
  ∀ i m j, i < n → tb (z i) m = true → tb (z m) j = true → tb (z i) j = true
theorem Pol.one {n : Nat} {z : Nat → Int} (h : Pol n z) : 1 ≤ n := h.1
theorem Pol.le {n : Nat} {z : Nat → Int} (h : Pol n z) : n ≤ 16 := h.2.1
theorem Pol.bds {n : Nat} {z : Nat → Int} (h : Pol n z) : Bds n z := h.2.2.1
theorem Pol.lt {n : Nat} {z : Nat → Int} (h : Pol n z) {i j : Nat} (hi : i < n) (ht : tb (z i) j = true) : j < n := h.2.2.2.1 i j hi ht
theorem Pol.refl {n : Nat} {z : Nat → Int} (h : Pol n z) {i : Nat} (hi : i < n) : tb (z i) i = true := h.2.2.2.2.1 i hi
theorem Pol.trans {n : Nat} {z : Nat → Int} (h : Pol n z) {i m j : Nat} (hi : i < n) (h1 : tb (z i) m = true) (h2 : tb (z m) j = true) : tb (z i) j = true := h.2.2.2.2.2 i m j hi h1 h2
theorem clo_eq_iff {n : Nat} (hn : n ≤ 64) {z : Nat → Int} (hz : Bds n z) (hc : chkI n z = 0) : polB n z = true ↔ (∀ i, i < n → tb (z i) i = true) ∧ ∀ i m j, i < n → tb (z i) m = true → tb (z m) j = true → tb (z i) j = true := by
  rw [polB_iff]
  constructor
  · intro h
    refine ⟨fun i hi => by rw [← h i hi]; exact clo_refl hn hz hi, fun i m j hi h1 h2 => ?_⟩
    have hm := in_rows hc hz hi h1
    rw [← h i hi] at h1 ⊢
    rw [← h m hm] at h2
    exact clo_trans hn hz hi hm h1 h2
  · rintro ⟨h1, h2⟩ i hi
    refine eq_of_tb (clo_bd hn hz i).1 (hz i hi).1 fun j => ?_
    rw [Bool.eq_iff_iff]
    constructor
    · intro h
      exact (clo_least hn hz (fun a b => tb (z a) b = true) (fun _ _ _ h => h) h1 (fun i m j hi _ => h2 i m j hi) h).2
    · exact clo_has hn hz hi
theorem pol_of {n : Nat} {z : Nat → Int} (hz : Bds n z) (h : polE n z = 0) : Pol n z := by
  obtain ⟨h1, h2⟩ := polE_ok h
  obtain ⟨h3, h4, h5⟩ := shpE_ok h1
  obtain ⟨h6, h7⟩ := (clo_eq_iff (by omega) hz h5).1 h2
  exact ⟨h3, h4, hz, fun i j hi ht => in_rows h5 hz hi ht, h6, h7⟩
theorem Pol.chk {n : Nat} {z : Nat → Int} (h : Pol n z) : chkI n z = 0 := chk_of (by have := h.le; omega) fun i j hi _ ht => h.lt hi ht
theorem Pol.ok {n : Nat} {z : Nat → Int} (h : Pol n z) : polE n z = 0 := by
  have hs : shpE n z = 0 := by rw [shpE_of h.one h.le]; exact h.chk
  have hp : polB n z = true := (clo_eq_iff (by have := h.le; omega) h.bds h.chk).2 ⟨fun i hi => h.refl hi, fun i m j hi h1 h2 => h.trans hi h1 h2⟩
  simp [polE, hs, hp]
theorem tb_dn {n : Nat} (z : Nat → Int) {x : Nat} (hx : x < 64) (j : Nat) : tb (turnTo z n x) j = true ↔ j < n ∧ tb (z j) x = true := tb_turnTo z x j hx n
/-- a policy turned around is one -/
theorem Pol.turn {n : Nat} {z : Nat → Int} (h : Pol n z) : Pol n (turnTo z n) := by
  have hn := h.le
  refine ⟨h.one, h.le, turn_bds (by omega) z, fun i j hi ht => ((tb_dn z (by omega) j).1 ht).1, fun i hi => (tb_dn z (by omega) i).2 ⟨hi, h.refl hi⟩, fun i m j hi h1 h2 => ?_⟩
  obtain ⟨hm, h1⟩ := (tb_dn z (by omega) m).1 h1
  obtain ⟨hj, h2⟩ := (tb_dn z (by omega) j).1 h2
  exact (tb_dn z (by omega) j).2 ⟨hj, h.trans hj h2 h1⟩

/-! ### joins and meets -/
def jnS (n : Nat) (z : Nat → Int) (u : Int) : Int := setTo (fun c => tb u c && subB u (z c)) n
def jn (n : Nat) (z : Nat → Int) (a b : Nat) : Int := jnS n z (andI (z a) (z b))
def mt (n : Nat) (z : Nat → Int) (a b : Nat) : Int := jn n (turnTo z n) a b
theorem jn_nonneg (n : Nat) (z : Nat → Int) (a b : Nat) : 0 ≤ jn n z a b := setTo_nonneg _ _
theorem jn_lt {n : Nat} (hn : n ≤ 64) (z : Nat → Int) (a b : Nat) : jn n z a b < 18446744073709551616 := setTo_lt _ hn
/-- is c an upper bound of a and b that flows to all of them? -/
def IsJoin (n : Nat) (z : Nat → Int) (a b c : Nat) : Prop := c < n ∧ tb (z a) c = true ∧ tb (z b) c = true ∧ ∀ d, tb (z a) d = true → tb (z b) d = true → tb (z c) d = true
theorem tb_jn {n : Nat} {z : Nat → Int} (hz : Bds n z) {a b : Nat} (ha : a < n) (c : Nat) : tb (jn n z a b) c = true ↔ IsJoin n z a b c := by
  unfold jn jnS IsJoin
  rw [tb_setTo_iff, Bool.and_eq_true, tb_andI, Bool.and_eq_true, subB_all (andI_lt _ (hz a ha).2)]
  constructor
  · rintro ⟨h1, ⟨h2, h3⟩, h4⟩; exact ⟨h1, h2, h3, fun d hd he => h4 d (by rw [tb_andI, hd, he]; rfl)⟩
  · rintro ⟨h1, h2, h3, h4⟩; exact ⟨h1, ⟨h2, h3⟩, fun d hd => by rw [tb_andI, Bool.and_eq_true] at hd; exact h4 d hd.1 hd.2⟩
def nearTo (z : Nat → Int) (u : Int) (l : List Nat) : Int := l.foldl (fun s x => if subB u (z x) then setI s x else s) 0
theorem nearTo_hit {z : Nat → Int} {u : Int} {l : List Nat} {x : Nat} (h : subB u (z x) = true) : nearTo z u (l ++ [x]) = setI (nearTo z u l) x := by simp [nearTo, h]
theorem nearTo_miss {z : Nat → Int} {u : Int} {l : List Nat} {x : Nat} (h : subB u (z x) = false) : nearTo z u (l ++ [x]) = nearTo z u l := by simp [nearTo, h]
theorem nearTo_ind (P : Int → Prop) (h0 : P 0) {z : Nat → Int} {u : Int} {l : List Nat} (hs : ∀ s x, x ∈ l → P s → P (setI s x)) : P (nearTo z u l) := by
  have key : ∀ (l : List Nat) (s : Int), (∀ s x, x ∈ l → P s → P (setI s x)) → P s → P (l.foldl (fun s x => if subB u (z x) then setI s x else s) s) := by
    intro l
    induction l with
    | nil => exact fun s _ h => h
    | cons x l ih =>
      intro s hs h
      refine ih _ (fun s y hy => hs s y (by simp [hy])) ?_
      show P (if subB u (z x) = true then setI s x else s)
      by_cases hb : subB u (z x) = true
      · rw [if_pos hb]; exact hs s x (by simp) h
      · rw [if_neg hb]; exact h
  exact key l 0 hs h0
theorem nearTo_bd (z : Nat → Int) (u : Int) {l : List Nat} (hl : ∀ x, x ∈ l → x < 64) : 0 ≤ nearTo z u l ∧ nearTo z u l < 18446744073709551616 :=
  nearTo_ind (fun s => 0 ≤ s ∧ s < 18446744073709551616) ⟨by omega, by omega⟩ fun s x hx h => ⟨setI_nonneg _ _, setI_lt h.2 (hl x hx)⟩
theorem tb_nearTo (z : Nat → Int) (u : Int) (l : List Nat) (j : Nat) : tb (nearTo z u l) j = true ↔ j ∈ l ∧ subB u (z j) = true := by
  have key : ∀ (l : List Nat) (s : Int), tb (l.foldl (fun s x => if subB u (z x) then setI s x else s) s) j = true ↔ tb s j = true ∨ (j ∈ l ∧ subB u (z j) = true) := by
    intro l
    induction l with
    | nil => intro s; simp
    | cons x l ih =>
      intro s
      show tb (l.foldl (fun s x => if subB u (z x) then setI s x else s) (if subB u (z x) = true then setI s x else s)) j = true ↔ _
      rw [ih]
      by_cases hb : subB u (z x) = true
      · rw [if_pos hb, tb_setI, Bool.or_eq_true, decide_eq_true_iff]
        constructor
        · rintro ((h | rfl) | ⟨h1, h2⟩)
          · exact .inl h
          · exact .inr ⟨by simp, hb⟩
          · exact .inr ⟨by simp [h1], h2⟩
        · rintro (h | ⟨h1, h2⟩)
          · exact .inl (.inl h)
          · rcases List.mem_cons.1 h1 with rfl | h1
            · exact .inl (.inr rfl)
            · exact .inr ⟨h1, h2⟩
      · rw [if_neg hb]
        constructor
        · rintro (h | ⟨h1, h2⟩)
          · exact .inl h
          · exact .inr ⟨by simp [h1], h2⟩
        · rintro (h | ⟨h1, h2⟩)
          · exact .inl h
          · rcases List.mem_cons.1 h1 with rfl | h1
            · exact absurd h2 hb
            · exact .inr ⟨h1, h2⟩
  have := key l 0
  rw [tb_zero] at this
  simpa [nearTo] using this
/-- the nearest bounds, gone through one by one, are the joins -/
theorem near_jn {n : Nat} (z : Nat → Int) {u : Int} (hu1 : u < 18446744073709551616) (hu : ∀ j, tb u j = true → j < n) : nearTo z u (mems u) = jnS n z u := by
  refine eq_setTo (nearTo_bd z u fun x hx => (mem_mems.1 hx).1).1 fun j => ?_
  rw [tb_nearTo, mem_mems, Bool.and_eq_true]
  constructor
  · rintro ⟨⟨h1, h2⟩, h3⟩; exact ⟨hu j h2, h2, h3⟩
  · rintro ⟨h1, h2, h3⟩; exact ⟨⟨in_64 hu1 h2, h2⟩, h3⟩

end Go.Proofs.Ytcfpfddbbhphgab
