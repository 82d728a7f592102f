/- A heap of entries: what comes first; a row with its parents; up, down. -/
namespace Go.Proofs.Ytafcgbahdfaiiaa

/-- an entry: key, mark, number -/
structure En where
  k : Int
  m : Int
  n : Nat
/-- a comes ahead of b -/
def bef (a b : En) : Prop := a.k < b.k ∨ (a.k = b.k ∧ a.n < b.n)
abbrev befD (a b : En) : Decidable (bef a b) := by unfold bef; infer_instance
/-- .. as it is asked -/
def befB (a b : En) : Bool := if a.n < b.n then !decide (b.k < a.k) else decide (a.k < b.k)
theorem befB_iff (a b : En) : befB a b = true ↔ bef a b := by
  unfold befB bef
  split <;> simp <;> omega
theorem befB_not {a b : En} (h : befB a b = false) : ¬ bef a b := fun h' => by rw [(befB_iff a b).2 h'] at h; cases h
theorem bef_asym {a b : En} (h : bef a b) : ¬ bef b a := by unfold bef at *; omega
theorem bef_trans {a b c : En} (h : bef a b) (k : bef b c) : bef a c := by unfold bef at *; omega
theorem bef_neg {a b c : En} (h : ¬ bef a b) (k : ¬ bef b c) : ¬ bef a c := by unfold bef at *; omega
theorem bef_irr (a : En) : ¬ bef a a := by unfold bef; omega

/-- two places changed -/
def swp (f : Nat → En) (i j : Nat) : Nat → En := fun x => if x = i then f j else if x = j then f i else f x
theorem swp_l (f : Nat → En) (i j : Nat) : swp f i j i = f j := by simp [swp]
theorem swp_r (f : Nat → En) (i j : Nat) : swp f i j j = f i := by
  unfold swp
  by_cases e : j = i
  · subst e; simp
  · simp [e]
theorem swp_o {f : Nat → En} {i j x : Nat} (h1 : x ≠ i) (h2 : x ≠ j) : swp f i j x = f x := by simp [swp, h1, h2]
abbrev par (c : Nat) : Nat := (c - 1) / 2
/-- a heap -/
def Hp (f : Nat → En) (n : Nat) : Prop := ∀ c, 0 < c → c < n → ¬ bef (f c) (f (par c))
/-- .. but for the place i and those below it -/
def Fx (f : Nat → En) (n i : Nat) : Prop :=
  (∀ c, 0 < c → c < n → c ≠ i → par c ≠ i → ¬ bef (f c) (f (par c))) ∧ ∀ c, 0 < c → c < n → par c = i → 0 < i → ¬ bef (f c) (f (par i))
/-- .. but for the place i -/
def Upp (f : Nat → En) (n i : Nat) : Prop :=
  (∀ c, 0 < c → c < n → c ≠ i → ¬ bef (f c) (f (par c))) ∧ ∀ c, 0 < c → c < n → par c = i → 0 < i → ¬ bef (f c) (f (par i))
theorem Hp.fix {f : Nat → En} {n : Nat} (h : Hp f n) (i : Nat) (x : En) : Fx (fun j => if j = i then x else f j) n i := by
  refine ⟨fun c c0 cn ci cp => ?_, fun c c0 cn cp i0 => ?_⟩
  · simp only [if_neg ci, if_neg cp]
    exact h c c0 cn
  · have h1 : c ≠ i := by unfold par at cp; omega
    have h2 : par i ≠ i := by unfold par; omega
    simp only [if_neg h1, if_neg h2]
    refine bef_neg (h c c0 cn) ?_
    rw [cp]
    exact h i i0 (by unfold par at cp; omega)
theorem Fx.down {f : Nat → En} {n i j : Nat} (h : Fx f n i) (j0 : 0 < j) (jn : j < n) (jp : par j = i) (hb : bef (f j) (f i)) (ho : ∀ c, 0 < c → c < n → par c = i → ¬ bef (f c) (f j)) :
    Fx (swp f i j) n j ∧ ¬ bef (swp f i j j) (swp f i j (par j)) := by
  have hij : i < j := by unfold par at jp; omega
  refine ⟨⟨fun c c0 cn cj cp => ?_, fun c c0 cn cp _ => ?_⟩, ?_⟩
  · by_cases ci : c = i
    · subst ci
      rw [swp_l, swp_o (by unfold par; omega) (by unfold par; omega)]
      exact h.2 j j0 jn jp c0
    · rw [swp_o ci cj]
      by_cases cpi : par c = i
      · rw [cpi, swp_l]
        exact ho c c0 cn cpi
      · rw [swp_o cpi cp]
        exact h.1 c c0 cn ci cpi
  · have c1 : c ≠ i := by unfold par at cp; omega
    have c2 : c ≠ j := by unfold par at cp; omega
    rw [swp_o c1 c2, jp, swp_l]
    have := h.1 c c0 cn c1 (by omega)
    rwa [cp] at this
  · rw [jp, swp_r, swp_l]
    exact bef_asym hb
theorem Fx.stop {f : Nat → En} {n i : Nat} (h : Fx f n i) (ho : ∀ c, 0 < c → c < n → par c = i → ¬ bef (f c) (f i)) : Upp f n i := by
  refine ⟨fun c c0 cn ci => ?_, h.2⟩
  by_cases cp : par c = i
  · rw [cp]; exact ho c c0 cn cp
  · exact h.1 c c0 cn ci cp
theorem Upp.hp {f : Nat → En} {n i : Nat} (h : Upp f n i) (hi : 0 < i → ¬ bef (f i) (f (par i))) : Hp f n := fun c c0 cn => by
  by_cases e : c = i
  · subst e; exact hi c0
  · exact h.1 c c0 cn e
theorem Upp.up {f : Nat → En} {n j : Nat} (h : Upp f n j) (j0 : 0 < j) (jn : j < n) (hb : bef (f j) (f (par j))) : Upp (swp f (par j) j) n (par j) := by
  have hij : par j < j := by unfold par; omega
  refine ⟨fun c c0 cn ci => ?_, fun c c0 cn cp i0 => ?_⟩
  · by_cases cj : c = j
    · subst cj
      rw [swp_r, swp_l]
      exact bef_asym hb
    · rw [swp_o ci cj]
      by_cases cpj : par c = j
      · rw [cpj, swp_r]
        exact h.2 c c0 cn cpj j0
      · by_cases cpi : par c = par j
        · rw [cpi, swp_l]
          have := h.1 c c0 cn cj
          rw [cpi] at this
          exact fun h' => this (bef_trans h' hb)
        · rw [swp_o cpi cpj]
          exact h.1 c c0 cn cj
  · have p1 : par (par j) ≠ par j := by unfold par at *; omega
    have p2 : par (par j) ≠ j := by unfold par at *; omega
    rw [swp_o p1 p2]
    have hpi := h.1 (par j) i0 (by omega) (by omega)
    by_cases cj : c = j
    · subst cj
      rw [swp_r]
      exact hpi
    · have ci : c ≠ par j := by unfold par at *; omega
      rw [swp_o ci cj]
      refine bef_neg (h.1 c c0 cn cj) ?_
      rw [cp]
      exact hpi
theorem Hp.first {f : Nat → En} {n : Nat} (h : Hp f n) : ∀ i, i < n → ¬ bef (f i) (f 0) := by
  intro i
  induction i using Nat.strongRecOn with
  | ind i ih =>
    intro hi
    by_cases e : i = 0
    · subst e; exact bef_irr _
    · exact bef_neg (h i (by omega) hi) (ih (par i) (by unfold par; omega) (by unfold par; omega))
/-- one more, at the end -/
theorem Hp.push {f : Nat → En} {n : Nat} (h : Hp f n) (x : En) : Upp (fun j => if j = n then x else f j) (n + 1) n := by
  refine ⟨fun c c0 cn ci => ?_, fun c c0 cn cp i0 => ?_⟩
  · have : par c ≠ n := by unfold par; omega
    simp only [if_neg ci, if_neg this]
    exact h c c0 (by omega)
  · unfold par at cp; omega
theorem Hp.less {f : Nat → En} {n m : Nat} (h : Hp f n) (hm : m ≤ n) : Hp f m := fun c c0 cn => h c c0 (by omega)

/-- what a row holds -/
structure Ar where
  f : Nat → En
  n : Nat
  last : Nat
/-- each number once, none above the last -/
structure Ar.Ok (A : Ar) : Prop where
  inj : ∀ i j, i < A.n → j < A.n → (A.f i).n = (A.f j).n → i = j
  nb : ∀ i, i < A.n → 1 ≤ (A.f i).n ∧ (A.f i).n ≤ A.last
  nl : A.n ≤ A.last
  kb : ∀ i, i < A.n → -128 ≤ (A.f i).k ∧ (A.f i).k ≤ 127
  lb : A.last ≤ 1000000
def Ar.swap (A : Ar) (i j : Nat) : Ar := { A with f := swp A.f i j }
theorem Ar.Ok.swap {A : Ar} (h : A.Ok) {i j : Nat} (hi : i < A.n) (hj : j < A.n) : (A.swap i j).Ok := by
  have key : ∀ x, x < A.n → ∃ y, y < A.n ∧ swp A.f i j x = A.f y ∧ (x = i → y = j) ∧ (x ≠ i → x = j → y = i) ∧ (x ≠ i → x ≠ j → y = x) := fun x hx => by
    by_cases e1 : x = i
    · subst e1; exact ⟨j, hj, swp_l _ _ _, fun _ => rfl, fun h => absurd rfl h, fun h => absurd rfl h⟩
    · by_cases e2 : x = j
      · subst e2; exact ⟨i, hi, swp_r _ _ _, fun h => absurd h e1, fun _ _ => rfl, fun _ h => absurd rfl h⟩
      · exact ⟨x, hx, swp_o e1 e2, fun h => absurd h e1, fun _ h => absurd h e2, fun _ _ => rfl⟩
  refine ⟨fun a b ha hb e => ?_, fun a ha => ?_, h.nl, fun a ha => ?_, h.lb⟩
  · obtain ⟨a', la, ea, a1, a2, a3⟩ := key a ha
    obtain ⟨b', lb, eb, b1, b2, b3⟩ := key b hb
    have : a' = b' := h.inj a' b' la lb (by rw [← ea, ← eb]; exact e)
    omega
  · obtain ⟨a', la, ea, _⟩ := key a ha
    show 1 ≤ (swp A.f i j a).n ∧ (swp A.f i j a).n ≤ A.last
    rw [ea]; exact h.nb a' la
  · obtain ⟨a', la, ea, _⟩ := key a ha
    show -128 ≤ (swp A.f i j a).k ∧ (swp A.f i j a).k ≤ 127
    rw [ea]; exact h.kb a' la
/-- what is in it -/
def Ar.has (A : Ar) (e : En) : Prop := ∃ i, i < A.n ∧ A.f i = e
theorem Ar.swap_has {A : Ar} {i j : Nat} (hi : i < A.n) (hj : j < A.n) (e : En) : (A.swap i j).has e ↔ A.has e := by
  constructor
  · rintro ⟨x, hx, rfl⟩
    show A.has (swp A.f i j x)
    by_cases e1 : x = i
    · subst e1; exact ⟨j, hj, (swp_l _ _ _).symm⟩
    · by_cases e2 : x = j
      · subst e2; exact ⟨i, hi, (swp_r _ _ _).symm⟩
      · exact ⟨x, hx, (swp_o e1 e2).symm⟩
  · rintro ⟨x, hx, rfl⟩
    by_cases e1 : x = i
    · subst e1; exact ⟨j, hj, swp_r _ _ _⟩
    · by_cases e2 : x = j
      · subst e2; exact ⟨i, hi, swp_l _ _ _⟩
      · exact ⟨x, hx, swp_o e1 e2⟩
/-- the same entries, in another order -/
structure Ar.Mix (A B : Ar) : Prop where
  n : B.n = A.n
  last : B.last = A.last
  has : ∀ e, B.has e ↔ A.has e
theorem Ar.Mix.refl (A : Ar) : A.Mix A := ⟨rfl, rfl, fun _ => Iff.rfl⟩
theorem Ar.Mix.trans {A B C : Ar} (h : A.Mix B) (k : B.Mix C) : A.Mix C := ⟨k.n.trans h.n, k.last.trans h.last, fun e => (k.has e).trans (h.has e)⟩
theorem Ar.mix_swap {A : Ar} {i j : Nat} (hi : i < A.n) (hj : j < A.n) : A.Mix (A.swap i j) := ⟨rfl, rfl, Ar.swap_has hi hj⟩
end Go.Proofs.Ytafcgbahdfaiiaa
