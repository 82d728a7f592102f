/- From a node upward, as plain data. -/
import Derived.Test.YtlphombjejgbiaaDActM
namespace Go.Proofs.Ytlphombjejgbiaa

theorem whr_kid {N : Nat} {L : List Fe} (_ : Fok N L) {x p : Nat} (hp : whr (kids L) N x = some p) : x ∈ kids L p := (whr_some hp).2
theorem whr_no {N : Nat} {L : List Fe} (h : Fok N L) {x : Nat} (hp : whr (kids L) N x = none) : ∀ p, x ∉ kids L p := fun p hm => whr_none hp p (h.fw.kid_par hm) hm
theorem whr_of {N : Nat} {L : List Fe} (h : Fok N L) {x p : Nat} (hk : x ∈ kids L p) : whr (kids L) N x = some p := by
  cases hw : whr (kids L) N x with
  | none => exact absurd hk (whr_no h hw p)
  | some q => rw [h.one_par (whr_kid h hw) hk]
/-- from x upward, the first one that is sought: how many steps that is; f levels at most -/
def srF (N : Nat) (L : List Fe) (S : Nat → Bool) : Nat → Nat → Option Nat
  | 0, x => if S x then some 0 else none
  | f + 1, x => if S x then some 0 else match whr (kids L) N x with
    | none => none
    | some p => (srF N L S f p).map (· + 1)
def srch (N : Nat) (L : List Fe) (S : Nat → Bool) (x : Nat) : Option Nat := srF N L S (L.length + 1) x
section
variable {N : Nat} {L : List Fe} (S : Nat → Bool)
theorem srF_eq (h : Fok N L) : ∀ f g x, (nds L).idxOf x ≤ f → (nds L).idxOf x ≤ g → srF N L S f x = srF N L S g x := by
  intro f
  induction f with
  | zero =>
    intro g x hf hg
    have hn : whr (kids L) N x = none := by
      cases hw : whr (kids L) N x with
      | none => rfl
      | some p => have := (h.behind (whr_kid h hw)).2; omega
    cases g with
    | zero => rfl
    | succ g => simp [srF, hn]
  | succ f ih =>
    intro g x hf hg
    cases hw : whr (kids L) N x with
    | none => cases g <;> simp [srF, hw]
    | some p =>
      have hb := (h.behind (whr_kid h hw)).2
      cases g with
      | zero => omega
      | succ g => simp only [srF, hw]; rw [ih g p (by omega) (by omega)]
theorem idx_le (L : List Fe) (x : Nat) : (nds L).idxOf x ≤ L.length := by rw [← nds_len]; exact List.idxOf_le_length
theorem srch_hit {x : Nat} (hs : S x = true) : srch N L S x = some 0 := by simp [srch, srF, hs]
theorem srch_root {x : Nat} (hs : S x = false) (hw : whr (kids L) N x = none) : srch N L S x = none := by simp [srch, srF, hs, hw]
theorem srch_up (h : Fok N L) {x p : Nat} (hs : S x = false) (hw : whr (kids L) N x = some p) : srch N L S x = (srch N L S p).map (· + 1) := by
  have hb := (h.behind (whr_kid h hw)).2
  have h1 := idx_le L x
  show srF N L S (L.length + 1) x = _
  simp only [srF, hs, hw]
  rw [srF_eq S h L.length (L.length + 1) p (by omega) (by omega)]
  rfl
end
/-- is x a root (or not there)? -/
def rooB (N : Nat) (L : List Fe) (x : Nat) : Bool := (whr (kids L) N x).isNone
/-- how many stand above x -/
def dpt (N : Nat) (L : List Fe) (x : Nat) : Nat := (srch N L (rooB N L) x).getD 0
theorem srch_dpt {N : Nat} {L : List Fe} (h : Fok N L) : ∀ n x, (nds L).idxOf x ≤ n → srch N L (rooB N L) x = some (dpt N L x) := by
  intro n
  induction n with
  | zero =>
    intro x hx
    have hn : whr (kids L) N x = none := by
      cases hw : whr (kids L) N x with
      | none => rfl
      | some p => have := (h.behind (whr_kid h hw)).2; omega
    have e := srch_hit (N := N) (L := L) (rooB N L) (x := x) (by simp [rooB, hn])
    unfold dpt; rw [e]; rfl
  | succ n ih =>
    intro x hx
    cases hw : whr (kids L) N x with
    | none =>
      have e := srch_hit (N := N) (L := L) (rooB N L) (x := x) (by simp [rooB, hw])
      unfold dpt; rw [e]; rfl
    | some p =>
      have hb := (h.behind (whr_kid h hw)).2
      have e := srch_up (rooB N L) h (x := x) (p := p) (by simp [rooB, hw]) hw
      have e2 := ih p (by omega)
      unfold dpt
      rw [e, e2]; rfl
theorem dpt_root {N : Nat} {L : List Fe} {x : Nat} (hw : whr (kids L) N x = none) : dpt N L x = 0 := by
  unfold dpt; rw [srch_hit (N := N) (L := L) (rooB N L) (x := x) (by simp [rooB, hw])]; rfl
theorem dpt_up {N : Nat} {L : List Fe} (h : Fok N L) {x p : Nat} (hw : whr (kids L) N x = some p) : dpt N L x = dpt N L p + 1 := by
  have e := srch_up (rooB N L) h (x := x) (p := p) (by simp [rooB, hw]) hw
  have e2 := srch_dpt h _ p (Nat.le_refl _)
  unfold dpt at *
  rw [e, e2]; rfl
/-- is x another one, or below it? -/
def undB (L : List Fe) (x r : Nat) : Bool := decide (x = r) || decide (x ∈ blw L r)
theorem und_root {N : Nat} {L : List Fe} (h : Fok N L) {x r : Nat} (hne : x ≠ r) (hw : whr (kids L) N x = none) : undB L x r = false := by
  have : x ∉ blw L r := fun hm => by
    rcases blw_up h _ r x (Nat.le_refl _) hm with h1 | ⟨y, _, h1⟩
    · exact whr_no h hw r h1
    · exact whr_no h hw y h1
  simp [undB, hne, this]
theorem und_up {N : Nat} {L : List Fe} (h : Fok N L) {x p r : Nat} (hne : x ≠ r) (hw : whr (kids L) N x = some p) : undB L x r = undB L p r := by
  have hk := whr_kid h hw
  have : x ∈ blw L r ↔ p = r ∨ p ∈ blw L r := by
    constructor
    · exact fun hm => blw_par h hm hk
    · rintro (rfl | hm)
      · exact blw_kid h hk
      · exact blw_trans h _ r p x (Nat.le_refl _) hm (blw_kid h hk)
  unfold undB
  by_cases e : p = r <;> by_cases e2 : p ∈ blw L r <;> simp_all
theorem srch_und {N : Nat} {L : List Fe} (h : Fok N L) (r : Nat) : ∀ n x, (nds L).idxOf x ≤ n → (srch N L (fun y => decide (y = r)) x).isSome = undB L x r := by
  intro n
  induction n with
  | zero =>
    intro x hx
    by_cases e : x = r
    · rw [srch_hit (N := N) (L := L) _ (x := x) (by simp [e])]; simp [undB, e]
    · have hn : whr (kids L) N x = none := by
        cases hw : whr (kids L) N x with
        | none => rfl
        | some p => have := (h.behind (whr_kid h hw)).2; omega
      rw [srch_root _ (by simp [e]) hn, und_root h e hn]; rfl
  | succ n ih =>
    intro x hx
    by_cases e : x = r
    · rw [srch_hit (N := N) (L := L) _ (x := x) (by simp [e])]; simp [undB, e]
    · cases hw : whr (kids L) N x with
      | none => rw [srch_root _ (by simp [e]) hw, und_root h e hw]; rfl
      | some p =>
        have hb := (h.behind (whr_kid h hw)).2
        rw [srch_up _ h (by simp [e]) hw, und_up h e hw, ← ih p (by omega)]
        simp
end Go.Proofs.Ytlphombjejgbiaa
