/- Forests as plain data: what is there, as it came. -/
import Derived.Test.YtlphombjejgbiaaKActs
namespace Go.Proofs.Ytlphombjejgbiaa

/-- a node that is there: its number, its parent's (below 0: a root) -/
structure Fe where
  n : Nat
  p : Int
def nds (L : List Fe) : List Nat := L.map (·.n)
/-- what was derived from k, as it came -/
def kids (L : List Fe) (k : Nat) : List Nat := (L.filter fun e => decide (e.p = (k : Int))).map (·.n)
/-- what is below k, down to f levels -/
def bel (L : List Fe) : Nat → Nat → List Nat
  | 0, _ => []
  | f + 1, k => (kids L k).flatMap fun c => c :: bel L f c
/-- all below k -/
def blw (L : List Fe) (k : Nat) : List Nat := bel L L.length k
/-- how far k stands from the end -/
def hgt (L : List Fe) (k : Nat) : Nat := L.length - (nds L).idxOf k
/-- a forest: each once, a parent ahead of what was derived from it -/
structure Fok (N : Nat) (L : List Fe) : Prop where
  nod : (nds L).Nodup
  lt : ∀ x, x ∈ nds L → x < N
  par : ∀ l1 e l2, L = l1 ++ e :: l2 → e.p = -1 ∨ ∃ q, q ∈ nds l1 ∧ e.p = (q : Int)

theorem nds_app (a b : List Fe) : nds (a ++ b) = nds a ++ nds b := by simp [nds]
theorem nds_cons (e : Fe) (b : List Fe) : nds (e :: b) = e.n :: nds b := rfl
theorem nds_len (L : List Fe) : (nds L).length = L.length := by simp [nds]
theorem mem_kids {L : List Fe} {k c : Nat} : c ∈ kids L k ↔ ∃ e, e ∈ L ∧ e.p = (k : Int) ∧ e.n = c := by
  simp [kids, and_assoc]
theorem kids_app (a b : List Fe) (k : Nat) : kids (a ++ b) k = kids a k ++ kids b k := by simp [kids]
theorem kids_sub (L : List Fe) (k : Nat) : (kids L k).Sublist (nds L) := (List.filter_sublist).map _
theorem mem_nds {L : List Fe} {x : Nat} : x ∈ nds L ↔ ∃ e, e ∈ L ∧ e.n = x := by simp [nds]

section
variable {N : Nat} {L : List Fe}
/-- a child stands behind its parent -/
theorem Fok.behind (h : Fok N L) {k c : Nat} (hc : c ∈ kids L k) : k ∈ nds L ∧ (nds L).idxOf k < (nds L).idxOf c := by
  obtain ⟨e, he, hp, rfl⟩ := mem_kids.1 hc
  obtain ⟨l1, l2, rfl⟩ := List.append_of_mem he
  rcases h.par l1 e l2 rfl with h1 | ⟨q, hq, h1⟩
  · omega
  · obtain rfl : k = q := by omega
    have nd := h.nod
    rw [nds_app, nds_cons] at nd ⊢
    have h3 : e.n ∉ nds l1 := fun hm => by
      have := (List.nodup_append.1 nd).2.2 e.n hm e.n (by simp)
      exact this rfl
    refine ⟨by simp [hq], ?_⟩
    rw [List.idxOf_append, List.idxOf_append, if_pos hq, if_neg h3]
    have := List.idxOf_lt_length_of_mem hq
    omega
theorem Fok.kid_in (_ : Fok N L) {k c : Nat} (hc : c ∈ kids L k) : c ∈ nds L := (kids_sub L k).subset hc
theorem hgt_kid (h : Fok N L) {k c : Nat} (hc : c ∈ kids L k) : hgt L c < hgt L k := by
  have h1 := (h.behind hc).2
  have h2 := List.idxOf_lt_length_of_mem (h.kid_in hc)
  rw [nds_len] at h2
  unfold hgt; omega
theorem bel_eq (h : Fok N L) : ∀ f g k, hgt L k ≤ f → hgt L k ≤ g → bel L f k = bel L g k := by
  intro f
  induction f with
  | zero =>
    intro g k hf _
    have e : kids L k = [] := by
      rcases hk : kids L k with _ | ⟨c, r⟩
      · rfl
      · have := hgt_kid h (c := c) (k := k) (by simp [hk]); omega
    cases g with
    | zero => rfl
    | succ g => simp [bel, e]
  | succ f ih =>
    intro g k hf hg
    cases g with
    | zero =>
      have e : kids L k = [] := by
        rcases hk : kids L k with _ | ⟨c, r⟩
        · rfl
        · have := hgt_kid h (c := c) (k := k) (by simp [hk]); omega
      simp [bel, e]
    | succ g =>
      simp only [bel, List.flatMap]
      congr 1
      apply List.map_congr_left
      intro c hc
      have := hgt_kid h hc
      rw [ih g c (by omega) (by omega)]
theorem hgt_le (L : List Fe) (k : Nat) : hgt L k ≤ L.length := by unfold hgt; omega
theorem bel_blw (h : Fok N L) {f k : Nat} (hf : hgt L k ≤ f) : bel L f k = blw L k := bel_eq h f L.length k hf (hgt_le L k)
theorem blw_eq (h : Fok N L) (k : Nat) : blw L k = (kids L k).flatMap fun c => c :: blw L c := by
  rw [← bel_blw h (f := L.length + 1) (by have := hgt_le L k; omega)]
  rfl
/-- what is below lies behind, and is there -/
theorem bel_mem (h : Fok N L) : ∀ f k x, x ∈ bel L f k → x ∈ nds L ∧ k ∈ nds L ∧ (nds L).idxOf k < (nds L).idxOf x := by
  intro f
  induction f with
  | zero => intro k x hx; simp [bel] at hx
  | succ f ih =>
    intro k x hx
    simp only [bel, List.mem_flatMap, List.mem_cons] at hx
    obtain ⟨c, hc, rfl | hx⟩ := hx
    · exact ⟨h.kid_in hc, h.behind hc⟩
    · obtain ⟨h1, h2, h3⟩ := ih c x hx
      have := h.behind hc
      exact ⟨h1, this.1, by omega⟩
theorem Fok.kids_nodup (h : Fok N L) (k : Nat) : (kids L k).Nodup := h.nod.sublist (kids_sub L k)
theorem Fok.one_par (h : Fok N L) {c a b : Nat} (ha : c ∈ kids L a) (hb : c ∈ kids L b) : a = b := by
  obtain ⟨e, he, hp, en⟩ := mem_kids.1 ha
  obtain ⟨e', he', hp', en'⟩ := mem_kids.1 hb
  have : e = e' := by
    obtain ⟨l1, l2, rfl⟩ := List.append_of_mem he
    have nd := h.nod
    rw [nds_app, nds_cons] at nd
    rcases List.mem_append.1 he' with h1 | h1
    · exact absurd ((List.nodup_append.1 nd).2.2 e'.n (mem_nds.2 ⟨e', h1, rfl⟩) e.n (by simp)) (by omega)
    · rcases List.mem_cons.1 h1 with h1 | h1
      · exact h1.symm
      · have h2 := (List.nodup_cons.1 (List.nodup_append.1 nd).2.1).1
        exact absurd (mem_nds.2 ⟨e', h1, by omega⟩) h2
  subst this
  omega
end
end Go.Proofs.Ytlphombjejgbiaa
