/- What Root, Derive, Cut and Prune make of a forest. -/
import Derived.Test.YtlphombjejgbiaaDMath2
namespace Go.Proofs.Ytlphombjejgbiaa

theorem Fok.snoc {N : Nat} {L : List Fe} (h : Fok N L) {x : Nat} {p : Int} (hx : x < N) (hn : x ∉ nds L) (hp : p = -1 ∨ ∃ q, q ∈ nds L ∧ p = (q : Int)) : Fok N (L ++ [⟨x, p⟩]) := by
  refine ⟨?_, ?_, ?_⟩
  · rw [nds_app]
    refine List.nodup_append.2 ⟨h.nod, by simp [nds], ?_⟩
    intro a ha b hb e
    simp [nds] at hb
    subst e hb
    exact hn ha
  · intro y hy
    rw [nds_app] at hy
    rcases List.mem_append.1 hy with hy | hy
    · exact h.lt y hy
    · simp [nds] at hy; omega
  · intro l1 e l2 he
    rcases List.append_eq_append_iff.1 he with ⟨a, h1, h2⟩ | ⟨a, h1, h2⟩
    · cases a with
      | nil =>
        simp at h1 h2
        obtain ⟨rfl, rfl⟩ := h2
        rw [h1]
        exact hp
      | cons y a =>
        simp at h2
    · cases a with
      | nil =>
        simp at h1 h2
        obtain ⟨rfl, rfl⟩ := h2
        rw [← h1]
        exact hp
      | cons y a =>
        simp at h2
        obtain ⟨rfl, h2⟩ := h2
        exact h.par l1 e a (by rw [h1])
theorem kids_root (L : List Fe) (x : Nat) : kids (L ++ [⟨x, -1⟩]) = kids L := by
  funext k
  rw [kids_app]
  have : kids [⟨x, -1⟩] k = [] := by simp [kids]
  rw [this, List.append_nil]
theorem kids_derive (L : List Fe) (x p : Nat) : kids (L ++ [⟨x, (p : Int)⟩]) = upd (kids L) p (kids L p ++ [x]) := by
  funext k
  rw [kids_app]
  by_cases e : k = p
  · subst e; simp [upd, kids]
  · have : kids [⟨x, (p : Int)⟩] k = [] := by simp [kids]; omega
    rw [this, List.append_nil]; simp [upd, e]

/-- what is asked while nodes go one by one -/
structure Fw (N : Nat) (L : List Fe) : Prop where
  nod : (nds L).Nodup
  lt : ∀ x, x ∈ nds L → x < N
  pl : ∀ e, e ∈ L → e.p < (N : Int)
theorem Fok.fw {N : Nat} {L : List Fe} (h : Fok N L) : Fw N L := ⟨h.nod, h.lt, fun e he => by
  obtain ⟨l1, l2, rfl⟩ := List.append_of_mem he
  rcases h.par l1 e l2 rfl with h1 | ⟨q, hq, h1⟩
  · omega
  · have := h.lt q (by rw [nds_app]; simp [hq]); omega⟩
/-- without the nodes of G -/
def wout (L : List Fe) (G : List Nat) : List Fe := L.filter fun e => !decide (e.n ∈ G)
theorem wout_nil (L : List Fe) : wout L [] = L := by simp [wout]
theorem nds_wout (L : List Fe) (G : List Nat) : nds (wout L G) = (nds L).filter fun x => !decide (x ∈ G) := by
  simp only [nds, wout, List.filter_map]; rfl
theorem mem_wout {L : List Fe} {G : List Nat} {x : Nat} : x ∈ nds (wout L G) ↔ x ∈ nds L ∧ x ∉ G := by rw [nds_wout]; simp
theorem kids_wout (L : List Fe) (G : List Nat) (k : Nat) : kids (wout L G) k = (kids L k).filter fun x => !decide (x ∈ G) := by
  simp only [kids, wout, List.filter_map, List.filter_filter]
  congr 1
  apply List.filter_congr
  intro e _
  simp [Bool.and_comm]
theorem Fw.wout {N : Nat} {L : List Fe} (h : Fw N L) (G : List Nat) : Fw N (wout L G) :=
  ⟨by rw [nds_wout]; exact h.nod.sublist List.filter_sublist, fun x hx => h.lt x (mem_wout.1 hx).1, fun e he => h.pl e (List.mem_filter.1 he).1⟩
theorem wout_snoc (L : List Fe) (G : List Nat) (g : Nat) : wout L (G ++ [g]) = wout (wout L G) [g] := by
  simp only [wout, List.filter_filter]
  apply List.filter_congr
  intro e _
  by_cases h1 : e.n ∈ G <;> by_cases h2 : e.n = g <;> simp [h1, h2]
theorem Fw.one_par {N : Nat} {L : List Fe} (h : Fw N L) {c a b : Nat} (ha : c ∈ kids L a) (hb : c ∈ kids L b) : a = b := by
  obtain ⟨e, he, hp, en⟩ := mem_kids.1 ha
  obtain ⟨e', he', hp', en'⟩ := mem_kids.1 hb
  have : e = e' := by
    obtain ⟨l1, l2, rfl⟩ := List.append_of_mem he
    have nd := h.nod
    rw [nds_app, nds_cons] at nd
    rcases List.mem_append.1 he' with h1 | h1
    · exact absurd ((List.nodup_append.1 nd).2.2 e'.n (mem_nds.2 ⟨e', h1, rfl⟩) e.n (by simp)) (by omega)
    · rcases List.mem_cons.1 h1 with h1 | h1
      · exact h1.symm
      · have h2 := (List.nodup_cons.1 (List.nodup_append.1 nd).2.1).1
        exact absurd (mem_nds.2 ⟨e', h1, by omega⟩) h2
  subst this
  omega
theorem Fw.kid_par {N : Nat} {L : List Fe} (h : Fw N L) {c a : Nat} (ha : c ∈ kids L a) : a < N := by
  obtain ⟨e, he, hp, en⟩ := mem_kids.1 ha
  have := h.pl e he
  omega
/-- a node is dropped out of the lists -/
theorem drop_kids {N : Nat} {L : List Fe} (h : Fw N L) {g : Nat} (hg : g < N) : dropR N N (kids L) (g : Int) = kids (wout L [g]) := by
  have hin : inR N (g : Int) = true := inR_iff.2 (by omega)
  funext k
  rw [kids_wout]
  simp only [dropR, hin, if_true, Int.toNat_natCast, outR]
  have hf : (fun x => !decide (x ∈ [g])) = (fun y => !decide (y = g)) := by funext y; simp
  rw [hf]
  cases hw : whr (kids L) N g with
  | none =>
    have h1 := whr_none hw
    symm
    apply List.filter_eq_self.2
    intro y hy
    have : y ≠ g := by
      rintro rfl
      exact h1 k (h.kid_par hy) hy
    simp [this]
  | some j =>
    obtain ⟨hj, hm⟩ := whr_some hw
    by_cases e : k = j
    · subst e; simp [upd]
    · simp only [upd, e, if_false]
      symm
      apply List.filter_eq_self.2
      intro y hy
      have : y ≠ g := by
        rintro rfl
        exact e (h.one_par hy hm)
      simp [this]
/-- what goes takes all below along -/
theorem Fok.wout {N : Nat} {L : List Fe} (h : Fok N L) {G : List Nat} (hG : ∀ q x, q ∈ G → x ∈ kids L q → x ∈ G) : Fok N (wout L G) := by
  refine ⟨(h.fw.wout G).nod, (h.fw.wout G).lt, ?_⟩
  intro l1 e l2 he
  obtain ⟨a, b, hab, ha, hb⟩ := List.filter_eq_append_iff.1 he
  obtain ⟨c, d, hcd, hc1, hc2, hc3⟩ := List.filter_eq_cons_iff.1 hb
  have hL : L = (a ++ c) ++ e :: d := by rw [hab, hcd]; simp
  rcases h.par (a ++ c) e d hL with h1 | ⟨q, hq, h1⟩
  · exact .inl h1
  · refine .inr ⟨q, ?_, h1⟩
    have hk : e.n ∈ kids L q := mem_kids.2 ⟨e, by rw [hL]; simp, h1, rfl⟩
    have hqG : q ∉ G := fun hm => by
      have := hG q e.n hm hk
      simp [this] at hc2
    rw [← ha]
    rw [nds_app] at hq
    rcases List.mem_append.1 hq with hq | hq
    · exact mem_wout.2 ⟨hq, hqG⟩
    · obtain ⟨f, hf, rfl⟩ := mem_nds.1 hq
      exact absurd (hc1 f hf) (by simp [hqG])
theorem below_closed {N : Nat} {L : List Fe} (h : Fok N L) (k : Nat) : ∀ q x, q ∈ blw L k → x ∈ kids L q → x ∈ blw L k :=
  fun q x hq hx => blw_trans h _ k q x (Nat.le_refl _) hq (blw_kid h hx)
theorem cut_closed {N : Nat} {L : List Fe} (h : Fok N L) (k : Nat) : ∀ q x, q ∈ k :: blw L k → x ∈ kids L q → x ∈ k :: blw L k := by
  intro q x hq hx
  rcases List.mem_cons.1 hq with rfl | hq
  · exact List.mem_cons_of_mem _ (blw_kid h hx)
  · exact List.mem_cons_of_mem _ (below_closed h k q x hq hx)

def rootE (N : Nat) (L : List Fe) (x : Int) : Int := if inR N x then (if decide (x.toNat ∈ nds L) then 121 else 0) else 120
def rootL (N : Nat) (L : List Fe) (x : Int) : List Fe := if rootE N L x = 0 then L ++ [⟨x.toNat, -1⟩] else L
def derE (N : Nat) (L : List Fe) (p x : Int) : Int := if inR N p && inR N x then (if decide (x.toNat ∈ nds L) then 121 else if decide (p.toNat ∈ nds L) then 0 else 122) else 120
def derL (N : Nat) (L : List Fe) (p x : Int) : List Fe := if derE N L p x = 0 then L ++ [⟨x.toNat, p⟩] else L
def askE (N : Nat) (L : List Fe) (x : Int) : Int := if inR N x then (if decide (x.toNat ∈ nds L) then 0 else 122) else 120
def cutT (N : Nat) (L : List Fe) (x : Int) : List Nat := if askE N L x = 0 then x.toNat :: blw L x.toNat else []
def pruT (N : Nat) (L : List Fe) (x : Int) : List Nat := if askE N L x = 0 then blw L x.toNat else []
theorem Fok.root {N : Nat} {L : List Fe} (h : Fok N L) (x : Int) : Fok N (rootL N L x) := by
  unfold rootL rootE
  by_cases h1 : inR N x
  · obtain ⟨k, rfl, hk⟩ := inR_nat h1
    by_cases h2 : k ∈ nds L
    · simpa [h1, h2] using h
    · simpa [h1, h2] using h.snoc hk h2 (.inl rfl)
  · simpa [h1] using h
theorem Fok.der {N : Nat} {L : List Fe} (h : Fok N L) (p x : Int) : Fok N (derL N L p x) := by
  unfold derL derE
  by_cases h1 : inR N x
  · by_cases h0 : inR N p
    · have h0' := h0
      obtain ⟨k, rfl, hk⟩ := inR_nat h1
      obtain ⟨q, rfl, hq⟩ := inR_nat h0
      by_cases h2 : k ∈ nds L
      · simpa [h0', h1, h2] using h
      · by_cases h3 : q ∈ nds L
        · simpa [h0', h1, h2, h3] using h.snoc hk h2 (.inr ⟨q, h3, rfl⟩)
        · simpa [h0', h1, h2, h3] using h
    · simpa [h0] using h
  · simpa [h1] using h
theorem Fok.cut {N : Nat} {L : List Fe} (h : Fok N L) (x : Int) : Fok N (Go.Proofs.Ytlphombjejgbiaa.wout L (cutT N L x)) := by
  unfold cutT
  split
  · exact h.wout (cut_closed h _)
  · rw [wout_nil]; exact h
theorem Fok.pru {N : Nat} {L : List Fe} (h : Fok N L) (x : Int) : Fok N (Go.Proofs.Ytlphombjejgbiaa.wout L (pruT N L x)) := by
  unfold pruT
  split
  · exact h.wout (below_closed h _)
  · rw [wout_nil]; exact h
end Go.Proofs.Ytlphombjejgbiaa
