/- What an agenda holds, as the document has it: entries by their numbers. -/
import Derived.Test.YtafcgbahdfaiiaaEMath
namespace Go.Proofs.Ytafcgbahdfaiiaa

abbrev Srt (D : List En) : Prop := D.Pairwise fun a b => a.n < b.n
theorem srt_uniq {D : List En} (h : Srt D) {a b : En} (ha : a ∈ D) (hb : b ∈ D) (e : a.n = b.n) : a = b := by
  induction D with
  | nil => simp at ha
  | cons x D ih =>
    rw [Srt, List.pairwise_cons] at h
    rcases List.mem_cons.1 ha with rfl | ha' <;> rcases List.mem_cons.1 hb with rfl | hb'
    · rfl
    · have := h.1 b hb'; omega
    · have := h.1 a ha'; omega
    · exact ih h.2 ha' hb'
/-- what comes first -/
def IsB (D : List En) (e : En) : Prop := e ∈ D ∧ ∀ y, y ∈ D → ¬ bef y e
theorem isB_uniq {D : List En} (h : Srt D) {a b : En} (ha : IsB D a) (hb : IsB D b) : a = b := by
  refine srt_uniq h ha.1 hb.1 ?_
  have h1 := ha.2 b hb.1
  have h2 := hb.2 a ha.1
  unfold bef at h1 h2
  omega
/-- without the entry n -/
def dropD (D : List En) (n : Nat) : List En := D.filter fun y => !decide (y.n = n)
/-- with another thing in the entry n -/
def setD (D : List En) (n : Nat) (k m : Int) : List En := D.map fun y => if y.n = n then ⟨k, m, n⟩ else y
theorem mem_drop {D : List En} {n : Nat} {y : En} : y ∈ dropD D n ↔ y ∈ D ∧ y.n ≠ n := by simp [dropD]
theorem drop_none {D : List En} {n : Nat} (h : ∀ y, y ∈ D → y.n ≠ n) : dropD D n = D := by
  unfold dropD
  rw [List.filter_eq_self]
  intro y hy
  simp [h y hy]
theorem drop_app {U V : List En} {e : En} (h : Srt (U ++ e :: V)) : dropD (U ++ e :: V) e.n = U ++ V := by
  have h1 : ∀ y, y ∈ U → y.n ≠ e.n := fun y hy => by
    have := (List.pairwise_append.1 h).2.2 y hy e (by simp)
    omega
  have h2 : ∀ y, y ∈ V → y.n ≠ e.n := fun y hy => by
    have := (List.pairwise_cons.1 (List.pairwise_append.1 h).2.1).1 y hy
    omega
  have e1 : dropD (U ++ e :: V) e.n = dropD U e.n ++ dropD (e :: V) e.n := by unfold dropD; rw [List.filter_append]
  have e2 : dropD (e :: V) e.n = dropD V e.n := by unfold dropD; rw [List.filter_cons]; simp
  rw [e1, e2, drop_none h1, drop_none h2]
theorem split_at {D : List En} {e : En} (h : e ∈ D) : ∃ U V, D = U ++ e :: V := List.append_of_mem h
theorem drop_len {D : List En} (h : Srt D) {e : En} (he : e ∈ D) : (dropD D e.n).length + 1 = D.length := by
  obtain ⟨U, V, rfl⟩ := split_at he
  rw [drop_app h]
  simp; omega
theorem drop_srt {D : List En} (h : Srt D) (n : Nat) : Srt (dropD D n) := List.Pairwise.filter _ h
theorem set_n {n : Nat} {k m : Int} (y : En) : (if y.n = n then (⟨k, m, n⟩ : En) else y).n = y.n := by
  by_cases e : y.n = n
  · rw [if_pos e]; exact e.symm
  · rw [if_neg e]
theorem set_srt {D : List En} (h : Srt D) (n : Nat) (k m : Int) : Srt (setD D n k m) := by
  unfold setD Srt
  rw [List.pairwise_map]
  refine h.imp fun {a b} hab => ?_
  rw [set_n, set_n]; exact hab
theorem set_len (D : List En) (n : Nat) (k m : Int) : (setD D n k m).length = D.length := by simp [setD]
theorem mem_set {D : List En} (h : Srt D) {e : En} (he : e ∈ D) {k m : Int} {y : En} : y ∈ setD D e.n k m ↔ (y ∈ D ∧ y ≠ e) ∨ y = ⟨k, m, e.n⟩ := by
  unfold setD
  rw [List.mem_map]
  constructor
  · rintro ⟨x, hx, rfl⟩
    by_cases hxe : x.n = e.n
    · rw [if_pos hxe]; exact .inr rfl
    · rw [if_neg hxe]; exact .inl ⟨hx, by rintro rfl; exact hxe rfl⟩
  · rintro (⟨hy, hne⟩ | rfl)
    · exact ⟨y, hy, if_neg fun h' => hne (srt_uniq h hy he h')⟩
    · exact ⟨e, he, if_pos rfl⟩
theorem set_app {U V : List En} {e : En} (h : Srt (U ++ e :: V)) (k m : Int) : setD (U ++ e :: V) e.n k m = U ++ ⟨k, m, e.n⟩ :: V := by
  have h1 : ∀ y, y ∈ U → y.n ≠ e.n := fun y hy => by
    have := (List.pairwise_append.1 h).2.2 y hy e (by simp)
    omega
  have h2 : ∀ y, y ∈ V → y.n ≠ e.n := fun y hy => by
    have := (List.pairwise_cons.1 (List.pairwise_append.1 h).2.1).1 y hy
    omega
  have idm : ∀ l : List En, (∀ y, y ∈ l → y.n ≠ e.n) → l.map (fun y => if y.n = e.n then (⟨k, m, e.n⟩ : En) else y) = l := fun l hl => by
    conv => rhs; rw [← List.map_id l]
    exact List.map_congr_left fun y hy => by rw [if_neg (hl y hy)]; rfl
  unfold setD
  rw [List.map_append, List.map_cons, idm U h1, idm V h2, if_pos rfl]
theorem add_srt {D : List En} (h : Srt D) {e : En} (he : ∀ y, y ∈ D → y.n < e.n) : Srt (D ++ [e]) := by
  unfold Srt
  rw [List.pairwise_append]
  exact ⟨h, by simp, fun a ha b hb => by simp at hb; subst hb; exact he a ha⟩
/-- the row A holds D -/
structure Dn (D : List En) (A : Ar) : Prop where
  len : D.length = A.n
  mem : ∀ y, y ∈ D ↔ A.has y
  srt : Srt D
theorem Dn.num {D : List En} {A : Ar} (h : Dn D A) (ok : A.Ok) {y : En} (hy : y ∈ D) : 1 ≤ y.n ∧ y.n ≤ A.last ∧ -128 ≤ y.k ∧ y.k ≤ 127 := by
  obtain ⟨i, hi, rfl⟩ := (h.mem y).1 hy
  exact ⟨(ok.nb i hi).1, (ok.nb i hi).2, ok.kb i hi⟩
end Go.Proofs.Ytafcgbahdfaiiaa
