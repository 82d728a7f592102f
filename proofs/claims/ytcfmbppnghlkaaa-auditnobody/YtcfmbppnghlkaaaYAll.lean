/- All. -/
import Derived.Test.YtcfmbppnghlkaaaYNew
import Derived.Test.YtcfmbppnghlkaaaYMerge
import Derived.Test.YtcfmbppnghlkaaaLeaf
namespace Go.Proofs.Ytcfmbppnghlkaaa
open Go.RowKit Go.Sort
set_option maxRecDepth 100000

theorem filter_two {l : List Rc} {p q s : Rc → Bool} (h1 : ∀ r, r ∈ l → s r = (p r || q r)) (h2 : ∀ r, r ∈ l → ¬ (p r = true ∧ q r = true)) : (l.filter s).length = (l.filter p).length + (l.filter q).length := by
  induction l with
  | nil => rfl
  | cons a l ih =>
    have e := ih (fun r hr => h1 r (List.mem_cons_of_mem _ hr)) (fun r hr => h2 r (List.mem_cons_of_mem _ hr))
    have h3 := h1 a List.mem_cons_self
    have h4 := h2 a List.mem_cons_self
    cases hp : p a <;> cases hq : q a <;> rw [hp, hq] at h3 h4 <;> simp [h3, hp, hq] at h4 ⊢ <;> omega
theorem Lo.total {R : List Int} {L : List Rc} (h : Lo R L) : L.length ≤ 16384 := by
  have key : ∀ n : Nat, n ≤ R.length → (L.filter fun r => decide (r.g < (n : Int))).length ≤ n * 1024 := by
    intro n
    induction n with
    | zero =>
      intro _
      have : L.filter (fun r => decide (r.g < ((0 : Nat) : Int))) = [] := by
        rw [List.filter_eq_nil_iff]
        intro r hr
        have := (h.gate r hr).1
        simp; omega
      rw [this]; simp
    | succ n ih =>
      intro hn
      have e : (L.filter fun r => decide (r.g < ((n + 1 : Nat) : Int))).length = (L.filter fun r => decide (r.g < (n : Int))).length + (ownR L n).length := by
        refine filter_two (fun r hr => ?_) (fun r hr => ?_)
        · rw [Bool.eq_iff_iff]; simp; omega
        · simp; omega
      have := ih (by omega)
      have := h.len (i := n) (by omega)
      omega
  have h1 := key R.length (Nat.le_refl _)
  have e : L.filter (fun r => decide (r.g < (R.length : Int))) = L := by
    rw [List.filter_eq_self]
    intro r hr
    simpa using (h.gate r hr).2
  rw [e] at h1
  have := h.few
  omega
/-- rows that begin what each gate has -/
structure Beg (o : Yo) (R : List Int) (L : List Rc) (f : Nat → Pt) (m : Nat → Nat) (F : List Rc) : Prop where
  n : ∀ i, i < R.length → (f i).n = m i
  v : ∀ i, i < R.length → 0 < m i → f i = ⟨sA (o.v i), m i, sC (o.v i)⟩
  le : ∀ i, i < R.length → m i ≤ (ownR L i).length
  rise : RiseR F
  mem : ∀ r, r ∈ F ↔ ∃ i, i < R.length ∧ r ∈ (ownR L i).take (m i)
  len : F.length ≤ 100000
section
variable {w w' : World} {p : Nat} {o : Yo} {R : List Int} {L : List Rc} {f : Nat → Pt} {m : Nat → Nat} {F : List Rc}
abbrev famOf (o : Yo) (R : List Int) (L : List Rc) (f : Nat → Pt) (m : Nat → Nat) : Fam :=
  ⟨(gsTo f R.length).length, fun i => sB (o.v ((gsTo f R.length).getD i 0)), fun i => sC (o.v ((gsTo f R.length).getD i 0)), fun i => (ownR L ((gsTo f R.length).getD i 0)).take (m ((gsTo f R.length).getD i 0))⟩
theorem Beg.gs (b : Beg o R L f m F) {i : Nat} (hi : i < (gsTo f R.length).length) : (gsTo f R.length).getD i 0 < R.length ∧ 0 < m ((gsTo f R.length).getD i 0) := by
  have h : (gsTo f R.length).getD i 0 ∈ gsTo f R.length := by rw [getD_at hi]; exact List.getElem_mem hi
  obtain ⟨h1, h2⟩ := mem_gs.1 h
  exact ⟨h1, by rw [← b.n _ h1]; exact h2⟩
theorem Beg.ok (b : Beg o R L f m F) (x : Yx w p o R L) : (famOf o R L f m).Ok F := by
  refine ⟨b.rise, fun i hi => ?_, fun i hi r hr => ?_, fun r => ?_, fun i j r q hi hj hr hq he => ?_, fun i hi => ?_, fun i hi => ?_, ?_, b.len⟩
  · exact List.Pairwise.sublist (List.take_sublist _ _) (x.ok.rise.filter _)
  · exact x.ok.rok r (mem_own.1 (List.mem_of_mem_take hr)).1
  · rw [b.mem]
    constructor
    · rintro ⟨i, hi, hr⟩
      have hmi : 0 < m i := by
        have := List.length_pos_of_mem hr
        rw [List.length_take] at this
        omega
      obtain ⟨k, hk⟩ := List.getElem?_of_mem (mem_gs.2 ⟨hi, by rw [b.n i hi]; exact hmi⟩ : i ∈ gsTo f R.length)
      have hkl := (List.getElem?_eq_some_iff.1 hk).1
      refine ⟨k, hkl, ?_⟩
      show r ∈ (ownR L ((gsTo f R.length).getD k 0)).take _
      rw [getD_at hkl, (List.getElem?_eq_some_iff.1 hk).2]
      exact hr
    · rintro ⟨k, hk, hr⟩
      exact ⟨_, (b.gs hk).1, hr⟩
  · have h1 := mem_own.1 (List.mem_of_mem_take hr)
    have h2 := mem_own.1 (List.mem_of_mem_take hq)
    have e := x.ok.rise.uniq h1.1 h2.1 he
    rw [← e, h1.2] at h2
    have e2 : (gsTo f R.length).getD i 0 = (gsTo f R.length).getD j 0 := by have := h2.2; omega
    rw [getD_at hi, getD_at hj] at e2
    exact (List.getElem_inj (gs_nodup f R.length)).1 e2
  · obtain ⟨h1, h2⟩ := b.gs hi
    have := b.le _ h1
    intro h
    have h3 := congrArg List.length h
    simp only [List.length_take, List.length_nil] at h3
    omega
  · obtain ⟨h1, h2⟩ := b.gs hi
    have := (x.row h1).2.1
    have h3 := b.le _ h1
    show ((ownR L _).take _).length ≤ _
    rw [List.length_take]
    show _ ≤ sC _
    omega
  · have h1 := ptsTo_len f R.length
    rw [pts_gs, List.length_map] at h1
    have := x.ok.few
    show (gsTo f R.length).length ≤ 1000
    omega
theorem Beg.in_ (b : Beg o R L f m F) (x : Yx w p o R L) : (famOf o R L f m).In w := by
  intro i hi j r hr k v hv
  have hr' : (ownR L ((gsTo f R.length).getD i 0))[j]? = some r := by
    have h : ((ownR L ((gsTo f R.length).getD i 0)).take _)[j]? = some r := hr
    rw [List.getElem?_take] at h
    split at h
    · exact h
    · cases h
  exact ((x.row (b.gs hi).1).2.2 j r hr').2 k v hv
/-- the parts, merged -/
theorem ymerged (b : Beg o R L f m F) (x : Yx w p o R L) {base : Nat} {v : Value} (ho : w.ownsRow base 61 1 v (ptsTo f R.length).length ((ptsTo f R.length).map Pt.V)) :
    Calls Try.prog 38 #[v] w fun e w' => ∃ v, e = .returned v ∧ w'.ownsRow w.heap.size 38 4 v F.length (encRs F) ∧ Below w.heap.size w w' ∧ (F = [] → v = .slice none 0 0) := by
  obtain ⟨a, cap, rfl, _, hat⟩ := own_at ho
  rw [pts_gs, List.length_map]
  refine merged_k (famOf o R L f m) F a cap w (b.ok x) (b.in_ x) fun i hi => ?_
  have hi' : i < (gsTo f R.length).length := hi
  obtain ⟨h1, h2⟩ := b.gs hi'
  have he : (ptsTo f R.length).map Pt.V = (gsTo f R.length).map fun k => (f k).V := by rw [pts_gs, List.map_map]; rfl
  rw [he] at hat
  obtain ⟨g, _, q1, q2⟩ := hat i (f ((gsTo f R.length).getD i 0)).V (by rw [List.getElem?_map, List.getElem?_eq_getElem hi', getD_at hi']; rfl)
  refine ⟨g, q1, ?_⟩
  rw [q2, b.v _ h1 h2]
  have hle := b.le _ h1
  have hA : sA (o.v ((gsTo f R.length).getD i 0)) = some ⟨sB (o.v ((gsTo f R.length).getD i 0)), 0, none⟩ := by
    have hp : 0 < (ownR L ((gsTo f R.length).getD i 0)).length := by omega
    exact ((x.row h1).2.2 0 _ (List.getElem?_eq_getElem hp)).1
  show some (Value.slice _ _ _) = some (Value.slice _ _ _)
  simp only [hA, List.length_take, Nat.sub_zero, Nat.mul_zero, Nat.min_eq_left hle]
end
end Go.Proofs.Ytcfmbppnghlkaaa
