/- All, whole; Same. -/
import Derived.Test.YtcfmbppnghlkaaaYNew
import Derived.Test.YtcfmbppnghlkaaaYMerge
import Derived.Test.YtcfmbppnghlkaaaLeaf
namespace Go.Proofs.Ytcfmbppnghlkaaa
open Go.RowKit Go.Sort
set_option maxRecDepth 100000

theorem filter_two {l : List Rc} {p q s : Rc → Bool} (h1 : ∀ r, r ∈ l → s r = (p r || q r)) (h2 : ∀ r, r ∈ l → ¬ (p r = true ∧ q r = true)) : (l.filter s).length = (l.filter p).length + (l.filter q).length := by
  induction l with
  | nil => rfl
  | cons a l ih =>
    have e := ih (fun r hr => h1 r (List.mem_cons_of_mem _ hr)) (fun r hr => h2 r (List.mem_cons_of_mem _ hr))
    have h3 := h1 a List.mem_cons_self
    have h4 := h2 a List.mem_cons_self
    cases hp : p a <;> cases hq : q a <;> rw [hp, hq] at h3 h4 <;> simp [h3, hp, hq] at h4 ⊢ <;> omega
theorem Lo.total {R : List Int} {L : List Rc} (h : Lo R L) : L.length ≤ 16384 := by
  have key : ∀ n : Nat, n ≤ R.length → (L.filter fun r => decide (r.g < (n : Int))).length ≤ n * 1024 := by
    intro n
    induction n with
    | zero =>
      intro _
      have : L.filter (fun r => decide (r.g < ((0 : Nat) : Int))) = [] := by
        rw [List.filter_eq_nil_iff]
        intro r hr
        have := (h.gate r hr).1
        simp; omega
      rw [this]; simp
    | succ n ih =>
      intro hn
      have e : (L.filter fun r => decide (r.g < ((n + 1 : Nat) : Int))).length = (L.filter fun r => decide (r.g < (n : Int))).length + (ownR L n).length := by
        refine filter_two (fun r hr => ?_) (fun r hr => ?_)
        · rw [Bool.eq_iff_iff]; simp; omega
        · simp; omega
      have := ih (by omega)
      have := h.len (i := n) (by omega)
      omega
  have h1 := key R.length (Nat.le_refl _)
  have e : L.filter (fun r => decide (r.g < (R.length : Int))) = L := by
    rw [List.filter_eq_self]
    intro r hr
    simpa using (h.gate r hr).2
  rw [e] at h1
  have := h.few
  omega
/-- rows that begin what each gate has -/
structure Beg (o : Yo) (R : List Int) (L : List Rc) (f : Nat → Pt) (m : Nat → Nat) (F : List Rc) : Prop where
  n : ∀ i, i < R.length → (f i).n = m i
  v : ∀ i, i < R.length → 0 < m i → f i = ⟨sA (o.v i), m i, sC (o.v i)⟩
  le : ∀ i, i < R.length → m i ≤ (ownR L i).length
  rise : RiseR F
  mem : ∀ r, r ∈ F ↔ ∃ i, i < R.length ∧ r ∈ (ownR L i).take (m i)
  len : F.length ≤ 100000
section
variable {w w' : World} {p : Nat} {o : Yo} {R : List Int} {L : List Rc} {f : Nat → Pt} {m : Nat → Nat} {F : List Rc}
abbrev famOf (o : Yo) (R : List Int) (L : List Rc) (f : Nat → Pt) (m : Nat → Nat) : Fam :=
  ⟨(gsTo f R.length).length, fun i => sB (o.v ((gsTo f R.length).getD i 0)), fun i => sC (o.v ((gsTo f R.length).getD i 0)), fun i => (ownR L ((gsTo f R.length).getD i 0)).take (m ((gsTo f R.length).getD i 0))⟩
theorem Beg.gs (b : Beg o R L f m F) {i : Nat} (hi : i < (gsTo f R.length).length) : (gsTo f R.length).getD i 0 < R.length ∧ 0 < m ((gsTo f R.length).getD i 0) := by
  have h : (gsTo f R.length).getD i 0 ∈ gsTo f R.length := by rw [getD_at hi]; exact List.getElem_mem hi
  obtain ⟨h1, h2⟩ := mem_gs.1 h
  exact ⟨h1, by rw [← b.n _ h1]; exact h2⟩
theorem Beg.ok (b : Beg o R L f m F) (x : Yx w p o R L) : (famOf o R L f m).Ok F := by
  refine ⟨b.rise, fun i hi => ?_, fun i hi r hr => ?_, fun r => ?_, fun i j r q hi hj hr hq he => ?_, fun i hi => ?_, fun i hi => ?_, ?_, b.len⟩
  · exact List.Pairwise.sublist (List.take_sublist _ _) (x.ok.rise.filter _)
  · exact x.ok.rok r (mem_own.1 (List.mem_of_mem_take hr)).1
  · rw [b.mem]
    constructor
    · rintro ⟨i, hi, hr⟩
      have hmi : 0 < m i := by
        have := List.length_pos_of_mem hr
        rw [List.length_take] at this
        omega
      obtain ⟨k, hk⟩ := List.getElem?_of_mem (mem_gs.2 ⟨hi, by rw [b.n i hi]; exact hmi⟩ : i ∈ gsTo f R.length)
      have hkl := (List.getElem?_eq_some_iff.1 hk).1
      refine ⟨k, hkl, ?_⟩
      show r ∈ (ownR L ((gsTo f R.length).getD k 0)).take _
      rw [getD_at hkl, (List.getElem?_eq_some_iff.1 hk).2]
      exact hr
    · rintro ⟨k, hk, hr⟩
      exact ⟨_, (b.gs hk).1, hr⟩
  · have h1 := mem_own.1 (List.mem_of_mem_take hr)
    have h2 := mem_own.1 (List.mem_of_mem_take hq)
    have e := x.ok.rise.uniq h1.1 h2.1 he
    rw [← e, h1.2] at h2
    have e2 : (gsTo f R.length).getD i 0 = (gsTo f R.length).getD j 0 := by have := h2.2; omega
    rw [getD_at hi, getD_at hj] at e2
    exact (List.getElem_inj (gs_nodup f R.length)).1 e2
  · obtain ⟨h1, h2⟩ := b.gs hi
    have := b.le _ h1
    intro h
    have h3 := congrArg List.length h
    simp only [List.length_take, List.length_nil] at h3
    omega
  · obtain ⟨h1, h2⟩ := b.gs hi
    have := (x.row h1).2.1
    have h3 := b.le _ h1
    show ((ownR L _).take _).length ≤ _
    rw [List.length_take]
    show _ ≤ sC _
    omega
  · have h1 := ptsTo_len f R.length
    rw [pts_gs, List.length_map] at h1
    have := x.ok.few
    show (gsTo f R.length).length ≤ 1000
    omega
theorem Beg.in_ (b : Beg o R L f m F) (x : Yx w p o R L) : (famOf o R L f m).In w := by
  intro i hi j r hr k v hv
  have hr' : (ownR L ((gsTo f R.length).getD i 0))[j]? = some r := by
    have h : ((ownR L ((gsTo f R.length).getD i 0)).take _)[j]? = some r := hr
    rw [List.getElem?_take] at h
    split at h
    · exact h
    · cases h
  exact ((x.row (b.gs hi).1).2.2 j r hr').2 k v hv
/-- the parts, merged -/
theorem ymerged (b : Beg o R L f m F) (x : Yx w p o R L) {base : Nat} {v : Value} (ho : w.ownsRow base 61 1 v (ptsTo f R.length).length ((ptsTo f R.length).map Pt.V)) :
    Calls Try.prog 38 #[v] w fun e w' => ∃ v, e = .returned v ∧ w'.ownsRow w.heap.size 38 4 v F.length (encRs F) ∧ Below w.heap.size w w' ∧ (F = [] → v = .slice none 0 0) := by
  obtain ⟨a, cap, rfl, _, hat⟩ := own_at ho
  rw [pts_gs, List.length_map]
  refine merged_k (famOf o R L f m) F a cap w (b.ok x) (b.in_ x) fun i hi => ?_
  have hi' : i < (gsTo f R.length).length := hi
  obtain ⟨h1, h2⟩ := b.gs hi'
  have he : (ptsTo f R.length).map Pt.V = (gsTo f R.length).map fun k => (f k).V := by rw [pts_gs, List.map_map]; rfl
  rw [he] at hat
  obtain ⟨g, _, q1, q2⟩ := hat i (f ((gsTo f R.length).getD i 0)).V (by rw [List.getElem?_map, List.getElem?_eq_getElem hi', getD_at hi']; rfl)
  refine ⟨g, q1, ?_⟩
  rw [q2, b.v _ h1 h2]
  have hle := b.le _ h1
  have hA : sA (o.v ((gsTo f R.length).getD i 0)) = some ⟨sB (o.v ((gsTo f R.length).getD i 0)), 0, none⟩ := by
    have hp : 0 < (ownR L ((gsTo f R.length).getD i 0)).length := by omega
    exact ((x.row h1).2.2 0 _ (List.getElem?_eq_getElem hp)).1
  show some (Value.slice _ _ _) = some (Value.slice _ _ _)
  simp only [hA, List.length_take, Nat.sub_zero, Nat.mul_zero, Nat.min_eq_left hle]
end
end Go.Proofs.Ytcfmbppnghlkaaa
namespace Go.Proofs.Ytcfmbppnghlkaaa
open Go.RowKit Go.Sort
set_option maxRecDepth 100000

theorem fpart : ∀ args W, (callFunc 39 args).run Try.prog W = .ok (.enter 39 args) W := enters_of Try.func39 (by kernel_rfl) rfl
set_option maxHeartbeats 1000000 in
theorem ypart (w : World) (s i : Int) (a : Option Addr) (n c : Nat) (hs : 0 ≤ s ∧ s < 18446744073709551616) : Calls Try.prog 39 #[.int .u64 s, .int .i64 i, .slice a n c] w fun e w' => e = .returned (if hasB s i then .slice a n c else .slice none 0 0) ∧ w' = w := by
  have h := has_any s i w hs.1 hs.2
  cases hb : hasB s i
  · rw [hb] at h
    go_enter Try.func39, Try.ntmps39
    go_wp2_with fail
    refine h.mono ?_
    rintro e w' ⟨rfl, hw⟩
    subst hw
    go_wp2_with fail
    go_ret
    exact ⟨rfl, rfl⟩
  · rw [hb] at h
    go_enter Try.func39, Try.ntmps39
    go_wp2_with fail
    refine h.mono ?_
    rintro e w' ⟨rfl, hw⟩
    subst hw
    go_wp2_with fail
    go_ret
    exact ⟨rfl, rfl⟩
/-- what All tells -/
def allR (L : List Rc) (s : Int) : List Rc := L.filter fun r => hasB s r.g
def setP (o : Yo) (L : List Rc) (s : Int) (i : Nat) : Pt := if hasB s i then ⟨sA (o.v i), (ownR L i).length, sC (o.v i)⟩ else ⟨none, 0, 0⟩
def setM (L : List Rc) (s : Int) (i : Nat) : Nat := if hasB s i then (ownR L i).length else 0
section
variable {w w' : World} {p : Nat} {o : Yo} {R : List Int} {L : List Rc}
theorem Yx.begS (x : Yx w p o R L) (s : Int) : Beg o R L (setP o L s) (setM L s) (allR L s) := by
  refine ⟨fun i _ => ?_, fun i _ hm => ?_, fun i _ => ?_, x.ok.rise.filter _, fun r => ?_, ?_⟩
  · unfold setP setM; split <;> rfl
  · unfold setP setM at *
    split at hm
    · rename_i h; rw [if_pos h, if_pos h]
    · omega
  · unfold setM; split <;> omega
  · unfold allR
    rw [List.mem_filter]
    constructor
    · rintro ⟨h1, h2⟩
      have hg := x.ok.gate r h1
      refine ⟨r.g.toNat, by omega, ?_⟩
      have e : (r.g.toNat : Int) = r.g := by omega
      unfold setM
      rw [e, if_pos h2, List.take_length]
      exact mem_own.2 ⟨h1, e.symm⟩
    · rintro ⟨i, hi, h⟩
      unfold setM at h
      split at h
      · rename_i hb
        rw [List.take_length] at h
        obtain ⟨h1, h2⟩ := mem_own.1 h
        exact ⟨h1, by rw [h2]; exact hb⟩
      · simp at h
  · have := x.ok.total
    have : (allR L s).length ≤ L.length := List.length_filter_le _ _
    omega
end
set_option maxHeartbeats 1000000 in
theorem yAll_w (w : World) (P : Value) (s : Int) (S : Value → World → World → Prop) (T : Value → World → Prop)
    (c1 : Calls Try.prog 31 #[P, .func (.func 39) #[.int .u64 s] #[]] w fun e w' => ∃ v, e = .returned v ∧ S v w w')
    (c2 : ∀ v w', S v w w' → Calls Try.prog 38 #[v] w' fun e w'' => ∃ u, e = .returned u ∧ (∃ a n c, u = .slice a n c) ∧ T u w'') :
    Calls Try.prog 21 #[P, .int .u64 s] w fun e w' => ∃ u, e = .returned u ∧ T u w' := by
  have H2 : Hid (∀ v w', S v w w' → Calls Try.prog 38 #[v] w' fun e w'' => ∃ u, e = .returned u ∧ (∃ a n c, u = .slice a n c) ∧ T u w'') := c2
  clear c2
  go_enter Try.func21, Try.ntmps21
  go_wp2_with fail
  refine c1.mono ?_
  rintro e w1 ⟨v, rfl, hS⟩
  have c2 := H2.out v w1 hS
  clear c1 hS
  go_wp2_with fail
  refine c2.mono ?_
  rintro e w2 ⟨u, rfl, ⟨a, n, c, rfl⟩, hT⟩
  have HT : Hid (T (.slice a n c) w2) := hT
  clear c2 hT
  go_wp2_with fail
  go_ret
  exact ⟨_, rfl, HT.out⟩
theorem yAll (w : World) (p : Nat) (o : Yo) (R : List Int) (L : List Rc) (x : Yx w p o R L) (s : Int) (hs : 0 ≤ s ∧ s < 18446744073709551616) :
    Calls Try.prog 21 #[ptr p, .int .u64 s] w fun e w' => ∃ u, e = .returned u ∧ w'.ownsRow w.heap.size 38 4 u (allR L s).length (encRs (allR L s)) ∧ Below w.heap.size w w' := by
  refine yAll_w w (ptr p) s (fun v W w' => w'.ownsRow w.heap.size 61 1 v (ptsTo (setP o L s) R.length).length ((ptsTo (setP o L s) R.length).map Pt.V) ∧ Below w.heap.size w w') _ ((yparts w p o R L x 39 #[.int .u64 s] (setP o L s) fpart ?_).mono fun e w' ⟨v, h1, h2, h3⟩ => ⟨v, h1, h2, h3⟩) ?_
  · intro i W hi hb
    obtain ⟨h1, _, _⟩ := (x.below hb).row hi
    rw [h1]
    refine (ypart W s (i : Int) _ _ _ hs).mono ?_
    rintro e w' ⟨rfl, rfl⟩
    refine ⟨?_, Below.refl _ _⟩
    unfold setP
    split
    · rfl
    · rfl
  · rintro v w' ⟨h1, h2⟩
    refine (ymerged (x.begS s) (x.below h2) h1).mono ?_
    rintro e w'' ⟨u, rfl, h3, h4, _⟩
    obtain ⟨a, c, hu, _⟩ := own_at h3
    exact ⟨u, rfl, ⟨a, _, c, hu⟩, own_mono2 h3 h2.size, Below.onto h2 h4⟩
/-- nobody's merged rows -/
theorem ymerged_0 (w : World) : Calls Try.prog 38 #[.slice none 0 0] w fun e w' => e = .returned (.slice none 0 0) ∧ Below w.heap.size w w' := by
  refine (merged_k ⟨0, fun _ => 0, fun _ => 0, fun _ => []⟩ [] none 0 w ⟨List.Pairwise.nil, fun i h => absurd h (Nat.not_lt_zero _), fun i h => absurd h (Nat.not_lt_zero _), fun r => ⟨fun h => (by cases h), fun ⟨i, h, _⟩ => absurd h (Nat.not_lt_zero i)⟩, fun i j r q h => absurd h (Nat.not_lt_zero _), fun i h => absurd h (Nat.not_lt_zero _), fun i h => absurd h (Nat.not_lt_zero _), by decide, by decide⟩ (fun i h => absurd h (Nat.not_lt_zero _)) (fun i h => absurd h (Nat.not_lt_zero _))).mono ?_
  rintro e w' ⟨v, rfl, _, hb, hz⟩
  rw [hz rfl]
  exact ⟨rfl, hb⟩
theorem yAll_no (w : World) (P : Value) (h : NbL w P) (s : Int) : Calls Try.prog 21 #[P, .int .u64 s] w fun e w' => e = .returned (.slice none 0 0) ∧ Below w.heap.size w w' := by
  refine (yAll_w w P s (fun v W w' => v = .slice none 0 0 ∧ w' = w) (fun u w' => u = .slice none 0 0 ∧ Below w.heap.size w w') ((yparts_no w P h _).mono fun e w' ⟨h1, h2⟩ => ⟨_, h1, rfl, h2⟩) ?_).mono ?_
  · rintro v w' ⟨rfl, rfl⟩
    refine (ymerged_0 w').mono ?_
    rintro e w'' ⟨rfl, h4⟩
    exact ⟨_, rfl, ⟨_, _, _, rfl⟩, rfl, h4⟩
  · rintro e w' ⟨u, rfl, rfl, hb⟩
    exact ⟨rfl, hb⟩
set_option maxHeartbeats 1000000 in
theorem yUpto_no (w : World) (P : Value) (h : NbL w P) (t s : Int) : Calls Try.prog 23 #[P, .agg #[.int .i64 t, .int .i64 s]] w fun e w' => e = .returned (.slice none 0 0) ∧ Below w.heap.size w w' := by
  have hb : Below w.heap.size w (w.alloc (.cells #[.int .i64 t, .int .i64 s] 26)) := (Below.refl _ w).alloc (Nat.le_refl _) _
  have c := yparts_no _ P (h.below hb)
  have HB : Hid (Below w.heap.size w (w.alloc (.cells #[.int .i64 t, .int .i64 s] 26))) := hb
  clear h hb
  go_enter Try.func23, Try.ntmps23
  go_wp2_with fail
  refine (c _).mono ?_
  rintro e w1 ⟨rfl, hw⟩
  subst hw
  clear c
  go_wp2_with fail
  refine (ymerged_0 _).mono ?_
  rintro e w2 ⟨rfl, hb2⟩
  have HE : Hid (Below w.heap.size w w2) := Below.onto HB.out hb2
  clear hb2
  go_wp2_with fail
  go_ret
  exact ⟨rfl, HE.out⟩
set_option maxHeartbeats 1000000 in
theorem yOf_bad (w : World) (P : Value) (g : Int) (er : Int) (her : er ≠ 0)
    (c : Calls Try.prog 28 #[P, .int .i64 g] w fun e w' => e = .returned (.tuple #[.pointer none, .int .i64 er]) ∧ w' = w) : Calls Try.prog 19 #[P, .int .i64 g] w fun e w' => e = .returned (.slice none 0 0) ∧ w' = w := by
  go_enter Try.func19, Try.ntmps19
  go_wp2_with fail
  refine c.mono ?_
  rintro e w' ⟨rfl, hw⟩
  subst hw
  clear c
  go_wp2_with fail
  go_ret
  exact ⟨rfl, rfl⟩
end Go.Proofs.Ytcfmbppnghlkaaa
