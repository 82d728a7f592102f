/- Rings: a node put in, a node taken out, two rings made one. -/
import Derived.Test.YtiaacjollcccaaaKMath
namespace Go.Proofs.Ytiaacjollcccaaa

theorem cons_split (a : Nat) (l : List Nat) : a :: l = (a :: l).dropLast ++ [lst a l] := by
  induction l generalizing a with
  | nil => rfl
  | cons x l ih =>
    rw [List.dropLast_cons_of_ne_nil (by simp), List.cons_append]
    exact congrArg _ (ih x)
theorem lst_not {a j : Nat} {l : List Nat} (nd : (a :: l).Nodup) (hj : j ∈ (a :: l).dropLast) : j ≠ lst a l := by
  rw [cons_split a l] at nd
  intro e
  exact (List.nodup_append.1 nd).2.2 j hj (lst a l) (by simp) e
theorem mem_dropLast {j : Nat} {l : List Nat} (h : j ∈ l.dropLast) : j ∈ l := List.dropLast_subset l h
theorem tail_split (l : List Nat) (h : Nat) : l ++ [h] = l.headD h :: (l ++ [h]).tail := by cases l <;> rfl

theorem pth_keep {ah bh ah' bh' : Nat → Nat} {a : Nat} {l : List Nat} (h : Pth ah bh a l) (hb : ∀ j, j ∈ a :: l → bh' j = bh j ∧ ah' j = ah j) : Pth ah' bh' a l :=
  pth_congr h (fun j hj => (hb j (mem_dropLast hj)).1) (fun j hj => (hb j (List.mem_cons_of_mem _ hj)).2)

theorem pth_insert {ah bh ah' bh' : Nat → Nat} {h x : Nat} {l1 l2 : List Nat} (hp : Pth ah bh h (l1 ++ l2 ++ [h])) (nd : (h :: (l1 ++ l2)).Nodup) (hx : x ∉ h :: (l1 ++ l2))
    (hb : ∀ j, bh' j = if j = x then l2.headD h else if j = lst h l1 then x else bh j)
    (ha : ∀ j, ah' j = if j = l2.headD h then x else if j = x then lst h l1 else ah j) : Pth ah' bh' h (l1 ++ x :: l2 ++ [h]) := by
  rw [List.append_assoc] at hp ⊢
  rw [List.cons_append]
  obtain ⟨p1, p2⟩ := pth_app.1 hp
  have ts := tail_split l2 h
  have hy : l2.headD h ∈ l2 ++ [h] := headD_mem l2 h
  have hl : lst h l1 ∈ h :: l1 := lst_mem h l1
  have dl : (l2 ++ [h]).dropLast = l2 := List.dropLast_concat
  generalize l2.headD h = y at *
  generalize (l2 ++ [h]).tail = T at *
  rw [ts] at p2 ⊢
  obtain ⟨q1, q2, q3⟩ := p2
  have nd2 : (y :: T).Nodup := by rw [← ts]; grind
  have nd1 : (h :: l1).Nodup := by grind
  have ms : ∀ j, j ∈ y :: T → j ∈ l2 ++ [h] := fun j hj => by rw [ts]; exact hj
  refine pth_app.2 ⟨pth_congr p1 (fun j hj => ?_) (fun j hj => ?_), ?_, ?_, ?_, ?_, pth_congr q3 (fun j hj => ?_) (fun j hj => ?_)⟩
  · have h1 := mem_dropLast hj
    have h2 := lst_not nd1 hj
    rw [hb, if_neg (by grind), if_neg h2]
  · rw [ha, if_neg (by grind), if_neg (by grind)]
  · rw [hb, if_neg (by grind), if_pos rfl]
  · rw [ha, if_neg (by grind), if_pos rfl]
  · rw [hb, if_pos rfl]
  · rw [ha, if_pos rfl]
  · rw [← ts, dl] at hj
    rw [hb, if_neg (by grind), if_neg (by grind)]
  · have := ms j (List.mem_cons_of_mem _ hj)
    rw [ha, if_neg (by grind), if_neg (by grind)]

theorem pth_remove {ah bh ah' bh' : Nat → Nat} {h x : Nat} {l1 l2 : List Nat} (hp : Pth ah bh h (l1 ++ x :: l2 ++ [h])) (nd : (h :: (l1 ++ x :: l2)).Nodup)
    (hb : ∀ j, bh' j = if j = x then 0 else if j = lst h l1 then l2.headD h else bh j)
    (ha : ∀ j, ah' j = if j = x then 0 else if j = l2.headD h then lst h l1 else ah j) : Pth ah' bh' h (l1 ++ l2 ++ [h]) := by
  rw [List.append_assoc] at hp ⊢
  rw [List.cons_append] at hp
  obtain ⟨p1, p2⟩ := pth_app.1 hp
  have ts := tail_split l2 h
  have hy : l2.headD h ∈ l2 ++ [h] := headD_mem l2 h
  have hl : lst h l1 ∈ h :: l1 := lst_mem h l1
  have dl : (l2 ++ [h]).dropLast = l2 := List.dropLast_concat
  generalize l2.headD h = y at *
  generalize (l2 ++ [h]).tail = T at *
  rw [ts] at p2 ⊢
  obtain ⟨_, _, q1, q2, q3⟩ := p2
  have nd2 : (y :: T).Nodup := by rw [← ts]; grind
  have nd1 : (h :: l1).Nodup := by grind
  have ms : ∀ j, j ∈ y :: T → j ∈ l2 ++ [h] := fun j hj => by rw [ts]; exact hj
  refine pth_app.2 ⟨pth_congr p1 (fun j hj => ?_) (fun j hj => ?_), ?_, ?_, pth_congr q3 (fun j hj => ?_) (fun j hj => ?_)⟩
  · have h1 := mem_dropLast hj
    have h2 := lst_not nd1 hj
    rw [hb, if_neg (by grind), if_neg h2]
  · rw [ha, if_neg (by grind), if_neg (by grind)]
  · rw [hb, if_neg (by grind), if_pos rfl]
  · rw [ha, if_neg (by grind), if_pos rfl]
  · rw [← ts, dl] at hj
    rw [hb, if_neg (by grind), if_neg (by grind)]
  · have := ms j (List.mem_cons_of_mem _ hj)
    rw [ha, if_neg (by grind), if_neg (by grind)]

theorem pth_splice {ah bh ah' bh' : Nat → Nat} {t f x : Nat} {rt rf : List Nat} (hp : Pth ah bh t (rt ++ [t])) (hq : Pth ah bh f (x :: rf ++ [f])) (nd : (t :: f :: (rt ++ x :: rf)).Nodup)
    (hb : ∀ j, bh' j = if j = f then f else if j = lst x rf then t else if j = lst t rt then x else bh j)
    (ha : ∀ j, ah' j = if j = f then f else if j = t then lst x rf else if j = x then lst t rt else ah j) : Pth ah' bh' t (rt ++ x :: rf ++ [t]) ∧ Pth ah' bh' f ([] ++ [f]) := by
  refine ⟨?_, by rw [hb, if_pos rfl], by rw [ha, if_pos rfl], trivial⟩
  obtain ⟨p1, p2, p3, _⟩ := pth_app.1 hp
  obtain ⟨q0, q1, q2⟩ := pth_app.1 hq
  obtain ⟨q3, q4, q5⟩ := q0
  have nd1 : (t :: rt).Nodup := by grind
  have nd2 : (x :: rf).Nodup := by grind
  have hl : lst t rt ∈ t :: rt := lst_mem t rt
  have hm : lst x rf ∈ x :: rf := lst_mem x rf
  rw [List.append_assoc, List.cons_append]
  refine pth_app.2 ⟨pth_congr p1 (fun j hj => ?_) (fun j hj => ?_), ?_, ?_, pth_app.2 ⟨pth_congr q5 (fun j hj => ?_) (fun j hj => ?_), ?_, ?_, trivial⟩⟩
  · have h1 := mem_dropLast hj
    have h2 := lst_not nd1 hj
    rw [hb, if_neg (by grind), if_neg (by grind), if_neg h2]
  · rw [ha, if_neg (by grind), if_neg (by grind), if_neg (by grind)]
  · rw [hb, if_neg (by grind), if_neg (by grind), if_pos rfl]
  · rw [ha, if_neg (by grind), if_neg (by grind), if_pos rfl]
  · have h1 := mem_dropLast hj
    have h2 := lst_not nd2 hj
    rw [hb, if_neg (by grind), if_neg h2, if_neg (by grind)]
  · rw [ha, if_neg (by grind), if_neg (by grind), if_neg (by grind)]
  · rw [hb, if_neg (by grind), if_pos rfl]
  · rw [ha, if_neg (by grind), if_pos rfl]

theorem Inv0.heads {s : Sx} {R : Nat → List Nat} (h : Inv0 s R) {k : Nat} (hk : k < s.m) : ((s.n + k) :: R k).Nodup := by
  refine List.nodup_cons.2 ⟨fun hm => ?_, h.nod k hk⟩
  have := h.rng k hk _ hm
  omega

theorem Inv.enter {s : Sx} {R : Nat → List Nat} (h : Inv s R) {k x a : Nat} {l1 l2 : List Nat} (hk : k < s.m) (hx : x < s.n) (hn : ∀ j, j < s.m → x ∉ R j) (e : R k = l1 ++ l2) (ea : a = lst (s.n + k) l1) : Inv (s.enter k x a) (upd R k (l1 ++ x :: l2)) := by
  have hr : Pth s.ah s.bh (s.n + k) (l1 ++ l2 ++ [s.n + k]) := by rw [← e]; exact h.ring k hk
  have nd : ((s.n + k) :: (l1 ++ l2)).Nodup := by rw [← e]; exact h.heads hk
  have hxk : x ∉ (s.n + k) :: (l1 ++ l2) := by
    rw [← e]
    intro hm
    rcases List.mem_cons.1 hm with e | hm
    · omega
    · exact hn k hk hm
  have eb : s.bh a = l2.headD (s.n + k) := by
    rw [ea]
    have := (pth_app.1 (by rwa [List.append_assoc] at hr)).2
    rw [tail_split] at this
    exact this.1
  have hal : a ∈ (s.n + k) :: (l1 ++ l2) := by rw [ea]; have := lst_mem (s.n + k) l1; grind
  have hbl : l2.headD (s.n + k) ∈ (s.n + k) :: (l1 ++ l2) := by have := headD_mem l2 (s.n + k); grind
  have hax : a ≠ x := by rintro rfl; exact hxk hal
  have hbx : l2.headD (s.n + k) ≠ x := by intro e; rw [e] at hbl; exact hxk hbl
  have fb : ∀ j, (s.enter k x a).bh j = if j = x then l2.headD (s.n + k) else if j = lst (s.n + k) l1 then x else s.bh j := by
    intro j
    simp only [Sx.enter, Sx.size, Sx.join, Sx.put, upd, eb, ← ea]
    split
    · rfl
    · split <;> rfl
  have fa : ∀ j, (s.enter k x a).ah j = if j = l2.headD (s.n + k) then x else if j = x then lst (s.n + k) l1 else s.ah j := by
    intro j
    simp only [Sx.enter, Sx.size, Sx.join, Sx.put, upd, eb, ← ea]
    split
    · rfl
    · split <;> rfl
  have fg : ∀ j, (s.enter k x a).bg j = if j = x then s.lb k else s.bg j := fun j => rfl
  have fl : ∀ j, (s.enter k x a).ls j = if j = k then s.ls k + 1 else s.ls j := fun j => rfl
  have en : (s.enter k x a).n = s.n := rfl
  have em : (s.enter k x a).m = s.m := rfl
  have el : (s.enter k x a).lb = s.lb := rfl
  have eo : (s.enter k x a).ow = s.ow := rfl
  have mR : ∀ j y, j < s.m → (y ∈ upd R k (l1 ++ x :: l2) j ↔ y ∈ R j ∨ (j = k ∧ y = x)) := by
    intro j y hj
    unfold upd
    by_cases hjk : j = k
    · subst hjk; rw [if_pos rfl, e]; grind
    · rw [if_neg hjk]; grind
  refine ⟨⟨?_, ?_, ?_, ?_, ?_, ?_, ?_⟩, ?_⟩
  · intro j hj
    rw [em] at hj
    unfold Ring
    rw [en]
    by_cases hjk : j = k
    · subst hjk
      rw [upd_at]
      exact pth_insert hr nd hxk fb fa
    · rw [upd_ne hjk]
      refine pth_keep (h.ring j hj) fun y hy => ?_
      have hy' : y = s.n + j ∨ y ∈ R j := by grind
      have hyx : y ≠ x := by
        rintro rfl
        rcases hy' with rfl | hy'
        · omega
        · exact hn j hj hy'
      have hyk : ∀ z, z ∈ (s.n + k) :: (l1 ++ l2) → y ≠ z := by
        rintro z hz rfl
        rw [← e] at hz
        rcases hy' with rfl | hy'
        · rcases List.mem_cons.1 hz with e | hz
          · omega
          · have := h.rng k hk _ hz; omega
        · rcases List.mem_cons.1 hz with rfl | hz
          · have := h.rng j hj _ hy'; omega
          · exact hjk (h.dis j k y hj hk hy' hz)
      rw [fb, fa, if_neg hyx, if_neg (hyk _ (ea ▸ hal)), if_neg (hyk _ hbl), if_neg hyx]
      exact ⟨rfl, rfl⟩
  · intro j hj
    rw [em] at hj
    by_cases hjk : j = k
    · subst hjk; rw [upd_at]; grind
    · rw [upd_ne hjk]; exact h.nod j hj
  · intro j hj y hy
    rw [em] at hj
    rcases (mR j y hj).1 hy with h1 | ⟨_, e1⟩
    · exact h.rng j hj y h1
    · rw [e1]; exact hx
  · intro i j y hi hj h1 h2
    rw [em] at hi hj
    rcases (mR i y hi).1 h1 with h3 | ⟨e1, e2⟩ <;> rcases (mR j y hj).1 h2 with h4 | ⟨e3, e4⟩
    · exact h.dis i j y hi hj h3 h4
    · exact absurd (e4 ▸ h3) (hn i hi)
    · exact absurd (e2 ▸ h4) (hn j hj)
    · omega
  · intro y hy hno
    rw [en] at hy
    have hyx : y ≠ x := by rintro rfl; exact hno k hk ((mR k y hk).2 (.inr ⟨rfl, rfl⟩))
    have hyR : ∀ j, j < s.m → y ∉ R j := fun j hj hm => hno j hj ((mR j y hj).2 (.inl hm))
    obtain ⟨o1, o2, o3⟩ := h.out y hy hyR
    have hyk : ∀ z, z ∈ (s.n + k) :: (l1 ++ l2) → y ≠ z := by
      rintro z hz rfl
      rw [← e] at hz
      rcases List.mem_cons.1 hz with e | hz
      · omega
      · exact hyR k hk hz
    have k1 := hyk _ (ea ▸ hal)
    have k2 := hyk _ hbl
    refine ⟨?_, ?_, ?_⟩
    · rw [fa, if_neg k2, if_neg hyx, o1]
    · rw [fb, if_neg hyx, if_neg k1, o2]
    · rw [fg, if_neg hyx, o3]
  · intro j hj
    exact h.lb j hj
  · intro j hj
    rw [fl]
    by_cases hjk : j = k
    · subst hjk
      rw [if_pos rfl, upd_at, h.ls j hj, e]
      simp; omega
    · rw [if_neg hjk, upd_ne hjk]
      exact h.ls j hj
  · intro j hj y hy
    rw [em] at hj
    rw [fg, el]
    rcases (mR j y hj).1 hy with h1 | ⟨e1, e2⟩
    · rw [if_neg (by rintro rfl; exact hn j hj h1)]; exact h.bg j hj y h1
    · rw [if_pos e2, e1]

theorem Inv.leave {s : Sx} {R : Nat → List Nat} (h : Inv s R) {k x : Nat} {l1 l2 : List Nat} (hk : k < s.m) (e : R k = l1 ++ x :: l2) : Inv (s.leave x) (upd R k (l1 ++ l2)) := by
  have hr : Pth s.ah s.bh (s.n + k) (l1 ++ x :: l2 ++ [s.n + k]) := by rw [← e]; exact h.ring k hk
  have nd : ((s.n + k) :: (l1 ++ x :: l2)).Nodup := by rw [← e]; exact h.heads hk
  have hxk : x ∈ R k := by rw [e]; simp
  have hxn := h.rng k hk x hxk
  obtain ⟨ea, eb⟩ := Ring.at (s := s) (k := k) (by rw [← e]; exact h.ring k hk)
  have eo : s.ow (s.bg x) = k := by rw [h.bg k hk x hxk]; exact (h.lb k hk).2.2
  have hal : lst (s.n + k) l1 ∈ (s.n + k) :: R k := by rw [e]; have := lst_mem (s.n + k) l1; grind
  have hbl : l2.headD (s.n + k) ∈ (s.n + k) :: R k := by rw [e]; have := headD_mem l2 (s.n + k); grind
  have fb : ∀ j, (s.leave x).bh j = if j = x then 0 else if j = lst (s.n + k) l1 then l2.headD (s.n + k) else s.bh j := by
    intro j
    simp only [Sx.leave, Sx.size, Sx.join, Sx.put, upd, ea, eb]
  have fa : ∀ j, (s.leave x).ah j = if j = x then 0 else if j = l2.headD (s.n + k) then lst (s.n + k) l1 else s.ah j := by
    intro j
    simp only [Sx.leave, Sx.size, Sx.join, Sx.put, upd, ea, eb]
  have fg : ∀ j, (s.leave x).bg j = if j = x then 0 else s.bg j := fun j => rfl
  have fl : ∀ j, (s.leave x).ls j = if j = k then s.ls k - 1 else s.ls j := by
    intro j
    simp only [Sx.leave, Sx.size, Sx.join, Sx.put, upd, eo]
  have en : (s.leave x).n = s.n := rfl
  have em : (s.leave x).m = s.m := rfl
  have el : (s.leave x).lb = s.lb := rfl
  have nk := h.nod k hk
  have mR : ∀ j y, j < s.m → (y ∈ upd R k (l1 ++ l2) j ↔ y ∈ R j ∧ y ≠ x) := by
    intro j y hj
    by_cases hjk : j = k
    · subst hjk; rw [upd_at, e]; rw [e] at nk; grind
    · rw [upd_ne hjk]
      refine ⟨fun hy => ⟨hy, ?_⟩, fun hy => hy.1⟩
      rintro rfl
      exact hjk (h.dis j k y hj hk hy hxk)
  refine ⟨⟨?_, ?_, ?_, ?_, ?_, ?_, ?_⟩, ?_⟩
  · intro j hj
    rw [em] at hj
    unfold Ring
    rw [en]
    by_cases hjk : j = k
    · subst hjk
      rw [upd_at]
      exact pth_remove hr nd fb fa
    · rw [upd_ne hjk]
      refine pth_keep (h.ring j hj) fun y hy => ?_
      have hy' : y = s.n + j ∨ y ∈ R j := by grind
      have hyk : ∀ z, z ∈ (s.n + k) :: R k → y ≠ z := by
        rintro z hz rfl
        rcases hy' with rfl | hy'
        · rcases List.mem_cons.1 hz with e | hz
          · omega
          · have := h.rng k hk _ hz; omega
        · rcases List.mem_cons.1 hz with rfl | hz
          · have := h.rng j hj _ hy'; omega
          · exact hjk (h.dis j k y hj hk hy' hz)
      rw [fb, fa, if_neg (hyk x (by simp [hxk])), if_neg (hyk _ hal), if_neg (hyk x (by simp [hxk])), if_neg (hyk _ hbl)]
      exact ⟨rfl, rfl⟩
  · intro j hj
    rw [em] at hj
    by_cases hjk : j = k
    · subst hjk; rw [upd_at]; rw [e] at nk; grind
    · rw [upd_ne hjk]; exact h.nod j hj
  · intro j hj y hy
    exact h.rng j hj y ((mR j y hj).1 hy).1
  · intro i j y hi hj h1 h2
    exact h.dis i j y hi hj ((mR i y hi).1 h1).1 ((mR j y hj).1 h2).1
  · intro y hy hno
    by_cases hyx : y = x
    · rw [fb, fa, fg, if_pos hyx, if_pos hyx, if_pos hyx]; exact ⟨rfl, rfl, rfl⟩
    · have hyR : ∀ j, j < s.m → y ∉ R j := fun j hj hm => hno j hj ((mR j y hj).2 ⟨hm, hyx⟩)
      obtain ⟨o1, o2, o3⟩ := h.out y hy hyR
      have hyk : ∀ z, z ∈ (s.n + k) :: R k → y ≠ z := by
        rintro z hz rfl
        rcases List.mem_cons.1 hz with e | hz
        · rw [en] at hy; omega
        · exact hyR k hk hz
      refine ⟨?_, ?_, ?_⟩
      · rw [fa, if_neg hyx, if_neg (hyk _ hbl), o1]
      · rw [fb, if_neg hyx, if_neg (hyk _ hal), o2]
      · rw [fg, if_neg hyx, o3]
  · intro j hj
    exact h.lb j hj
  · intro j hj
    rw [fl]
    by_cases hjk : j = k
    · subst hjk
      rw [if_pos rfl, upd_at, h.ls j hj, e]
      simp
    · rw [if_neg hjk, upd_ne hjk]
      exact h.ls j hj
  · intro j hj y hy
    obtain ⟨h1, h2⟩ := (mR j y hj).1 hy
    rw [fg, el, if_neg h2]
    exact h.bg j hj y h1

/-- what is left of a row without one that it has -/
theorem filter_split {l1 l2 : List Nat} {x : Nat} (h : (l1 ++ x :: l2).Nodup) : (l1 ++ x :: l2).filter (fun y => !decide (y = x)) = l1 ++ l2 := by
  have h1 : l1.filter (fun y => !decide (y = x)) = l1 := List.filter_eq_self.2 (by grind)
  have h2 : l2.filter (fun y => !decide (y = x)) = l2 := List.filter_eq_self.2 (by grind)
  rw [List.filter_append, h1, List.filter_cons_of_neg (by simp), h2]

def Sx.share (s : Sx) (R : Nat → List Nat) (t f : Nat) : Sx := if s.ls t < s.ls f then (s.swap t f).badges (R t) (s.lb f) else s.badges (R f) (s.lb t)

theorem Inv.share {s : Sx} {R : Nat → List Nat} (h : Inv s R) {t f : Nat} (ht : t < s.m) (hf : f < s.m) (hne : t ≠ f) :
    Inv0 (s.share R t f) R ∧ (∀ k, k < s.m → k ≠ f → ∀ x, x ∈ R k → (s.share R t f).bg x = (s.share R t f).lb k) ∧ (∀ x, x ∈ R f → (s.share R t f).bg x = (s.share R t f).lb t) := by
  unfold Sx.share
  split
  · have lt := h.lb t ht
    have lf := h.lb f hf
    have htf : s.lb t ≠ s.lb f := by intro e; rw [e] at lt; omega
    have el : ∀ j, ((s.swap t f).badges (R t) (s.lb f)).lb j = if j = f then s.lb t else if j = t then s.lb f else s.lb j := fun j => rfl
    have eo : ∀ j, ((s.swap t f).badges (R t) (s.lb f)).ow j = if j = s.lb t then f else if j = s.lb f then t else s.ow j := fun j => rfl
    have eg : ∀ j, ((s.swap t f).badges (R t) (s.lb f)).bg j = if j ∈ R t then s.lb f else s.bg j := fun j => rfl
    refine ⟨⟨h.ring, h.nod, h.rng, h.dis, ?_, ?_, h.ls⟩, ?_, ?_⟩
    · intro x hx hno
      rw [eg, if_neg (hno t ht)]
      exact h.out x hx hno
    · intro k hk
      have lk := h.lb k hk
      rw [el]
      by_cases h1 : k = f
      · subst h1
        rw [if_pos rfl, eo, if_pos rfl]
        exact ⟨lt.1, lt.2.1, rfl⟩
      · rw [if_neg h1]
        by_cases h2 : k = t
        · subst h2
          rw [if_pos rfl, eo, if_neg (Ne.symm htf), if_pos rfl]
          exact ⟨lf.1, lf.2.1, rfl⟩
        · rw [if_neg h2, eo, if_neg (by intro e; rw [e] at lk; omega), if_neg (by intro e; rw [e] at lk; omega)]
          exact lk
    · intro k hk hkf x hx
      rw [eg, el, if_neg hkf]
      by_cases h2 : k = t
      · subst h2; rw [if_pos rfl, if_pos hx]
      · rw [if_neg h2, if_neg (fun hm => h2 (h.dis k t x hk ht hx hm))]; exact h.bg k hk x hx
    · intro x hx
      rw [eg, el, if_neg hne, if_pos rfl, if_neg (fun hm => hne (h.dis t f x ht hf hm hx))]
      exact h.bg f hf x hx
  · have eg : ∀ j, (s.badges (R f) (s.lb t)).bg j = if j ∈ R f then s.lb t else s.bg j := fun j => rfl
    refine ⟨⟨h.ring, h.nod, h.rng, h.dis, ?_, h.lb, h.ls⟩, ?_, ?_⟩
    · intro x hx hno
      rw [eg, if_neg (hno f hf)]
      exact h.out x hx hno
    · intro k hk hkf x hx
      rw [eg, if_neg (fun hm => hkf (h.dis k f x hk hf hx hm))]
      exact h.bg k hk x hx
    · intro x hx
      rw [eg, if_pos hx]
      rfl

theorem Inv0.splice {s : Sx} {R : Nat → List Nat} (h : Inv0 s R) {t f : Nat} (ht : t < s.m) (hf : f < s.m) (hne : t ≠ f) (hl : R f ≠ []) (hb1 : ∀ k, k < s.m → k ≠ f → ∀ x, x ∈ R k → s.bg x = s.lb k) (hb2 : ∀ x, x ∈ R f → s.bg x = s.lb t) :
    Inv (s.splice t f) (upd (upd R t (R t ++ R f)) f []) := by
  obtain ⟨x, rf, e⟩ : ∃ x rf, R f = x :: rf := by
    cases hh : R f with
    | nil => exact absurd hh hl
    | cons x rf => exact ⟨x, rf, rfl⟩
  have hrt := h.ring t ht
  have hrf := h.ring f hf
  have e1 := hrt.last
  have e2 := hrf.first
  have e3 := hrf.last
  rw [e] at e2 e3
  have e3' : s.ah (s.n + f) = lst x rf := e3
  have e2' : s.bh (s.n + f) = x := e2
  have nt := h.nod t ht
  have nf := h.nod f hf
  have dtf := fun y => h.dis t f y ht hf
  have rt := h.rng t ht
  have rgf := h.rng f hf
  have nd : ((s.n + t) :: (s.n + f) :: (R t ++ x :: rf)).Nodup := by
    rw [e] at nf dtf rgf
    have a1 : s.n + t ∉ R t := fun hm => by have := rt _ hm; omega
    have a2 : s.n + f ∉ R t := fun hm => by have := rt _ hm; omega
    have a3 : s.n + t ∉ x :: rf := fun hm => by have := rgf _ hm; omega
    have a4 : s.n + f ∉ x :: rf := fun hm => by have := rgf _ hm; omega
    have a5 : ∀ y, y ∈ R t → y ∉ x :: rf := fun y h1 h2 => hne (dtf y h1 h2)
    clear dtf rgf rt e e1 e2 e3 e2' e3' hrt hrf hb1 hb2 h
    refine List.nodup_cons.2 ⟨?_, List.nodup_cons.2 ⟨?_, List.nodup_append.2 ⟨nt, nf, fun y hy z hz e => a5 y hy (e ▸ hz)⟩⟩⟩
    · intro hm
      rcases List.mem_cons.1 hm with e | hm
      · omega
      · rcases List.mem_append.1 hm with hm | hm
        · exact a1 hm
        · exact a3 hm
    · intro hm
      rcases List.mem_append.1 hm with hm | hm
      · exact a2 hm
      · exact a4 hm
  have fb : ∀ j, (s.splice t f).bh j = if j = s.n + f then s.n + f else if j = lst x rf then s.n + t else if j = lst (s.n + t) (R t) then x else s.bh j := by
    intro j
    simp only [Sx.splice, Sx.empty, Sx.size, Sx.join, upd, e1, e2', e3']
  have fa : ∀ j, (s.splice t f).ah j = if j = s.n + f then s.n + f else if j = s.n + t then lst x rf else if j = x then lst (s.n + t) (R t) else s.ah j := by
    intro j
    simp only [Sx.splice, Sx.empty, Sx.size, Sx.join, upd, e1, e2', e3']
  have fl : ∀ j, (s.splice t f).ls j = if j = f then 0 else if j = t then s.ls t + s.ls f else s.ls j := fun j => rfl
  have hm1 : lst x rf ∈ R f := by rw [e]; exact lst_mem x rf
  have hm2 : lst (s.n + t) (R t) ∈ (s.n + t) :: R t := lst_mem _ _
  have hm3 : x ∈ R f := by rw [e]; simp
  obtain ⟨p1, p2⟩ := pth_splice hrt (by rw [← e]; exact hrf) nd fb fa
  have mR : ∀ j y, j < s.m → (y ∈ upd (upd R t (R t ++ R f)) f [] j ↔ j ≠ f ∧ (y ∈ R j ∨ (j = t ∧ y ∈ R f))) := by
    intro j y hj
    by_cases h1 : j = f
    · subst h1; rw [upd_at]; simp
    · rw [upd_ne h1]
      by_cases h2 : j = t
      · subst h2; rw [upd_at]; simp [h1]
      · rw [upd_ne h2]; simp [h1, h2]
  refine ⟨⟨?_, ?_, ?_, ?_, ?_, ?_, ?_⟩, ?_⟩
  · intro j hj
    by_cases h1 : j = f
    · subst h1; rw [upd_at]; exact p2
    · rw [upd_ne h1]
      by_cases h2 : j = t
      · subst h2; rw [upd_at, e]; exact p1
      · rw [upd_ne h2]
        refine pth_keep (h.ring j hj) fun y hy => ?_
        have hy2 : y ∈ (s.n + j) :: (R j ++ [s.n + j]) := hy
        have hy' : y = s.n + j ∨ y ∈ R j := by clear mR p1 p2 nd fb fa fl hb1 hb2 dtf; grind
        have c1 : y ≠ s.n + f := by
          rintro rfl
          rcases hy' with e | hy'
          · omega
          · have := h.rng j hj _ hy'; omega
        have c2 : y ≠ s.n + t := by
          rintro rfl
          rcases hy' with e | hy'
          · omega
          · have := h.rng j hj _ hy'; omega
        have c3 : y ∉ R f := by
          intro hm
          rcases hy' with rfl | hy'
          · have := rgf _ hm; omega
          · exact h1 (h.dis j f y hj hf hy' hm)
        have c4 : y ∉ R t := by
          intro hm
          rcases hy' with rfl | hy'
          · have := rt _ hm; omega
          · exact h2 (h.dis j t y hj ht hy' hm)
        have d1 : y ≠ lst x rf := by rintro rfl; exact c3 hm1
        have d2 : y ≠ x := by rintro rfl; exact c3 hm3
        have d3 : y ≠ lst (s.n + t) (R t) := by
          rintro rfl
          rcases List.mem_cons.1 hm2 with e | hm
          · exact c2 e
          · exact c4 hm
        rw [fb, fa, if_neg c1, if_neg d1, if_neg d3, if_neg c1, if_neg c2, if_neg d2]
        exact ⟨rfl, rfl⟩
  · intro j hj
    by_cases h1 : j = f
    · subst h1; rw [upd_at]; simp
    · rw [upd_ne h1]
      by_cases h2 : j = t
      · subst h2; rw [upd_at, e]; grind
      · rw [upd_ne h2]; exact h.nod j hj
  · intro j hj y hy
    rcases ((mR j y hj).1 hy).2 with h1 | ⟨_, h1⟩
    · exact h.rng j hj y h1
    · exact h.rng f hf y h1
  · intro i j y hi hj h1 h2
    obtain ⟨i1, i2⟩ := (mR i y hi).1 h1
    obtain ⟨j1, j2⟩ := (mR j y hj).1 h2
    rcases i2 with i2 | ⟨i2, i3⟩ <;> rcases j2 with j2 | ⟨j2, j3⟩
    · exact h.dis i j y hi hj i2 j2
    · exact absurd (h.dis i f y hi hf i2 j3) i1
    · exact absurd (h.dis j f y hj hf j2 i3) j1
    · omega
  · intro y hy hno
    have hyR : ∀ j, j < s.m → y ∉ R j := fun j hj hm => by
      by_cases h1 : j = f
      · subst h1; exact hno t ht ((mR t y ht).2 ⟨hne, .inr ⟨rfl, hm⟩⟩)
      · exact hno j hj ((mR j y hj).2 ⟨h1, .inl hm⟩)
    obtain ⟨o1, o2, o3⟩ := h.out y hy hyR
    have hy' : y < s.n := hy
    have c3 := hyR f hf
    have c4 := hyR t ht
    have d1 : y ≠ lst x rf := by rintro rfl; exact c3 hm1
    have d2 : y ≠ x := by rintro rfl; exact c3 hm3
    have d3 : y ≠ lst (s.n + t) (R t) := by
      rintro rfl
      rcases List.mem_cons.1 hm2 with e | hm
      · omega
      · exact c4 hm
    refine ⟨?_, ?_, o3⟩
    · rw [fa, if_neg (by omega), if_neg (by omega), if_neg d2, o1]
    · rw [fb, if_neg (by omega), if_neg d1, if_neg d3, o2]
  · intro j hj
    exact h.lb j hj
  · intro j hj
    rw [fl]
    by_cases h1 : j = f
    · subst h1; rw [if_pos rfl, upd_at]; rfl
    · rw [if_neg h1, upd_ne h1]
      by_cases h2 : j = t
      · subst h2; rw [if_pos rfl, upd_at, h.ls j ht, h.ls f hf]; simp
      · rw [if_neg h2, upd_ne h2]; exact h.ls j hj
  · intro j hj y hy
    obtain ⟨j1, j2⟩ := (mR j y hj).1 hy
    rcases j2 with j2 | ⟨j2, j3⟩
    · exact hb1 j hj j1 y j2
    · rw [j2]; exact hb2 y j3

/-- k lists are made -/
def newS (n m k : Nat) : Sx where
  n := n
  m := m
  ah j := if n ≤ j ∧ j < n + k then j else 0
  bh j := if n ≤ j ∧ j < n + k then j else 0
  bg _ := 0
  lb j := if j < k then j + 1 else 0
  ls _ := 0
  ow b := if 1 ≤ b ∧ b ≤ k then b - 1 else 0
theorem newS_step (n m k : Nat) : ((newS n m k).empty k).wear k (k + 1) = newS n m (k + 1) := by
  have e1 : upd (newS n m k).ah (n + k) (n + k) = (newS n m (k + 1)).ah := funext fun j => by simp only [upd, newS]; grind
  have e2 : upd (newS n m k).lb k (k + 1) = (newS n m (k + 1)).lb := funext fun j => by simp only [upd, newS]; grind
  have e3 : upd (newS n m k).ow (k + 1) k = (newS n m (k + 1)).ow := funext fun j => by simp only [upd, newS]; grind
  have e4 : upd (newS n m k).ls k 0 = (newS n m (k + 1)).ls := funext fun j => by simp [upd, newS]
  have e5 : upd (newS n m k).bh (n + k) (n + k) = (newS n m (k + 1)).bh := funext fun j => by simp only [upd, newS]; grind
  show ({ n := n, m := m, ah := upd (newS n m k).ah (n + k) (n + k), bh := upd (newS n m k).bh (n + k) (n + k), bg := (newS n m k).bg, lb := upd (newS n m k).lb k (k + 1), ls := upd (newS n m k).ls k 0, ow := upd (newS n m k).ow (k + 1) k } : Sx) = _
  rw [e1, e2, e3, e4, e5]
  rfl
theorem newS_inv (n m : Nat) : Inv (newS n m m) (fun _ => []) := by
  refine ⟨⟨?_, ?_, ?_, ?_, ?_, ?_, ?_⟩, ?_⟩
  · intro k hk
    have hk' : k < m := hk
    refine ⟨?_, ?_, trivial⟩ <;> simp [newS] <;> omega
  · simp
  · simp
  · simp
  · intro x hx _
    have hx' : x < n := hx
    simp only [newS]
    refine ⟨?_, ?_, trivial⟩ <;> rw [if_neg (by omega)]
  · intro k hk
    have hk' : k < m := hk
    simp only [newS, if_pos hk']
    refine ⟨by omega, by omega, ?_⟩
    rw [if_pos (by omega)]; omega
  · intro k _; rfl
  · simp

end Go.Proofs.Ytiaacjollcccaaa
