/- Two entries of a row change their places. -/
import Derived.Test.YtafcgbahdfaiiaaELeaf
namespace Go.Proofs.Ytafcgbahdfaiiaa
open Go.RowKit Go.Sort
set_option maxRecDepth 100000

/-- the world behind it -/
abbrev swW (w : World) (b i j bi bj : Nat) : World := ((((w.setCell ⟨b, i, none⟩ (ptr bj)).setCell ⟨b, j, none⟩ (ptr bi)).drew.setCell ⟨bj, 3, none⟩ (.int .i64 (i : Int))).setCell ⟨bi, 3, none⟩ (.int .i64 (j : Int))).drew
set_option maxHeartbeats 1000000 in
theorem eswap_ne (r b bi bj n cap i j : Nat) (hi : i < n) (hj : j < n) (w : World) (z1 z2 : Value)
    (h1 : w.cell? ⟨r, 1, none⟩ = some (.slice (some ⟨b, 0, none⟩) n cap)) (p1 : w.cell? ⟨b, i, none⟩ = some (ptr bi)) (p2 : w.cell? ⟨b, j, none⟩ = some (ptr bj)) (f1 : ∀ k, w.frozen? ⟨b, k, none⟩ = false)
    (hrb : r ≠ b) (hij : i ≠ j) (c1 : Calls Try.prog 51 #[ptr r, .int .i64 (i : Int)] w fun e w' => e = .returned (.bool true) ∧ w' = w) (c2 : Calls Try.prog 51 #[ptr r, .int .i64 (j : Int)] w fun e w' => e = .returned (.bool true) ∧ w' = w)
    (q1 : w.cell? ⟨bi, 3, none⟩ = some z1) (q2 : w.cell? ⟨bj, 3, none⟩ = some z2) (g1 : w.frozen? ⟨bi, 3, none⟩ = false) (g2 : w.frozen? ⟨bj, 3, none⟩ = false) (n1 : bi ≠ b) (n2 : bj ≠ b) (n3 : bi ≠ bj) :
    Calls Try.prog 49 #[ptr r, .int .i64 (i : Int), .int .i64 (j : Int)] w fun e w' => e = .returned (.tuple #[]) ∧ w' = swW w b i j bi bj := by
  go_enter Try.func49, Try.ntmps49
  go_wp2_with fail
  refine c1.mono ?_
  rintro e w' ⟨rfl, hw'⟩
  subst hw'
  go_wp2_with fail
  refine c2.mono ?_
  rintro e w' ⟨rfl, hw'⟩
  subst hw'
  clear c1 c2
  go_wp2_with fail
  go_region
  obtain ⟨w2, hw2⟩ : ∃ w2, ((w'.setCell ⟨b, i, none⟩ (ptr bj)).setCell ⟨b, j, none⟩ (ptr bi)).drew = w2 := ⟨_, rfl⟩
  have k1 : w2.cell? ⟨r, 1, none⟩ = some (.slice (some ⟨b, 0, none⟩) n cap) := by rw [← hw2]; exact ((cell_set_ne (.inl hrb)).trans (cell_set_ne (.inl hrb))).trans h1
  have k2 : w2.cell? ⟨b, i, none⟩ = some (ptr bj) := by rw [← hw2]; exact (cell_set_ne (.inr hij)).trans (cell_set_eq p1)
  have k3 : w2.cell? ⟨b, j, none⟩ = some (ptr bi) := by rw [← hw2]; exact cell_set_eq ((cell_set_ne (.inr hij.symm)).trans p2)
  have k4 : w2.cell? ⟨bi, 3, none⟩ = some z1 := by rw [← hw2]; exact ((cell_set_ne (.inl n1)).trans (cell_set_ne (.inl n1))).trans q1
  have k5 : w2.cell? ⟨bj, 3, none⟩ = some z2 := by rw [← hw2]; exact ((cell_set_ne (.inl n2)).trans (cell_set_ne (.inl n2))).trans q2
  have k6 : w2.frozen? ⟨bi, 3, none⟩ = false := by rw [← hw2]; exact (fz_set.trans fz_set).trans g1
  have k7 : w2.frozen? ⟨bj, 3, none⟩ = false := by rw [← hw2]; exact (fz_set.trans fz_set).trans g2
  have HW : Hid (w2 = ((w'.setCell ⟨b, i, none⟩ (ptr bj)).setCell ⟨b, j, none⟩ (ptr bi)).drew) := hw2.symm
  rw [hw2]
  clear hw2 h1 p1 p2 f1 q1 q2 g1 g2
  go_wp2_with fail
  go_region
  go_wp2_with fail
  refine bodyPost_end (results_none rfl _ _ _) rfl ?_
  refine ⟨rfl, ?_⟩
  rw [HW.out]
set_option maxHeartbeats 1000000 in
theorem eswap_eq (r b bi n cap i : Nat) (hi : i < n) (w : World) (z1 : Value)
    (h1 : w.cell? ⟨r, 1, none⟩ = some (.slice (some ⟨b, 0, none⟩) n cap)) (p1 : w.cell? ⟨b, i, none⟩ = some (ptr bi)) (f1 : ∀ k, w.frozen? ⟨b, k, none⟩ = false)
    (hrb : r ≠ b) (c1 : Calls Try.prog 51 #[ptr r, .int .i64 (i : Int)] w fun e w' => e = .returned (.bool true) ∧ w' = w)
    (q1 : w.cell? ⟨bi, 3, none⟩ = some z1) (g1 : w.frozen? ⟨bi, 3, none⟩ = false) (n1 : bi ≠ b) :
    Calls Try.prog 49 #[ptr r, .int .i64 (i : Int), .int .i64 (i : Int)] w fun e w' => e = .returned (.tuple #[]) ∧ w' = swW w b i i bi bi := by
  go_enter Try.func49, Try.ntmps49
  go_wp2_with fail
  refine c1.mono ?_
  rintro e w' ⟨rfl, hw'⟩
  subst hw'
  go_wp2_with fail
  refine c1.mono ?_
  rintro e w' ⟨rfl, hw'⟩
  subst hw'
  clear c1
  go_wp2_with fail
  go_region
  obtain ⟨w2, hw2⟩ : ∃ w2, ((w'.setCell ⟨b, i, none⟩ (ptr bi)).setCell ⟨b, i, none⟩ (ptr bi)).drew = w2 := ⟨_, rfl⟩
  have k1 : w2.cell? ⟨r, 1, none⟩ = some (.slice (some ⟨b, 0, none⟩) n cap) := by rw [← hw2]; exact ((cell_set_ne (.inl hrb)).trans (cell_set_ne (.inl hrb))).trans h1
  have k2 : w2.cell? ⟨b, i, none⟩ = some (ptr bi) := by rw [← hw2]; exact cell_set_eq (cell_set_eq p1)
  have k4 : w2.cell? ⟨bi, 3, none⟩ = some z1 := by rw [← hw2]; exact ((cell_set_ne (.inl n1)).trans (cell_set_ne (.inl n1))).trans q1
  have k6 : w2.frozen? ⟨bi, 3, none⟩ = false := by rw [← hw2]; exact (fz_set.trans fz_set).trans g1
  have HW : Hid (w2 = ((w'.setCell ⟨b, i, none⟩ (ptr bi)).setCell ⟨b, i, none⟩ (ptr bi)).drew) := hw2.symm
  rw [hw2]
  clear hw2 h1 p1 f1 q1 g1
  go_wp2_with fail
  go_region
  go_wp2_with fail
  refine bodyPost_end (results_none rfl _ _ _) rfl ?_
  refine ⟨rfl, ?_⟩
  rw [HW.out]

/-- what a row's world becomes: a row A' in the place of A -/
def Goes (w : World) (o : Ro) (A : Ar) (w' : World) (o' : Ro) (A' : Ar) : Prop := o'.r = o.r ∧ o'.bm = o.bm ∧ o'.lv = o.lv ∧ Rx w' o' A' ∧ But (o.has A) w w' ∧ ∀ b, o'.has A' b → o.has A b ∨ w.heap.size ≤ b
theorem own_set {w : World} {g n cap : Nat} {e : TypeId} {xs : List Value} (h : w.ownsRow 0 e 1 (.slice (some ⟨g, 0, none⟩) n cap) n xs) (i : Nat) (v : Value) : (w.setCell ⟨g, i, none⟩ v).ownsRow 0 e 1 (.slice (some ⟨g, 0, none⟩) n cap) n (xs.set i v) := by
  refine ⟨by rw [List.length_set]; exact h.1, ?_⟩
  rcases h.2 with ⟨h1, _⟩ | ⟨g', cap', cur, h1, h2, hg, h3, h4, h5, h6⟩
  · cases h1
  · injection h1 with h1 _ hcap
    injection h1 with h1
    injection h1 with h1
    subst h1 hcap
    refine .inr ⟨g, cap, cur.setIfInBounds i v, rfl, h2, ?_, h3, h4, by simpa using h5, ?_⟩
    · rw [setCell_eq_setRow w g i cur e (0, 0) v hg]
      exact setRow_heap w g cur _ e _ hg
    · rw [Array.toList_setIfInBounds, List.take_set, h6]
theorem own_setO {w : World} {base : Nat} {e : TypeId} {size : Nat} {v : Value} {n : Nat} {xs : List Value} (h : w.ownsRow base e size v n xs) {b i : Nat} (hb : v.ownBlock ≠ some b) (u : Value) : (w.setCell ⟨b, i, none⟩ u).ownsRow base e size v n xs :=
  eown_block h fun b' e => Below.heap_setCell _ _ _ _ (by rintro rfl; exact hb e)
theorem pts_swap {A : Ar} {g : Nat → Nat} {i j : Nat} (hi : i < A.n) (hj : j < A.n) : ((pts A g).set i (ptr (g (A.f j).n))).set j (ptr (g (A.f i).n)) = pts (A.swap i j) g := by
  apply List.ext_getElem?
  intro k
  by_cases hk : k < A.n
  · rw [pts_at (A := A.swap i j) hk]
    show _ = some (ptr (g (swp A.f i j k).n))
    rw [List.getElem?_set, List.getElem?_set]
    simp only [List.length_set, pts_len]
    by_cases e2 : j = k
    · subst e2
      rw [if_pos rfl, if_pos hj, swp_r]
    · rw [if_neg e2]
      by_cases e1 : i = k
      · subst e1
        rw [if_pos rfl, if_pos hi, swp_l]
      · rw [if_neg e1, swp_o (Ne.symm e1) (Ne.symm e2), pts_at hk]
  · rw [List.getElem?_eq_none (by simp [pts_len]; omega), List.getElem?_eq_none (by rw [pts_len]; exact Nat.le_of_not_lt hk)]
theorem eswap_rx {w : World} {o : Ro} {A : Ar} (x : Rx w o A) {g cap i j : Nat} (hv : o.ev = .slice (some ⟨g, 0, none⟩) A.n cap) (hi : i < A.n) (hj : j < A.n) : Rx (swW w g i j (o.bl (A.f i).n) (o.bl (A.f j).n)) o (A.swap i j) := by
  obtain ⟨n1, n2, n3, n4, n5⟩ := x.ne
  have hg : o.ev.ownBlock = some g := by rw [hv]; rfl
  have ngr : g ≠ o.r := by rintro rfl; exact n2 hg
  have ngm : g ≠ o.bm := by rintro rfl; exact n3 hg
  have neg : ∀ k, k < A.n → o.bl (A.f k).n ≠ g := fun k hk e => (n4 k hk).2.2 (by rw [hg, e])
  refine ⟨?_, ?_, ?_, ?_, ?_, x.ml, x.ok.swap hi hj⟩
  · have h := ((x.rb.setO ngr.symm (ptr (o.bl (A.f j).n)) (i := i)).setO ngr.symm (ptr (o.bl (A.f i).n)) (i := j)).drew
    exact ((h.setO (i := 3) (n4 j hj).1.symm (.int .i64 (i : Int))).setO (i := 3) (n4 i hi).1.symm (.int .i64 (j : Int))).drew
  · show World.ownsRow _ 0 _ 1 o.ev A.n (pts (A.swap i j) o.bl)
    rw [← pts_swap hi hj]
    have h := x.ow
    rw [hv] at h ⊢
    have h2 := own_set (own_set h i (ptr (o.bl (A.f j).n))) j (ptr (o.bl (A.f i).n))
    have h3 := eown_block (w' := ((w.setCell ⟨g, i, none⟩ (ptr (o.bl (A.f j).n))).setCell ⟨g, j, none⟩ (ptr (o.bl (A.f i).n))).drew) h2 fun _ _ => rfl
    have h4 := own_setO (i := 3) h3 (b := o.bl (A.f j).n) (by show some g ≠ some _; intro e; injection e with e; exact neg j hj e.symm) (.int .i64 (i : Int))
    have h5 := own_setO (i := 3) h4 (b := o.bl (A.f i).n) (by show some g ≠ some _; intro e; injection e with e; exact neg i hi e.symm) (.int .i64 (j : Int))
    exact eown_block h5 fun _ _ => rfl
  · intro k hk
    have hk' : k < A.n := hk
    show Blk _ (o.bl (swp A.f i j k).n) _ (enC (swp A.f i j k) k)
    by_cases e2 : k = j
    · subst e2
      rw [swp_r]
      have h := ((x.en i hi).setO (neg i hi) (ptr (o.bl (A.f k).n)) (i := i)).setO (neg i hi) (ptr (o.bl (A.f i).n)) (i := k)
      by_cases e : i = k
      · subst e
        have h2 := h.drew.set 3 (.int .i64 (i : Int))
        rw [enC_set] at h2
        have h3 := h2.set 3 (.int .i64 (i : Int))
        rw [enC_set] at h3
        exact h3.drew
      · have h2 := (h.drew.setO (b' := o.bl (A.f k).n) (i := 3) (fun h' => e (n5 i k hi hj h')) (.int .i64 (i : Int))).set 3 (.int .i64 (k : Int))
        rw [enC_set] at h2
        exact h2.drew
    · by_cases e1 : k = i
      · subst e1
        rw [swp_l]
        have h := ((x.en j hj).setO (neg j hj) (ptr (o.bl (A.f j).n)) (i := k)).setO (neg j hj) (ptr (o.bl (A.f k).n)) (i := j)
        have h2 := h.drew.set 3 (.int .i64 (k : Int))
        rw [enC_set] at h2
        exact (h2.setO (i := 3) (b' := o.bl (A.f k).n) (fun h' => e2 (n5 j k hj hk' h').symm) (.int .i64 (j : Int))).drew
      · rw [swp_o e1 e2]
        have h := ((x.en k hk').setO (neg k hk') (ptr (o.bl (A.f j).n)) (i := i)).setO (neg k hk') (ptr (o.bl (A.f i).n)) (i := j)
        exact ((h.drew.setO (b' := o.bl (A.f j).n) (i := 3) (fun h' => e2 (n5 k j hk' hj h')) (.int .i64 (i : Int))).setO (i := 3) (b' := o.bl (A.f i).n) (fun h' => e1 (n5 k i hk' hi h')) (.int .i64 (j : Int))).drew
  · refine x.mp.same ?_
    exact ((Below.heap_setCell _ _ _ _ (n4 i hi).2.1.symm).trans (Below.heap_setCell _ _ _ _ (n4 j hj).2.1.symm)).trans ((Below.heap_setCell _ _ _ _ ngm.symm).trans (Below.heap_setCell _ _ _ _ ngm.symm))
  · intro y
    rw [x.ms y]
    constructor
    · rintro ⟨k, hk, e⟩
      obtain ⟨k', hk', e'⟩ := (Ar.swap_has hi hj (A.f k)).2 ⟨k, hk, rfl⟩
      exact ⟨k', hk', by rw [e', e]⟩
    · rintro ⟨k, hk, e⟩
      obtain ⟨k', hk', e'⟩ := (Ar.swap_has hi hj _).1 ⟨k, hk, rfl⟩
      exact ⟨k', hk', by rw [e', e]⟩
theorem swap_hs {o : Ro} {A : Ar} {i j : Nat} (hi : i < A.n) (hj : j < A.n) {b : Nat} (h : o.has (A.swap i j) b) : o.has A b := by
  rcases h with h | h | h | ⟨k, hk, e⟩
  · exact .inl h
  · exact .inr (.inl h)
  · exact .inr (.inr (.inl h))
  · obtain ⟨k', hk', e'⟩ := (Ar.swap_has hi hj _).1 ⟨k, hk, rfl⟩
    exact .inr (.inr (.inr ⟨k', hk', by rw [e', e]⟩))
theorem eswap (o : Ro) (A : Ar) (i j : Nat) (hi : i < A.n) (hj : j < A.n) (w : World) (x : Rx w o A) :
    Calls Try.prog 49 #[ptr o.r, .int .i64 (i : Int), .int .i64 (j : Int)] w fun e w' => e = .returned (.tuple #[]) ∧ Goes w o A w' o (A.swap i j) := by
  obtain ⟨g, cap, hv, _⟩ := x.sl1 (by omega)
  obtain ⟨n1, n2, n3, n4, n5⟩ := x.ne
  have hg : o.ev.ownBlock = some g := by rw [hv]; rfl
  have ngr : o.r ≠ g := by intro e; exact n2 (by rw [hg, e])
  have neg : ∀ k, k < A.n → o.bl (A.f k).n ≠ g := fun k hk e => (n4 k hk).2.2 (by rw [hg, e])
  have h1 := x.rb.cell (i := 1) rfl
  rw [hv] at h1
  have c1 := ehas o A i w x
  have c2 := ehas o A j w x
  rw [show decide ((i : Int) < (A.n : Int)) = true by simpa using hi] at c1
  rw [show decide ((j : Int) < (A.n : Int)) = true by simpa using hj] at c2
  have hf : ∀ k, w.frozen? ⟨g, k, none⟩ = false := fun k => by
    rcases x.ow.2 with ⟨h, _⟩ | ⟨g', cap', cur, h, _, hgg, _⟩
    · rw [hv] at h; cases h
    · rw [hv] at h; injection h with h; injection h with h; injection h with h; subst h; exact frozen_of_row _ _ k _ _ hgg
  have hS : ∀ w', w' = swW w g i j (o.bl (A.f i).n) (o.bl (A.f j).n) → Goes w o A w' o (A.swap i j) := by
    rintro w' rfl
    refine ⟨rfl, rfl, rfl, eswap_rx x hv hi hj, ?_, fun b h => .inl (swap_hs hi hj h)⟩
    exact (((((But.refl _ w).setCell (.inr (.inr (.inl hg))) _).setCell (.inr (.inr (.inl hg))) _).drew.setCell (.inr (.inr (.inr ⟨j, hj, rfl⟩))) _).setCell (.inr (.inr (.inr ⟨i, hi, rfl⟩))) _).drew
  by_cases hij : i = j
  · subst hij
    exact (eswap_eq o.r g _ A.n cap i hi w _ h1 (x.pt hv hi) hf ngr c1 ((x.en i hi).cell (i := 3) rfl) ((x.en i hi).fz 3) (neg i hi)).mono fun _ w' h => ⟨h.1, hS w' h.2⟩
  · exact (eswap_ne o.r g _ _ A.n cap i j hi hj w _ _ h1 (x.pt hv hi) (x.pt hv hj) hf ngr hij c1 c2 ((x.en i hi).cell (i := 3) rfl) ((x.en j hj).cell (i := 3) rfl) ((x.en i hi).fz 3) ((x.en j hj).fz 3) (neg i hi) (neg j hj) (fun e => hij (n5 i j hi hj e))).mono fun _ w' h => ⟨h.1, hS w' h.2⟩
end Go.Proofs.Ytafcgbahdfaiiaa
