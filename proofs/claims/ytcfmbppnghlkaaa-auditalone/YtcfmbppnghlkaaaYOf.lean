/- Of; few; the document's Same. -/
import Derived.Test.YtcfmbppnghlkaaaYAlive
import Derived.Test.YtcfmbppnghlkaaaPOwn
namespace Go.Proofs.Ytcfmbppnghlkaaa
open Go.RowKit Go.Sort Go.Shelf
set_option maxRecDepth 100000

theorem eltR : Elt 61 38 4 32 (recV rec0) := ⟨Try.underlying61, infoRc, rfl, by decide, by decide⟩
set_option maxHeartbeats 1000000 in
theorem yclone (w : World) (v : Value) (l : List Rc) (hl : l.length ≤ 100000) (ho : w.ownsRow 0 38 4 v l.length (encRs l)) : Calls Try.prog 37 #[v] w fun e w' => ∃ u, e = .returned u ∧ w'.ownsRow w.heap.size 38 4 u l.length (encRs l) ∧ Below w.heap.size w w' := by
  have q22 : ∀ (w : World) (a : Option Addr) (n c n' c' : Nat), (binOp .eql 61 (.slice a n c) (.slice none n' c')).run Try.prog w = .ok (.bool a.isNone) w := fun w a n c n' c' => Lib.run_eql_slice_nil w _ _ a n c n' c' Try.underlying61
  rcases ho.2 with ⟨hv, hn⟩ | ⟨g, cap, cur, hv, _⟩
  · have h0 : l = [] := List.length_eq_zero_iff.1 hn
    subst h0 hv
    go_enter Try.func37, Try.ntmps37
    go_wp2_with fail
    go_ret
    exact ⟨_, rfl, World.ownsRow_nil _ _ _ _, Below.refl _ _⟩
  · have hb : Below w.heap.size w (w.alloc (.cells #[] 38)) := (Below.refl _ w).alloc (Nat.le_refl _) _
    have hsrc : Src (w.alloc (.cells #[] 38)) v l.length (encRs l) := gsrc_own (eown_block ho fun b h => hb.block b (ho.lt b h).2)
    obtain ⟨u, w2, hrun, hown, hgrow⟩ := pappend eltR 61 w.heap.size (.slice (some ⟨w.heap.size, 0, none⟩) 0 0) v 0 l.length [] (encRs l) (gown_0 w w.heap.size 38 4 (Nat.le_refl _)) hsrc (encRs_len l) (encRs_one1 l) (by omega) (by simp)
    have HE : Hid (w2.ownsRow w.heap.size 38 4 u l.length (encRs l) ∧ Below w.heap.size w w2) := by
      refine ⟨by simpa using hown, hb.grown hgrow (by simp) (fun q e => ?_)⟩
      exact Nat.le_of_eq (Option.some.inj e)
    obtain ⟨ua, uc, rfl, _⟩ := own_at HE.out.1
    subst hv
    clear hown hgrow hsrc hb
    go_enter Try.func37, Try.ntmps37
    go_wp2_with (at_builtin; refine wpList_append_run rfl (.tmp 5) (.tmp 6) 61 rfl _ _ _ rfl rfl hrun ?_)
    go_ret
    exact ⟨_, rfl, HE.out⟩
set_option maxHeartbeats 1000000 in
theorem yOf (w : World) (p : Nat) (o : Yo) (R : List Int) (L : List Rc) (x : Yx w p o R L) (g : Int) (hg : inG R g) : Calls Try.prog 19 #[ptr p, .int .i64 g] w fun e w' => ∃ u, e = .returned u ∧ w'.ownsRow w.heap.size 38 4 u (ownR L g.toNat).length (encRs (ownR L g.toNat)) ∧ Below w.heap.size w w' := by
  have c := ylog w p o R L x g
  rw [logV, if_pos hg] at c
  have hk : g.toNat < R.length := by omega
  have hb := (x.gb _ hk).cell (i := 1) rfl
  have c2 := yclone w (o.v g.toNat) (ownR L g.toNat) (by have := x.ok.len hk; omega) (x.ow _ hk)
  generalize g.toNat = k at *
  clear x hg hk
  go_enter Try.func19, Try.ntmps19
  go_wp2_with fail
  refine c.mono ?_
  rintro e w' ⟨rfl, hw⟩
  subst hw
  go_wp2_with fail
  refine c2.mono ?_
  rintro e w2 ⟨u, rfl, h⟩
  obtain ⟨ua, uc, rfl, _⟩ := own_at h.1
  have HE : Hid (_ ∧ _) := h
  clear c c2 h hb
  go_wp2_with fail
  go_ret
  exact ⟨_, rfl, HE.out⟩
set_option maxHeartbeats 400000 in
theorem yfew (a : Option Addr) (n c : Nat) (hc : n ≤ c) (w : World) : Calls Try.prog 8 #[.slice a n c] w fun e w' => e = .returned (.slice a (min n 18) c) ∧ w' = w := by
  by_cases h : 18 < n
  · rw [Nat.min_eq_right (by omega)]
    have hn : (18 : Int) < (n : Int) := by omega
    have hcc : 18 ≤ c := by omega
    go_enter Try.func8, Try.ntmps8
    go_wp2_with fail
    go_ret
    exact ⟨rfl, rfl⟩
  · rw [Nat.min_eq_left (by omega)]
    have hn : ¬ (18 : Int) < (n : Int) := by omega
    go_enter Try.func8, Try.ntmps8
    go_wp2_with fail
    go_ret
    exact ⟨rfl, rfl⟩
set_option maxHeartbeats 2000000 in
theorem rsame15 (a b : Option Addr) (ca cb : Nat) (l m : List Rc) (w : World) (hl : l.length ≤ 9223372036854775807) (ha : RcAt w a l) (hb : RcAt w b m) : Calls Try.prog 18 #[.slice a l.length ca, .slice b m.length cb] w fun e w' => ∃ t : Bool, e = .returned (.bool t) ∧ (t = true ↔ l = m) ∧ Below w.heap.size w w' := by
  have HA : Hid (RcAt w a l) := ha
  have HB : Hid (RcAt w b m) := hb
  clear ha hb
  by_cases hn : l.length = m.length
  · rw [← hn]
    go_enter Try.func18, Try.ntmps18
    go_wp2_with fail
    go_loopw [5] (fun i wr => ∃ j : Nat, j ≤ l.length ∧ i = .int .i64 j ∧ Hid ((∀ k, k < j → l[k]? = m[k]?) ∧ Below w.heap.size w wr)) (fun i _ => l.length - (intOf i).toNat)
    case atStart => exact ⟨0, Nat.zero_le _, rfl, fun k hk => absurd hk (Nat.not_lt_zero _), Below.refl _ _⟩
    case round =>
      obtain ⟨j, hj, rfl, hM⟩ := hrel
      by_cases hlt : j < l.length
      · obtain ⟨r, hr⟩ : ∃ r, l[j]? = some r := ⟨_, List.getElem?_eq_getElem hlt⟩
        obtain ⟨q, hq⟩ : ∃ q, m[j]? = some q := ⟨_, List.getElem?_eq_getElem (by omega)⟩
        obtain ⟨b1, o1, rfl, k1⟩ := HA.out.below hM.out.2 j r hr
        obtain ⟨b2, o2, rfl, k2⟩ := HB.out.below hM.out.2 j q hq
        have x0 : wr.cell? ⟨b1, o1 + j * 4, none⟩ = some (.int .i64 r.t) := k1 0 _ rfl
        have x1 := k1 1 _ rfl
        have x2 := k1 2 _ rfl
        have x3 := k1 3 _ rfl
        have y0 : wr.cell? ⟨b2, o2 + j * 4, none⟩ = some (.int .i64 q.t) := k2 0 _ rfl
        have y1 := k2 1 _ rfl
        have y2 := k2 2 _ rfl
        have y3 := k2 3 _ rfl
        clear k1 k2
        by_cases h1 : r.t = q.t
        rotate_left
        · have hne : Hid (¬ l = m) := fun e => by rw [e, hq] at hr; injection hr with hr; exact h1 (by rw [hr])
          clear hr hq
          go_wp2_with fail
          go_region
          go_wp2_with fail
          go_ret
          exact ⟨false, rfl, ⟨fun h => (by cases h), fun h => absurd h hne.out⟩, hM.out.2.drew⟩
        by_cases h2 : r.s = q.s
        rotate_left
        · have hne : Hid (¬ l = m) := fun e => by rw [e, hq] at hr; injection hr with hr; exact h2 (by rw [hr])
          clear hr hq
          go_wp2_with fail
          go_region
          go_wp2_with fail
          go_ret
          exact ⟨false, rfl, ⟨fun h => (by cases h), fun h => absurd h hne.out⟩, hM.out.2.drew⟩
        by_cases h3 : r.g = q.g
        rotate_left
        · have hne : Hid (¬ l = m) := fun e => by rw [e, hq] at hr; injection hr with hr; exact h3 (by rw [hr])
          clear hr hq
          go_wp2_with fail
          go_region
          go_wp2_with fail
          go_ret
          exact ⟨false, rfl, ⟨fun h => (by cases h), fun h => absurd h hne.out⟩, hM.out.2.drew⟩
        by_cases h4 : r.p = q.p
        rotate_left
        · have hne : Hid (¬ l = m) := fun e => by rw [e, hq] at hr; injection hr with hr; exact h4 (by rw [hr])
          clear hr hq
          go_wp2_with fail
          go_region
          go_wp2_with fail
          go_ret
          exact ⟨false, rfl, ⟨fun h => (by cases h), fun h => absurd h hne.out⟩, hM.out.2.drew⟩
        have hrq : r = q := by
          obtain ⟨a1, a2, a3, a4⟩ := r
          obtain ⟨b1, b2, b3, b4⟩ := q
          simp only at h1 h2 h3 h4
          rw [h1, h2, h3, h4]
        have HM2 : Hid ((∀ k, k < j + 1 → l[k]? = m[k]?) ∧ Below w.heap.size w wr.drew) := ⟨fun k hk => by
          by_cases e : k = j
          · rw [e, hr, hq, hrq]
          · exact hM.out.1 k (by omega), hM.out.2.drew⟩
        clear hr hq hrq
        go_wp2_with fail
        go_region
        go_wp2_with fail
        go_roundw
        case rel => exact ⟨j + 1, by omega, by go_num, HM2⟩
        case measure => simp [intOf]; omega
      · obtain rfl : j = l.length := by omega
        have he : l = m := by
          apply List.ext_getElem?
          intro k
          by_cases hk : k < l.length
          · exact hM.out.1 k hk
          · rw [List.getElem?_eq_none (by omega), List.getElem?_eq_none (by omega)]
        go_wp2_with fail
        go_ret
        exact ⟨true, rfl, ⟨fun _ => he, fun _ => rfl⟩, hM.out.2⟩
  · have hne : Hid (¬ l = m) := fun e => hn (by rw [e])
    have hn2 : ¬ (l.length : Int) = (m.length : Int) := by omega
    go_enter Try.func18, Try.ntmps18
    go_wp2_with fail
    go_ret
    exact ⟨false, rfl, ⟨fun h => (by cases h), fun h => absurd h hne.out⟩, Below.refl _ _⟩
/-- rooms as they came in -/
def roomsI (n : Nat) (z : Nat → Int) : List Int := (List.range n).map z
theorem roomsI_len (n : Nat) (z : Nat → Int) : (roomsI n z).length = n := by simp [roomsI]
theorem roomsI_at (n : Nat) (z : Nat → Int) {j : Nat} (h : j < n) : atR (roomsI n z) j = z j := by simp [atR, roomsI, List.getD, h]
/-- what New makes, or tells -/
def NewIs (w0 w : World) (R : List Int) (P : Value) (er : Int) : Prop := (er ≠ 0 ∧ P = .pointer none) ∨ (er = 0 ∧ ∃ p o, P = ptr p ∧ Yx w p o R [] ∧ ∀ b, o.has R p b → w0.heap.size ≤ b)
theorem yNewE (w : World) (a : Option Addr) (n cap : Nat) (z : Nat → Int) (hc : Cells w .i64 a n z) : Calls Try.prog 9 #[.slice a n cap] w fun e w' => ∃ (P : Value) (er : Int), e = .returned (.tuple #[P, .int .i64 er]) ∧ NewIs w w' (roomsI n z) P er ∧ Below w.heap.size w w' := by
  by_cases h : 16 < n
  · refine (yNew_many w a n cap h).mono ?_
    rintro e w' ⟨rfl, rfl⟩
    exact ⟨_, 3, rfl, .inl ⟨by decide, rfl⟩, Below.refl _ _⟩
  · have c := yNew w a cap (roomsI n z) (by rw [roomsI_len]; omega) (by rw [roomsI_len]; exact hc.congr fun j hj => (roomsI_at n z hj).symm)
    rw [roomsI_len] at c
    refine c.mono ?_
    rintro e w' ⟨hb, ⟨_, rfl⟩ | ⟨_, p, o, rfl, x, hx⟩⟩
    · exact ⟨_, 1, rfl, .inl ⟨by decide, rfl⟩, hb⟩
    · exact ⟨_, 0, rfl, .inr ⟨rfl, p, o, rfl, x, hx⟩, hb⟩
end Go.Proofs.Ytcfmbppnghlkaaa
