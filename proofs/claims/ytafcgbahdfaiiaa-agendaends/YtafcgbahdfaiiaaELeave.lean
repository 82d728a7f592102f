/- An entry leaves a row; another thing is put in its place. -/
import Derived.Test.YtafcgbahdfaiiaaEFix
import Derived.Test.YtafcgbahdfaiiaaJQuiet
namespace Go.Proofs.Ytafcgbahdfaiiaa
open Go.RowKit Go.Sort
set_option maxRecDepth 100000

theorem Fx.congr {f f' : Nat → En} {n i : Nat} (h : Fx f n i) (hi : i < n) (e : ∀ j, j < n → f' j = f j) : Fx f' n i := by
  refine ⟨fun c c0 cn ci cp => ?_, fun c c0 cn cp i0 => ?_⟩
  · rw [e c cn, e (par c) (by unfold par; omega)]; exact h.1 c c0 cn ci cp
  · rw [e c cn, e (par i) (by unfold par; omega)]; exact h.2 c c0 cn cp i0
theorem Hp.congr {f f' : Nat → En} {n : Nat} (h : Hp f n) (e : ∀ j, j < n → f' j = f j) : Hp f' n := fun c c0 cn => by
  rw [e c cn, e (par c) (by unfold par; omega)]; exact h c c0 cn
/-- a row without its last -/
def Ar.cut (A : Ar) (m : Nat) : Ar := { A with n := m }
theorem pts_cut {A : Ar} {g : Nat → Nat} {m : Nat} (hn : A.n = m + 1) (v : Value) : ((pts A g).set m v).take m = pts (A.cut m) g := by
  apply List.ext_getElem?
  intro k
  rw [List.getElem?_take]
  by_cases hk : k < m
  · rw [if_pos hk, List.getElem?_set, if_neg (by omega), pts_at (by omega), pts_at (A := A.cut m) hk]
    rfl
  · rw [if_neg hk, List.getElem?_eq_none (by rw [pts_len]; exact Nat.le_of_not_lt hk)]
theorem own_cut {w : World} {g n cap : Nat} {e : TypeId} {xs : List Value} (h : w.ownsRow 0 e 1 (.slice (some ⟨g, 0, none⟩) (n + 1) cap) (n + 1) xs) : w.ownsRow 0 e 1 (.slice (some ⟨g, 0, none⟩) n cap) n (xs.take n) := by
  refine ⟨by rw [List.length_take, h.1]; omega, ?_⟩
  rcases h.2 with ⟨h1, _⟩ | ⟨g', cap', cur, h1, h2, hg, h3, h4, h5, h6⟩
  · cases h1
  · injection h1 with h1 _ hcap
    injection h1 with h1
    injection h1 with h1
    subst h1 hcap
    refine .inr ⟨g, cap, cur, rfl, h2, hg, by omega, h4, h5, ?_⟩
    rw [← h6, List.take_take]
    congr 1
    omega
theorem Ar.Ok.cut {A : Ar} (h : A.Ok) {m : Nat} (hn : m ≤ A.n) : (A.cut m).Ok :=
  ⟨fun i j hi hj e => h.inj i j (Nat.lt_of_lt_of_le hi hn) (Nat.lt_of_lt_of_le hj hn) e, fun i hi => h.nb i (Nat.lt_of_lt_of_le hi hn), Nat.le_trans hn h.nl, fun i hi => h.kb i (Nat.lt_of_lt_of_le hi hn), h.lb⟩
section
variable {w w2 : World} {o : Ro} {A : Ar}
theorem erm_rx (x : Rx w o A) {g m cap : Nat} (hn : A.n = m + 1) (hv : o.ev = .slice (some ⟨g, 0, none⟩) A.n cap) {l' : List Nat} (hm : Mq w2 o.bm l' o.bl) (hl : ∀ y, y ∈ l' ↔ y ∈ o.ml ∧ y ≠ (A.f m).n) (hlen : l'.length ≤ A.last) (hoth : ∀ i, i ≠ o.bm → i < w.heap.size → w2.heap[i]? = (popW w o.r g m cap).heap[i]?) :
    Rx w2 { o with ev := .slice (some ⟨g, 0, none⟩) m cap, ml := l' } (A.cut m) := by
  obtain ⟨n1, n2, n3, n4, n5⟩ := x.ne
  have hg : o.ev.ownBlock = some g := by rw [hv]; rfl
  have ngr : g ≠ o.r := by rintro rfl; exact n2 hg
  have ngm : g ≠ o.bm := by rintro rfl; exact n3 hg
  have neg : ∀ k, k < A.n → o.bl (A.f k).n ≠ g := fun k hk e => (n4 k hk).2.2 (by rw [hg, e])
  refine ⟨?_, ?_, ?_, hm, ?_, hlen, x.ok.cut (by omega)⟩
  · refine Blk.same ?_ (hoth _ n1 x.rb.lt)
    exact (x.rb.setO ngr.symm (.pointer none) (i := m)).set 1 (.slice (some ⟨g, 0, none⟩) m cap)
  · show World.ownsRow _ 0 _ 1 (.slice (some ⟨g, 0, none⟩) m cap) m (pts (A.cut m) o.bl)
    rw [← pts_cut (g := o.bl) hn (.pointer none)]
    have h := x.ow
    rw [hv, hn] at h
    refine eown_block (own_cut (own_setO (own_set h m (.pointer none)) (b := o.r) (i := 1) (by show some g ≠ some _; intro e; injection e with e; exact ngr e) (.slice (some ⟨g, 0, none⟩) m cap))) fun b hb => ?_
    obtain rfl : g = b := by simpa [Value.ownBlock] using hb
    exact hoth _ ngm (x.ow.lt _ hg).2
  · intro k hk
    have hk' : k < A.n := by have : k < m := hk; omega
    refine Blk.same ?_ (hoth _ (n4 k hk').2.1 (x.en k hk').lt)
    exact ((x.en k hk').setO (neg k hk') (.pointer none) (i := m)).setO (n4 k hk').1 _
  · intro y
    show y ∈ l' ↔ ∃ i, i < m ∧ (A.f i).n = y
    rw [hl, x.ms]
    constructor
    · rintro ⟨⟨i, hi, e⟩, hne⟩
      refine ⟨i, ?_, e⟩
      by_cases h : i = m
      · subst h; exact absurd e.symm hne
      · omega
    · rintro ⟨i, hi, e⟩
      refine ⟨⟨i, by omega, e⟩, fun h => ?_⟩
      have := x.ok.inj i m (by omega) (by omega) (by rw [e, h])
      omega
end
/-- what a call makes of a row -/
structure Gs (J : World → Prop) (X : Nat → Prop) (w : World) (o : Ro) (A : Ar) (w' : World) (o' : Ro) (A' : Ar) : Prop where
  r : o'.r = o.r
  lv : o'.lv = o.lv
  rx : Rx w' o' A'
  but : But (fun b => o.has A b ∨ X b) w w'
  hs : ∀ b, o'.has A' b → o.has A b ∨ w.heap.size ≤ b
  j : J w'
theorem Mv.gs {J : World → Prop} {X : Nat → Prop} {w w' : World} {o : Ro} {A A' : Ar} (m : Mv J X w o A w' A') : Gs J X w o A w' o A' := ⟨rfl, rfl, m.rx, m.but, fun _ h => .inl (m.mix.hs.1 h), m.j⟩
/-- an entry is gone -/
structure Out (Ord : Prop) (A A' : Ar) (e : En) : Prop where
  n : A'.n + 1 = A.n
  last : A'.last = A.last
  has : ∀ y, A'.has y ↔ A.has y ∧ y ≠ e
  hp : Ord → Hp A.f A.n → Hp A'.f A'.n
theorem out_swap {A : Ar} (ok : A.Ok) {m i : Nat} (hn : A.n = m + 1) (hi : i < A.n) (y : En) : ((A.swap i m).cut m).has y ↔ A.has y ∧ y ≠ A.f i := by
  constructor
  · rintro ⟨k, hk, e⟩
    have hk' : k < m := hk
    have h1 : (A.swap i m).has y := ⟨k, by show k < A.n; omega, e⟩
    refine ⟨(Ar.swap_has hi (by omega) y).1 h1, fun h => ?_⟩
    have h2 := (ok.swap (i := i) (j := m) hi (by omega)).inj k m (by show k < A.n; omega) (by show m < A.n; omega) (by
      have e1 : (A.swap i m).f k = y := e
      have e2 : (A.swap i m).f m = A.f i := swp_r _ _ _
      rw [e1, e2, h])
    omega
  · rintro ⟨h, hne⟩
    obtain ⟨k, hk, e⟩ := (Ar.swap_has hi (show m < A.n by omega) y).2 h
    refine ⟨k, ?_, e⟩
    show k < m
    have hk' : k < A.n := hk
    by_cases hkm : k = m
    · subst hkm
      exact absurd (e.symm.trans (swp_r _ _ _)) hne
    · omega

set_option maxHeartbeats 2000000 in
theorem eleave (g : Nat) (cs : Array Value) (J : Nat → World → Prop) (c : Nat) (X : Nat → Prop) (Ord : Prop) (L : Ls g cs J X Ord) (o : Ro) (A : Ar) (i : Nat) (hi : i < A.n) (w : World) (x : Rx w o A) (hJ : J (c + 4 * A.n) w) (hlv : o.lv = .func (.func g) #[] cs) (hX : ∀ b, X b → ¬ o.has A b) :
    Calls Try.prog 44 #[ptr o.r, ptr (o.bl (A.f i).n)] w fun e w' => e = .returned (.tuple #[]) ∧ ∃ o' A', Gs (J c) X w o A w' o' A' ∧ Out Ord A A' (A.f i) ∧ ∃ q, Blk w' (o.bl (A.f i).n) 74 (enC (A.f i) q) := by
  obtain ⟨m, hm⟩ : ∃ m, A.n = m + 1 := ⟨A.n - 1, by omega⟩
  have hl : m ≤ 1000000 := by have := x.ok.nl; have := x.ok.lb; omega
  have h3 := (x.en i hi).cell (i := 3) rfl
  have cN := elen o A w x
  rw [hm] at cN
  have cS := eswap o A i m hi (by omega) w x
  have HX0 : Hid (Rx w o A) := x
  have HL : Hid (Ls g cs J X Ord) := L
  have HJ : Hid (J (c + 4 * m) w) := L.mt _ _ _ (by omega) hJ
  have HX : Hid (∀ b, X b → ¬ o.has A b) := hX
  clear L x hX hJ
  go_enter Try.func44, Try.ntmps44
  go_wp2_with fail
  refine cN.mono ?_
  rintro e w' ⟨rfl, hw'⟩
  subst hw'
  clear cN
  go_wp2_with fail
  refine cS.mono ?_
  rintro e w1 ⟨rfl, _, _, _, x1, b1, _⟩
  clear cS
  have hn1 : (A.swap i m).n = m + 1 := hm
  obtain ⟨gb, cap, hv, hc1, hc2⟩ := x1.sl1 (by omega)
  obtain ⟨n1, n2, n3, n4, n5⟩ := x1.ne
  have hg : o.ev.ownBlock = some gb := by rw [hv]; rfl
  have ngr : o.r ≠ gb := by intro e; exact n2 (by rw [hg, e])
  have ngm : gb ≠ o.bm := by rintro rfl; exact n3 hg
  have hfm : (A.swap i m).f m = A.f i := swp_r _ _ _
  have hB := n4 m (by omega)
  have em := x1.en m (by omega)
  have pm := x1.pt hv (i := m) (by omega)
  rw [hfm] at hB em pm
  have hBg : o.bl (A.f i).n ≠ gb := fun e => hB.2.2 (by rw [hg, e])
  have hff : w1.frozen? ⟨gb, m, none⟩ = false := by
    rcases x1.ow.2 with ⟨h, _⟩ | ⟨g', cap', cur, h, _, hgg, _⟩
    · rw [hv] at h; cases h
    · rw [hv] at h; injection h with h; injection h with h; injection h with h; subst h; exact frozen_of_row _ _ m _ _ hgg
  have r1 := x1.rb.cell (i := 1) rfl
  rw [hv, hn1] at r1
  have cP := epop_w o.r gb m cap (o.bl (A.f i).n) w1 hl (by omega) r1 pm hff (x1.rb.fz 1) ngr
  go_wp2_with fail
  refine cP.mono ?_
  rintro e w2 ⟨rfl, hw2⟩
  clear cP r1 pm hff
  -- the worlds behind Pop
  have rb2 : Blk w2 o.r 85 [o.lv, .slice (some ⟨gb, 0, none⟩) m cap, .map (some o.bm), .int .i64 (A.last : Int)] := by rw [hw2]; exact (x1.rb.setO ngr (.pointer none) (i := m)).set 1 (.slice (some ⟨gb, 0, none⟩) m cap)
  have e2 : Blk w2 (o.bl (A.f i).n) 74 (enC (A.f i) m) := by rw [hw2]; exact (em.setO hBg (.pointer none) (i := m)).setO (b' := o.r) (i := 1) hB.1 (.slice (some ⟨gb, 0, none⟩) m cap)
  have q2 : Mq w2 o.bm o.ml o.bl := x1.mp.same (by rw [hw2]; exact (Below.heap_setCell _ _ _ _ n1.symm).trans (Below.heap_setCell _ _ _ _ ngm.symm))
  have hmem : (A.f i).n ∈ o.ml := (x1.ms _).2 ⟨m, by omega, by rw [hfm]⟩
  have b2 : But (o.has A) w' w2 := by rw [hw2]; exact (b1.setCell (p := ⟨gb, m, none⟩) (.inr (.inr (.inl hg))) _).setCell (p := ⟨o.r, 1, none⟩) (.inl rfl) _
  have c2 := cell_regrown (rb2.cell (i := 2) rfl)
  have c3 := cell_regrown (e2.cell (i := 2) rfl)
  have HP : Hid (w2 = popW w1 o.r gb m cap) := hw2
  have HX1 : Hid (Rx w1 o (A.swap i m)) := x1
  clear x1 hw2 n4 n5 em b1
  go_wp2_with fail
  refine wp_region_quiet_last (by simp) (by kernel_rfl) (by kernel_rfl) (by kernel_rfl) ?_
  dsimp only [List.dropLast, List.getLast]
  repeat (go_big_quiet_step (fail))
  refine wpQuiet_nil ?_
  intro _ hw'
  obtain ⟨⟨dq, osq⟩, hw''⟩ := hw'
  subst hw''
  have hb3 := below_regrown w2 dq osq
  have q3 := q2.same (hb3.block _ q2.lt)
  obtain ⟨w4, hrun, ⟨l', hq4, hll, hl'⟩, hbu, hsz, hoth⟩ := q3.drop HX1.out.mlb HX1.out.mb hmem 0
  have b4 : But (o.has A) w' w4 := (b2.trans (But.of hb3)).onto hbu fun b hb => .inl (.inr (.inl hb))
  have J4 : J (c + 4 * m) w4 := HL.out.st _ _ _ HJ.out (b4.mono fun b hb hx => HX.out b hx hb)
  have x4 : Rx w4 { o with ev := .slice (some ⟨gb, 0, none⟩) m cap, ml := l' } ((A.swap i m).cut m) := erm_rx HX1.out hn1 hv hq4 (by rw [hfm]; exact hl') (Nat.le_trans hll HX1.out.ml) fun k hk hlt => by
    rw [hoth k hk, hb3.block k (by rw [HP.out]; simpa [popW, World.setCell] using hlt), HP.out]
  have e4 : Blk w4 (o.bl (A.f i).n) 74 (enC (A.f i) m) := (e2.below hb3).same (hoth _ hB.2.1)
  obtain ⟨o4, ho4⟩ : ∃ o4 : Ro, o4 = { o with ev := .slice (some ⟨gb, 0, none⟩) m cap, ml := l' } := ⟨_, rfl⟩
  obtain ⟨A4, hA4⟩ : ∃ A4 : Ar, A4 = (A.swap i m).cut m := ⟨_, rfl⟩
  have hs4 : ∀ b, o4.has A4 b → o.has A b := by
    rw [ho4, hA4]
    rintro b (h | h | h | ⟨k, hk, h⟩)
    · exact .inl h
    · exact .inr (.inl h)
    · exact .inr (.inr (.inl (by rw [hg]; exact h)))
    · exact swap_hs hi (by omega) (.inr (.inr (.inr ⟨k, by show k < A.n; have : k < m := hk; omega, h⟩)))
  have out4 : ∀ b, o4.has A4 b → b ≠ o.bl (A.f i).n := by
    rw [ho4, hA4]
    rintro b (h | h | h | ⟨k, hk, h⟩) e
    · exact hB.1 (e.symm.trans h)
    · exact hB.2.1 (e.symm.trans h)
    · have : gb = b := by simpa [Value.ownBlock] using h
      exact hBg (e.symm.trans this.symm)
    · have hk' : k < m := hk
      have h1 : o.bl ((A.swap i m).f k).n = b := h
      have := (HX1.out.ne.2.2.2.2) k m (by show k < A.n; omega) (by show m < A.n; omega) (by rw [hfm, h1, e])
      omega
  rw [← ho4, ← hA4] at x4
  have hlv4 : o4.lv = .func (.func g) #[] cs := by rw [ho4]; exact hlv
  have hr4 : o4.r = o.r := by rw [ho4]
  have hn4 : A4.n = m := by rw [hA4]; rfl
  have HO : Hid (∀ y, A4.has y ↔ A.has y ∧ y ≠ A.f i) := by rw [hA4]; exact out_swap HX0.out.ok hm hi
  have HF : Hid (i < m → Hp A.f A.n → Fx A4.f A4.n i) := fun h1 h2 => by
    have := (h2.less (m := m) (by omega)).fix i (A.f m)
    rw [hn4]
    refine this.congr h1 fun j hj => ?_
    rw [hA4]
    show swp A.f i m j = _
    by_cases e : j = i
    · subst e; rw [swp_l, if_pos rfl]
    · rw [swp_o e (by omega), if_neg e]
  have HH : Hid (¬ i < m → Hp A.f A.n → Hp A4.f A4.n) := fun h1 h2 => by
    rw [hn4]
    refine (h2.less (m := m) (by omega)).congr fun j hj => ?_
    rw [hA4]
    exact swp_o (by omega) (by omega)
  have hla : A4.last = A.last := by rw [hA4]; rfl
  have G4 : Hid (Gs (J (c + 4 * m)) X w' o A w4 o4 A4) := ⟨hr4, by rw [ho4], x4, b4.mono fun _ h => .inl h, fun b hb => .inl (hs4 b hb), J4⟩
  have cH := ehas o4 A4 i w4 x4
  rw [hr4, hn4] at cH
  have HE4 : Hid (Blk w4 (o.bl (A.f i).n) 74 (enC (A.f i) m)) := e4
  have HS4 : Hid ((∀ b, o4.has A4 b → o.has A b) ∧ ∀ b, o4.has A4 b → b ≠ o.bl (A.f i).n) := ⟨hs4, out4⟩
  have HBX : Hid (¬ X (o.bl (A.f i).n)) := fun h => HX.out _ h (.inr (.inr (.inr ⟨i, hi, rfl⟩)))
  clear rb2 e2 q2 hmem b2 c2 c3 hb3 q3 hq4 hll hl' hbu hsz hoth b4 J4 e4 hs4 out4 HP HX1 n1 n2 n3 hg ngr ngm hfm hB hBg hA4 ho4 hv hc1 hc2 hn1
  intro K hK
  go_simp
  refine hK _ _ ?_
  clear hrun
  go_wp2_with fail
  refine cH.mono ?_
  rintro e w5 ⟨rfl, hw5⟩
  subst hw5
  clear cH
  by_cases him : i < m
  · have cF := efix g cs J c X Ord HL.out o4 A4 i (by omega) w5 x4 (by rw [hn4]; exact G4.out.j) hlv4 (fun b hb h => HX.out b hb (HS4.out.1 b h))
    rw [hr4] at cF
    clear x4
    go_wp2_with fail
    refine cF.mono ?_
    rintro e w6 ⟨rfl, A6, M6, F6⟩
    have HM6 : Hid (Mv (J c) X w5 o4 A4 w6 A6) := M6
    have HF6 : Hid (Ord → Fx A4.f A4.n i → Hp A6.f A4.n) := F6
    clear cF M6 F6
    go_wp2_with fail
    refine bodyPost_end (results_none rfl _ _ _) rfl ?_
    refine ⟨rfl, o4, A6, ⟨G4.out.r, G4.out.lv, HM6.out.rx, G4.out.but.trans (HM6.out.but.mono fun b h => h.elim (fun h => .inl (HS4.out.1 b h)) .inr), fun b hb => .inl (HS4.out.1 b (HM6.out.mix.hs.1 hb)), HM6.out.j⟩, ⟨by rw [HM6.out.mix.n, hn4, hm], HM6.out.mix.last.trans hla, fun y => (HM6.out.mix.has y).trans (HO.out y), fun h1 h2 => ?_⟩, m, ?_⟩
    · rw [HM6.out.mix.n]; exact HF6.out h1 (HF.out him h2)
    · exact HE4.out.but HM6.out.but (fun h => h.elim (fun h => HS4.out.2 _ h rfl) HBX.out)
  · clear x4
    go_wp2_with fail
    refine bodyPost_end (results_none rfl _ _ _) rfl ?_
    exact ⟨rfl, o4, A4, ⟨G4.out.r, G4.out.lv, G4.out.rx, G4.out.but, G4.out.hs, HL.out.mt _ _ _ (by omega) G4.out.j⟩, ⟨by rw [hn4, hm], hla, HO.out, fun _ h2 => HH.out him h2⟩, m, HE4.out⟩
end Go.Proofs.Ytafcgbahdfaiiaa
