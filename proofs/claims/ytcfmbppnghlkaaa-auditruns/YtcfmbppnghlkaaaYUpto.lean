/- Upto. -/
import Derived.Test.YtcfmbppnghlkaaaYOf
import Derived.Test.YtcfmbppnghlkaaaUMem
import Derived.Test.YtcfmbppnghlkaaaOStamp
namespace Go.Proofs.Ytcfmbppnghlkaaa
open Go.RowKit Go.Sort Go.Shelf
set_option maxRecDepth 100000

set_option maxHeartbeats 2000000 in
theorem ysearch (g : Nat) (cs : Array Value) (n : Nat) (hn : n ≤ 100000) (P : Nat → Bool) (w : World) (en : ∀ args W, (callFunc g args).run Try.prog W = .ok (.enter g args) W)
    (hc : ∀ i W, i < n → Below w.heap.size w W → Calls Try.prog g (#[.int .i64 (i : Int)] ++ cs) W fun e W' => e = .returned (.bool (P i)) ∧ Below W.heap.size W W') (mono : ∀ i j, i ≤ j → j < n → P i = true → P j = true) :
    Calls Try.prog 50 #[.int .i64 (n : Int), .func (.func g) #[] cs] w fun e w' => ∃ k : Nat, e = .returned (.int .i64 (k : Int)) ∧ (k ≤ n ∧ (∀ i, i < k → P i = false) ∧ ∀ i, k ≤ i → i < n → P i = true) ∧ Below w.heap.size w w' := by
  have HC : Hid (∀ i W, i < n → Below w.heap.size w W → Calls Try.prog g (#[.int .i64 (i : Int)] ++ cs) W fun e W' => e = .returned (.bool (P i)) ∧ Below W.heap.size W W') := hc
  clear hc
  go_enter Try.func50, Try.ntmps50
  go_wp2_with fail
  go_loopw [5, 6] (fun a b wr => ∃ i j : Nat, i ≤ j ∧ j ≤ n ∧ a = .int .i64 i ∧ b = .int .i64 j ∧ Hid ((∀ x, x < i → P x = false) ∧ (∀ x, j ≤ x → x < n → P x = true) ∧ Below w.heap.size w wr)) (fun a b _ => (intOf b).toNat - (intOf a).toNat)
  case atStart => exact ⟨0, n, Nat.zero_le _, Nat.le_refl _, rfl, rfl, fun x hx => absurd hx (Nat.not_lt_zero _), fun x h1 h2 => absurd h2 (by omega), Below.refl _ _⟩
  case round =>
    obtain ⟨i, j, hij, hjn, rfl, rfl, hM⟩ := hrel
    by_cases hlt : i < j
    · obtain ⟨h, hh⟩ : ∃ h : Nat, h = (i + j) / 2 := ⟨_, rfl⟩
      have hh1 : i ≤ h := by omega
      have hh2 : h < j := by omega
      have cc := HC.out h wr (by omega) hM.out.2.2
      have HE : Hid (((i : Int) + (j : Int)) / 2 = (h : Int)) := by show _ = _; omega
      go_wp2_with fail
      simp only [HE.out]
      refine cc.mono ?_
      rintro e w5 ⟨rfl, hb5⟩
      have HB : Hid (Below w.heap.size w w5) := Below.onto hM.out.2.2 hb5
      clear cc hb5
      cases hP : P h
      · have HM2 : Hid ((∀ x, x < h + 1 → P x = false) ∧ (∀ x, j ≤ x → x < n → P x = true) ∧ Below w.heap.size w w5) := ⟨fun x hx => (by
          cases hx2 : P x
          · rfl
          · have := mono x h (by omega) (by omega) hx2; rw [hP] at this; cases this), hM.out.2.1, HB.out⟩
        clear hP
        go_wp2_with fail
        go_roundw
        case rel => exact ⟨h + 1, j, by omega, hjn, by rw [HE.out]; go_num, rfl, HM2⟩
        case measure => simp [intOf]; omega
      · have HM2 : Hid ((∀ x, x < i → P x = false) ∧ (∀ x, h ≤ x → x < n → P x = true) ∧ Below w.heap.size w w5) := ⟨hM.out.1, fun x h1 h2 => mono h x h1 h2 hP, HB.out⟩
        clear hP
        go_wp2_with fail
        go_roundw
        case rel => exact ⟨i, h, hh1, by omega, rfl, by rw [HE.out], HM2⟩
        case measure => simp [intOf]; omega
    · obtain rfl : i = j := by omega
      go_wp2_with fail
      go_ret
      exact ⟨i, rfl, ⟨hjn, hM.out.1, hM.out.2.1⟩, hM.out.2.2⟩
/-- is a record behind a moment? -/
def behB (t s : Int) (r : Rc) : Bool := decide ((⟨t, s, 0, 0⟩ : Rc).key < r.key)
theorem passed_key {t s : Int} {r : Rc} (h : Rc.Ok ⟨t, s, 0, 0⟩) (k : r.Ok) : decide (cmpI t s r.t r.s < 0) = behB t s r := cmpI_key (r := ⟨t, s, 0, 0⟩) h k
set_option maxHeartbeats 2000000 in
theorem ypart1 (b1 b2 : Nat) (t s : Int) (a : Option Addr) (n c : Nat) (i : Nat) (hi : i < n) (b o : Nat) (ha : a = some ⟨b, o, none⟩) (r : Rc) (w : World) (ht : Rc.Ok ⟨t, s, 0, 0⟩) (hr : r.Ok)
    (x0 : w.cell? ⟨b1, 0, none⟩ = some (.int .i64 t)) (x1 : w.cell? ⟨b1, 1, none⟩ = some (.int .i64 s)) (y0 : w.cell? ⟨b2, 0, none⟩ = some (.slice a n c))
    (k0 : w.cell? ⟨b, o + i * 4, none⟩ = some (.int .i64 r.t)) (k1 : w.cell? ⟨b, o + i * 4 + 1, none⟩ = some (.int .i64 r.s)) (k2 : w.cell? ⟨b, o + i * 4 + 2, none⟩ = some (.int .i64 r.g)) (k3 : w.cell? ⟨b, o + i * 4 + 3, none⟩ = some (.int .u64 r.p)) :
    Calls Try.prog 51 #[.int .i64 (i : Int), ptr b1, ptr b2] w fun e w' => e = .returned (.bool (behB t s r)) ∧ Below w.heap.size w w' := by
  subst ha
  have cq := regrown_call (w := w) fun W _ => ypassed t s r W
  rw [passed_key ht hr] at cq
  have x0 := cell_regrown x0
  have x1 := cell_regrown x1
  have y0 := cell_regrown y0
  have k0 := cell_regrown k0
  have k1 := cell_regrown k1
  have k2 := cell_regrown k2
  have k3 := cell_regrown k3
  unfold recV at cq
  generalize behB t s r = bb at *
  go_enter Try.func51, Try.ntmps51
  go_wp2_with fail
  refine wp_region_quiet_below (by kernel_rfl) (by kernel_rfl) ?_
  repeat (go_big_quiet_step (with_reducible exact cq _ _))
  refine wpQuiet_nil ?_
  intro _ hw'
  obtain ⟨⟨dq, osq⟩, hw''⟩ := hw'
  subst hw''
  clear cq x0 x1 y0 k0 k1 k2 k3
  go_wp2_with fail
  go_ret
  exact ⟨rfl, below_regrown _ _ _⟩
theorem fpart1 : ∀ args W, (callFunc 51 args).run Try.prog W = .ok (.enter 51 args) W := enters_of Try.func51 (by kernel_rfl) rfl
theorem fpartM : ∀ args W, (callFunc 41 args).run Try.prog W = .ok (.enter 41 args) W := enters_of Try.func41 (by kernel_rfl) rfl
/-- how many are not behind a moment -/
def upM (t s : Int) (l : List Rc) : Nat := (l.filter fun r => !behB t s r).length
theorem up_take {t s : Int} : ∀ {l : List Rc}, RiseR l → l.take (upM t s l) = l.filter (fun r => !behB t s r) ∧ ∀ i r, l[i]? = some r → (behB t s r = true ↔ upM t s l ≤ i) := by
  intro l
  induction l with
  | nil => exact fun _ => ⟨rfl, fun i r h => by simp at h⟩
  | cons a l ih =>
    intro h
    obtain ⟨h1, h2⟩ := List.pairwise_cons.1 h
    obtain ⟨e1, e2⟩ := ih h2
    cases ha : behB t s a
    · have hu : upM t s (a :: l) = upM t s l + 1 := by unfold upM; simp [ha]
      rw [hu]
      refine ⟨by simp [ha, e1], fun i r hr => ?_⟩
      cases i with
      | zero => simp at hr; subst hr; rw [ha]; simp
      | succ i => rw [e2 i r (by simpa using hr)]; omega
    · have hall : ∀ r, r ∈ l → behB t s r = true := fun r hr => by
        have := h1 r hr
        unfold behB at ha ⊢
        have ha' := of_decide_eq_true ha
        exact decide_eq_true (by omega)
      have hf : (a :: l).filter (fun r => !behB t s r) = [] := by
        rw [List.filter_eq_nil_iff]
        intro r hr
        rcases List.mem_cons.1 hr with rfl | hr
        · simp [ha]
        · simp [hall r hr]
      have hu : upM t s (a :: l) = 0 := by unfold upM; rw [hf]; rfl
      rw [hu, hf]
      refine ⟨rfl, fun i r hr => ⟨fun _ => Nat.zero_le _, fun _ => ?_⟩⟩
      rcases List.mem_cons.1 (List.mem_of_getElem? hr) with rfl | hr
      · exact ha
      · exact hall r hr
theorem upM_le (t s : Int) (l : List Rc) : upM t s l ≤ l.length := List.length_filter_le _ _
set_option maxHeartbeats 4000000 in
theorem ypartM (t s : Int) (gi : Int) (a : Option Addr) (c : Nat) (l : List Rc) (hl : l.length ≤ 1024) (hc : l.length ≤ c) (hrs : RiseR l) (hok : ∀ r, r ∈ l → r.Ok) (ht : Rc.Ok ⟨t, s, 0, 0⟩) (w : World) (hr : RcAt w a l) :
    Calls Try.prog 41 #[stV t s, .int .i64 gi, .slice a l.length c] w fun e w' => e = .returned (.slice a (upM t s l) c) ∧ Below w.heap.size w w' := by
  obtain ⟨w1, hw1⟩ : ∃ w1, w.alloc (.cells #[.int .i64 t, .int .i64 s] 69) = w1 := ⟨_, rfl⟩
  obtain ⟨w2, hw2⟩ : ∃ w2, w1.alloc (.cells #[.slice a l.length c] 61) = w2 := ⟨_, rfl⟩
  have h1 : Below w.heap.size w w1 := by rw [← hw1]; exact (Below.refl _ w).alloc (Nat.le_refl _) _
  have h2 : Below w1.heap.size w1 w2 := by rw [← hw2]; exact (Below.refl _ w1).alloc (Nat.le_refl _) _
  have m1 : Blk w1 w.heap.size 69 [.int .i64 t, .int .i64 s] := by rw [← hw1]; exact blk_new w _ _
  have m2 : Blk w2 w1.heap.size 61 [.slice a l.length c] := by rw [← hw2]; exact blk_new w1 _ _
  have s1 : w1.heap.size = w.heap.size + 1 := by rw [← hw1]; simp
  have m1' := m1.below h2
  have h12 := Below.onto h1 h2
  have hr2 := hr.below h12
  have cq := regrown_call (w := w2) (f := 50) (args := #[.int .i64 (l.length : Int), .func (.func 51) #[] #[ptr w.heap.size, ptr w1.heap.size]]) (v := .int .i64 (upM t s l : Int)) fun W hW => by
    refine (ysearch 51 #[ptr w.heap.size, ptr w1.heap.size] l.length (by omega) (fun i => behB t s (l.getD i rec0)) W fpart1 ?_ ?_).mono ?_
    · intro i W' hi hW'
      have hWW := Below.onto hW hW'
      obtain ⟨r, hri⟩ : ∃ r, l[i]? = some r := ⟨_, List.getElem?_eq_getElem hi⟩
      obtain ⟨b, o, ha, hcell⟩ := hr2.below hWW i r hri
      have q1 := m1'.below hWW
      have q2 := m2.below hWW
      have he : l.getD i rec0 = r := by simp [List.getD, hri]
      rw [he]
      have hcs : ∀ k v, (encR r)[k]? = some v → W'.cell? ⟨b, o + i * 4 + k, none⟩ = some v := hcell
      exact ypart1 w.heap.size w1.heap.size t s a l.length c i hi b o ha r W' ht (hok r (List.mem_of_getElem? hri)) (q1.cell (i := 0) rfl) (q1.cell (i := 1) rfl) (q2.cell (i := 0) rfl) (hcs 0 _ rfl) (hcs 1 _ rfl) (hcs 2 _ rfl) (hcs 3 _ rfl)
    · intro i j hij hj hb
      have hi : i < l.length := by omega
      have hi' := List.getElem?_eq_getElem hi
      have hj' := List.getElem?_eq_getElem hj
      have e1 : l.getD i rec0 = l[i] := by simp [List.getD, hi]
      have e2 : l.getD j rec0 = l[j] := by simp [List.getD, hj]
      simp only [e1] at hb
      simp only [e2]
      have u1 := ((up_take (t := t) (s := s) hrs).2 i _ hi').1 hb
      exact ((up_take (t := t) (s := s) hrs).2 j _ hj').2 (by omega)
    · rintro e w' ⟨k, rfl, ⟨k1, k2, k3⟩, hb⟩
      have hu := upM_le t s l
      have hk : k = upM t s l := by
        rcases Nat.lt_trichotomy k (upM t s l) with h | h | h
        · have hkl : k < l.length := by omega
          have e1 : l.getD k rec0 = l[k] := by simp [List.getD, hkl]
          have := k3 k (Nat.le_refl _) hkl
          simp only [e1] at this
          have := ((up_take (t := t) (s := s) hrs).2 k _ (List.getElem?_eq_getElem hkl)).1 this
          omega
        · exact h
        · have hkl : upM t s l < l.length := by omega
          have e1 : l.getD (upM t s l) rec0 = l[upM t s l] := by simp [List.getD, hkl]
          have h5 := k2 _ h
          simp only [e1] at h5
          have := ((up_take (t := t) (s := s) hrs).2 _ _ (List.getElem?_eq_getElem hkl)).2 (Nat.le_refl _)
          rw [h5] at this
          cases this
      rw [hk]
      exact ⟨rfl, hb⟩
  have y0 := cell_regrown (m2.cell (i := 0) rfl)
  have hu := upM_le t s l
  have HB : Hid (Below w.heap.size w w2) := h12
  clear h1 h2 m1 m2 m1' h12 hr2 hr hrs hok ht
  generalize upM t s l = k at *
  generalize l.length = n at *
  unfold stV
  go_enter Try.func41, Try.ntmps41
  rw [s1] at y0 cq
  go_wp2_with fail
  refine wp_region_quiet_below (by kernel_rfl) (by kernel_rfl) ?_
  repeat (go_big_quiet_step (with_reducible exact cq _ _))
  refine wpQuiet_nil ?_
  intro _ hw'
  obtain ⟨⟨dq, osq⟩, hw''⟩ := hw'
  subst hw''
  have HE : Hid (Below w.heap.size w (grow (redrawn w2 dq) osq)) := Below.onto HB.out (below_regrown _ _ _)
  clear cq y0
  go_wp2_with fail
  go_ret
  exact ⟨rfl, HE.out⟩
/-- what Upto tells -/
def uptoR (L : List Rc) (t s : Int) : List Rc := L.filter fun r => !behB t s r
def momP (o : Yo) (L : List Rc) (t s : Int) (i : Nat) : Pt := ⟨sA (o.v i), upM t s (ownR L i), sC (o.v i)⟩
section
variable {w w' : World} {p : Nat} {o : Yo} {R : List Int} {L : List Rc}
theorem Yx.begM (x : Yx w p o R L) (t s : Int) : Beg o R L (momP o L t s) (fun i => upM t s (ownR L i)) (uptoR L t s) := by
  refine ⟨fun i _ => rfl, fun i _ _ => rfl, fun i _ => upM_le t s _, x.ok.rise.filter _, fun r => ?_, ?_⟩
  · unfold uptoR
    rw [List.mem_filter]
    constructor
    · rintro ⟨h1, h2⟩
      have hg := x.ok.gate r h1
      refine ⟨r.g.toNat, by omega, ?_⟩
      rw [(up_take (l := ownR L _) (x.ok.rise.filter _)).1, List.mem_filter]
      exact ⟨mem_own.2 ⟨h1, by omega⟩, h2⟩
    · rintro ⟨i, hi, h⟩
      rw [(up_take (l := ownR L _) (x.ok.rise.filter _)).1, List.mem_filter] at h
      exact ⟨(mem_own.1 h.1).1, h.2⟩
  · have := x.ok.total
    have : (uptoR L t s).length ≤ L.length := List.length_filter_le _ _
    omega
end
set_option maxHeartbeats 1000000 in
theorem yUpto_w (w : World) (P : Value) (t s : Int) (S : Value → World → Prop) (T : Value → World → Prop)
    (c1 : Calls Try.prog 31 #[P, .func (.func 41) #[stV t s] #[]] (w.alloc (.cells #[.int .i64 t, .int .i64 s] 26)) fun e w' => ∃ v, e = .returned v ∧ S v w')
    (c2 : ∀ v w', S v w' → Calls Try.prog 38 #[v] w' fun e w'' => ∃ u, e = .returned u ∧ (∃ a n c, u = .slice a n c) ∧ T u w'') :
    Calls Try.prog 23 #[P, stV t s] w fun e w' => ∃ u, e = .returned u ∧ T u w' := by
  have H2 : Hid (∀ v w', S v w' → Calls Try.prog 38 #[v] w' fun e w'' => ∃ u, e = .returned u ∧ (∃ a n c, u = .slice a n c) ∧ T u w'') := c2
  clear c2
  unfold stV at *
  go_enter Try.func23, Try.ntmps23
  go_wp2_with fail
  refine c1.mono ?_
  rintro e w1 ⟨v, rfl, hS⟩
  have c2 := H2.out v w1 hS
  clear c1 hS
  go_wp2_with fail
  refine c2.mono ?_
  rintro e w2 ⟨u, rfl, ⟨a, n, c, rfl⟩, hT⟩
  have HT : Hid (T (.slice a n c) w2) := hT
  clear c2 hT
  go_wp2_with fail
  go_ret
  exact ⟨_, rfl, HT.out⟩
theorem yUpto (w : World) (p : Nat) (o : Yo) (R : List Int) (L : List Rc) (x : Yx w p o R L) (t s : Int) (ht : Rc.Ok ⟨t, s, 0, 0⟩) :
    Calls Try.prog 23 #[ptr p, stV t s] w fun e w' => ∃ u, e = .returned u ∧ w'.ownsRow w.heap.size 38 4 u (uptoR L t s).length (encRs (uptoR L t s)) ∧ Below w.heap.size w w' := by
  have hb0 : Below w.heap.size w (w.alloc (.cells #[.int .i64 t, .int .i64 s] 26)) := (Below.refl _ w).alloc (Nat.le_refl _) _
  have x0 := x.below hb0
  refine yUpto_w w (ptr p) t s (fun v w' => w'.ownsRow (w.alloc (.cells #[.int .i64 t, .int .i64 s] 26)).heap.size 61 1 v (ptsTo (momP o L t s) R.length).length ((ptsTo (momP o L t s) R.length).map Pt.V) ∧ Below w.heap.size w w') _ ((yparts _ p o R L x0 41 #[stV t s] (momP o L t s) fpartM ?_).mono fun e w' ⟨v, h1, h2, h3⟩ => ⟨v, h1, h2, Below.onto hb0 h3⟩) ?_
  · intro i W hi hb
    obtain ⟨h1, h2, _⟩ := (x0.below hb).row hi
    obtain ⟨a', c', hv', hr'⟩ := rcAt_own ((x0.below hb).ow i hi)
    have e : a' = sA (o.v i) := by rw [hv']; rfl
    have e2 : c' = sC (o.v i) := by rw [hv']; rfl
    rw [hv']
    rw [← e2] at h2
    refine (ypartM t s (i : Int) a' c' (ownR L i) (x.ok.len hi) h2 (x.ok.rise.filter _) (fun r hr => x.ok.rok r (mem_own.1 hr).1) ht W hr').mono ?_
    rintro e w' ⟨rfl, hb'⟩
    refine ⟨?_, hb'⟩
    unfold momP
    show _ = Ending.returned (Value.slice _ _ _)
    rw [← e2, ← ‹a' = sA (o.v i)›]
  · rintro v w' ⟨h1, h2⟩
    refine (ymerged (x.begM t s) (x.below h2) h1).mono ?_
    rintro e w'' ⟨u, rfl, h3, h4, _⟩
    obtain ⟨a, c, hu, _⟩ := own_at h3
    exact ⟨u, rfl, ⟨a, _, c, hu⟩, own_mono2 h3 h2.size, Below.onto h2 h4⟩
end Go.Proofs.Ytcfmbppnghlkaaa
