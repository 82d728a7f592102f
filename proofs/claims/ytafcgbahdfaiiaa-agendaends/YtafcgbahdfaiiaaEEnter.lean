/- An entry comes into a row. -/
import Derived.Test.YtafcgbahdfaiiaaEPush
namespace Go.Proofs.Ytafcgbahdfaiiaa
open Go.RowKit Go.Sort
set_option maxRecDepth 100000

/-- an entry is new -/
structure Inn (Ord : Prop) (A A' : Ar) (k m : Int) : Prop where
  n : A'.n = A.n + 1
  last : A'.last = A.last + 1
  has : ∀ y, A'.has y ↔ A.has y ∨ y = ⟨k, m, A.last + 1⟩
  hp : Ord → Hp A.f A.n → Hp A'.f A'.n
theorem add_has {A : Ar} {k m : Int} (y : En) : (A.add k m).has y ↔ A.has y ∨ y = ⟨k, m, A.last + 1⟩ := by
  constructor
  · rintro ⟨j, hj, e⟩
    rcases add_cases hj with hj | hj
    · rw [add_lt hj] at e; exact .inl ⟨j, hj, e⟩
    · subst hj; rw [add_at] at e; exact .inr e.symm
  · rintro (⟨j, hj, e⟩ | e)
    · exact ⟨j, by show j < A.n + 1; omega, by rw [add_lt hj]; exact e⟩
    · exact ⟨A.n, by show A.n < A.n + 1; omega, by rw [add_at]; exact e.symm⟩
set_option maxHeartbeats 1000000 in
theorem ehpush (g : Nat) (cs : Array Value) (J : Nat → World → Prop) (c : Nat) (X : Nat → Prop) (Ord : Prop) (L : Ls g cs J X Ord) (o : Ro) (A : Ar) (B : Nat) (k m : Int) (w : World) (y : Py w o A B k m) (hJ : J (c + (A.n + 1)) w) (hlv : o.lv = .func (.func g) #[] cs) (hX : ∀ b, X b → ¬ o.has A b ∧ b ≠ B) :
    Calls Try.prog 48 #[rI o.r, .iface 70 (ptr B)] w fun e w' => e = .returned (.tuple #[]) ∧ ∃ o' A', (o'.r = o.r ∧ o'.lv = o.lv ∧ o'.bl = o.bl) ∧ Rx w' o' A' ∧ But (fun b => (o.has A b ∨ b = B) ∨ X b) w w' ∧ (∀ b, o'.has A' b → (o.has A b ∨ b = B) ∨ w.heap.size ≤ b) ∧ J c w' ∧ Inn Ord A A' k m := by
  obtain ⟨n1, n2, n3, n4, n5, n6, n7⟩ := y.ne
  obtain ⟨q, hq⟩ := y.eB
  have cP := epush_w o.r B o.ev A.n (pts A o.bl) w (by have := y.ok.nl; have := y.lb; omega) _ (y.rb.cell (i := 1) rfl) (y.rb.fz 1) y.ow (hq.cell (i := 3) rfl) (hq.fz 3) n1 n2 n3
  have hm0 : ∀ W : World, (method 215 58 (ptr o.r) "Push").run Try.prog W = .ok (74, ptr o.r) W := fun W => by kernel_rfl
  have hm3 : ∀ W : World, (method 215 58 (ptr o.r) "Len").run Try.prog W = .ok (32, ptr o.r) W := fun W => by kernel_rfl
  have HY : Hid (Py w o A B k m) := y
  have HL : Hid (Ls g cs J X Ord) := L
  have HJ : Hid (J (c + (A.n + 1)) w) := hJ
  have HX : Hid (∀ b, X b → ¬ o.has A b ∧ b ≠ B) := hX
  have hn : A.n ≤ 1000000 := by have := y.ok.nl; have := y.lb; omega
  clear L y hq hX hJ n1 n2 n3 n4 n5 n6 n7
  go_enter Try.func48, Try.ntmps48
  go_wp2_with fail
  refine cP.mono ?_
  rintro e w1 ⟨rfl, v', w3, hown, hgr, hloc, hw1⟩
  obtain ⟨x1, b1, s1⟩ := epush_rx HY.out hown hgr hloc
  rw [← hw1] at x1 b1
  clear cP hown hgr hloc hw1
  obtain ⟨o1, ho1⟩ : ∃ o1 : Ro, o1 = { o with ev := v' } := ⟨_, rfl⟩
  rw [← ho1] at x1 s1
  have hr1 : o1.r = o.r := by rw [ho1]
  have hl1 : o1.lv = o.lv := by rw [ho1]
  have hbl1 : o1.bl = o.bl := by rw [ho1]
  clear ho1
  have HX1 : Hid (Rx w1 o1 (A.add k m)) := x1
  have HB1 : Hid (But (fun b => o.has A b ∨ b = B) w w1) := b1
  have HS1 : Hid (∀ b, o1.has (A.add k m) b → (o.has A b ∨ b = B) ∨ w.heap.size ≤ b) := s1
  have cN := elen o1 (A.add k m) w1 x1
  rw [hr1, show (((A.add k m).n : Nat) : Int) = (A.n : Int) + 1 from rfl] at cN
  have hXw : ∀ b, X b → b < w.heap.size := fun b hb => HL.out.lt _ _ _ HJ.out hb
  have cU := eup g cs J c X Ord HL.out o1 (A.add k m) A.n (by show A.n < A.n + 1; omega) w1 x1 (HL.out.st _ _ _ HJ.out (b1.mono fun b hb hx => hb.elim (HX.out b hx).1 (HX.out b hx).2)) (hl1.trans hlv) (fun b hb h => (s1 b h).elim (fun h => h.elim (HX.out b hb).1 (HX.out b hb).2) (fun h => by have := hXw b hb; omega))
  rw [hr1] at cU
  clear x1 b1 s1 hXw
  go_wp2_with fail
  refine cN.mono ?_
  rintro e w' ⟨rfl, hw'⟩
  subst hw'
  clear cN
  go_wp2_with fail
  refine cU.mono ?_
  rintro e w2 ⟨rfl, A2, M2, U2⟩
  have HM : Hid (Mv (J c) X w' o1 (A.add k m) w2 A2) := M2
  have HU : Hid (Ord → Upp (A.add k m).f (A.add k m).n A.n → Hp A2.f (A.add k m).n) := U2
  clear cU M2 U2
  go_wp2_with fail
  refine bodyPost_end (results_none rfl _ _ _) rfl ?_
  refine ⟨rfl, o1, A2, ⟨hr1, hl1, hbl1⟩, HM.out.rx, ?_, fun b hb => HS1.out b (HM.out.mix.hs.1 hb), HM.out.j, ⟨HM.out.mix.n, HM.out.mix.last, fun z => (HM.out.mix.has z).trans (add_has z), fun h1 h2 => ?_⟩⟩
  · refine (HB1.out.mono fun _ h => .inl h).onto HM.out.but fun b hb => ?_
    rcases hb with hb | hb
    · rcases HS1.out b hb with h | h
      · exact .inl (.inl h)
      · exact .inr h
    · exact .inl (.inr hb)
  · rw [HM.out.mix.n]
    exact HU.out h1 (h2.push _)

set_option maxHeartbeats 2000000 in
theorem eenter (g : Nat) (cs : Array Value) (J : Nat → World → Prop) (c : Nat) (X : Nat → Prop) (Ord : Prop) (L : Ls g cs J X Ord) (o : Ro) (A : Ar) (k m : Int) (hk : -128 ≤ k ∧ k ≤ 127) (hla : A.last + 1 ≤ 1000000) (w : World) (x : Rx w o A) (hJ : J (c + (A.n + 1)) w) (hlv : o.lv = .func (.func g) #[] cs) (hX : ∀ b, X b → ¬ o.has A b) :
    Calls Try.prog 42 #[ptr o.r, thV k m] w fun e w' => e = .returned (.int .i64 ((A.last + 1 : Nat) : Int)) ∧ ∃ o' A', Gs (J c) X w o A w' o' A' ∧ Inn Ord A A' k m := by
  have r3 := x.rb.cell (i := 3) rfl
  have rf := x.rb.fz
  obtain ⟨w1, hw1⟩ : ∃ w1, w.alloc (.cells #[.int .i8 k, .int .i64 m] 27) = w1 := ⟨_, rfl⟩
  have x1 : Rx w1 o A := by rw [← hw1]; exact x.alloc _
  have k0 : w1.cell? ⟨w.heap.size, 0, none⟩ = some (.int .i8 k) := by rw [← hw1]; exact (blk_new w [.int .i8 k, .int .i64 m] _).cell (i := 0) rfl
  have k1 : w1.cell? ⟨w.heap.size, 1, none⟩ = some (.int .i64 m) := by rw [← hw1]; exact (blk_new w [.int .i8 k, .int .i64 m] _).cell (i := 1) rfl
  have hr := x.rb.lt
  have hb1 : Below w.heap.size w w1 := by rw [← hw1]; exact (Below.refl _ w).alloc (Nat.le_refl _) _
  have s3 := x1.rb.cell (i := 3) rfl
  have sf := x1.rb.fz
  have HX0 : Hid (Rx w1 o A) := x1
  have HL : Hid (Ls g cs J X Ord) := L
  have HJ : Hid (J (c + (A.n + 1)) w) := hJ
  have HX : Hid (∀ b, X b → ¬ o.has A b) := hX
  have HB1 : Hid (Below w.heap.size w w1) := hb1
  have HXW : Hid (Rx w o A) := x
  clear L x x1 hX hJ hb1 r3 rf
  unfold thV
  generalize hN : w.heap.size = N at *
  go_enter Try.func42, Try.ntmps42
  go_wp2_with fail
  obtain ⟨w2, hw2⟩ : ∃ w2, w1.setCell ⟨o.r, 3, none⟩ (.int .i64 ((A.last : Int) + 1)) = w2 := ⟨_, rfl⟩
  have rb2 : Blk w2 o.r 85 [o.lv, o.ev, .map (some o.bm), .int .i64 ((A.last + 1 : Nat) : Int)] := by rw [← hw2]; exact HX0.out.rb.set 3 _
  have t3 : w2.cell? ⟨o.r, 3, none⟩ = some (.int .i64 ((A.last : Int) + 1)) := rb2.cell (i := 3) rfl
  have n0 : w2.cell? ⟨N, 0, none⟩ = some (.int .i8 k) := by rw [← hw2]; exact (cell_set_ne (.inl (by omega))).trans k0
  have n1 : w2.cell? ⟨N, 1, none⟩ = some (.int .i64 m) := by rw [← hw2]; exact (cell_set_ne (.inl (by omega))).trans k1
  rw [hw2]
  clear s3 sf k0 k1 hw1
  go_region
  obtain ⟨B, hB⟩ : ∃ B, w2.heap.size = B := ⟨_, rfl⟩
  have hs2 : w2.heap.size = w1.heap.size := by rw [← hw2, hs_set]
  have hNB : N < B := by rw [← hB]; exact cell_lt n0
  obtain ⟨w4, hw4⟩ : ∃ w4, (w2.alloc (.cells #[.int .i8 k, .int .i64 m, .int .i64 ((A.last : Int) + 1), .int .i64 0] 74)).drew = w4 := ⟨_, rfl⟩
  have hb24 : Below w2.heap.size w2 w4 := by rw [← hw4]; exact ((Below.refl _ w2).alloc (Nat.le_refl _) _).drew
  have rb4 := rb2.below hb24
  have eB4 : Blk w4 B 74 (enC ⟨k, m, A.last + 1⟩ 0) := by
    rw [← hw4, ← hB]
    exact (blk_new w2 [.int .i8 k, .int .i64 m, .int .i64 ((A.last : Int) + 1), .int .i64 0] 74).drew
  have kp : ∀ b, b ≠ o.r → b < w1.heap.size → w4.heap[b]? = w1.heap[b]? := fun b h1 h2 => by
    rw [hb24.block b (by omega), ← hw2]
    exact Below.heap_setCell _ _ _ _ h1
  obtain ⟨n1', n2', n3', n4', n5'⟩ := HX0.out.ne
  have q4 : Mq w4 o.bm o.ml o.bl := HX0.out.mp.same (kp _ (Ne.symm n1') HX0.out.mp.lt)
  have ow4 : w4.ownsRow 0 70 1 o.ev A.n (pts A o.bl) := eown_block HX0.out.ow fun b hb => kp b (by rintro rfl; exact n2' hb) (HX0.out.ow.lt b hb).2
  have en4 : ∀ i, i < A.n → Blk w4 (o.bl (A.f i).n) 74 (enC (A.f i) i) := fun i hi => (HX0.out.en i hi).same (kp _ (n4' i hi).1 (HX0.out.en i hi).lt)
  have c2 := cell_regrown (rb4.cell (i := 2) rfl)
  have c3 := cell_regrown (eB4.cell (i := 2) (v := .int .i64 ((A.last : Int) + 1)) rfl)
  have hrB : o.r ≠ B := by omega
  have b4 : But (fun b => o.has A b) w w4 := by
    refine (((But.of (S := fun b => o.has A b) (hN ▸ HB1.out)).setCell (p := ⟨o.r, 3, none⟩) (.inl rfl) (.int .i64 ((A.last : Int) + 1)))).onto (T := fun _ => False) ?_ (fun _ h => h.elim)
    rw [hw2]
    exact But.of hb24
  rw [hw4, hB]
  have hw1w : w.heap.size ≤ w1.heap.size := HB1.out.size
  have hBw : w.heap.size ≤ B := by omega
  clear hw2 hw4 hB n0 n1 t3 rb2 hb24 kp
  go_wp2_with fail
  refine wp_region_quiet_last (by simp) (by kernel_rfl) (by kernel_rfl) (by kernel_rfl) ?_
  dsimp only [List.dropLast, List.getLast]
  repeat (go_big_quiet_step (fail))
  refine wpQuiet_nil ?_
  intro _ hw'
  obtain ⟨⟨dq, osq⟩, hw''⟩ := hw'
  subst hw''
  have hb5 := below_regrown w4 dq osq
  have hno : A.last + 1 ∉ o.ml := fun h => by
    obtain ⟨i, hi, e⟩ := (HX0.out.ms _).1 h
    have := HX0.out.ok.nb i hi
    omega
  have q5 := q4.same (hb5.block _ q4.lt)
  obtain ⟨w6, hrun, hq6, hbu, hsz, hoth⟩ := q5.store HX0.out.mlb HX0.out.mb (m := A.last + 1) (B := B) hla hno
  rw [show (((A.last + 1 : Nat)) : Int) = (A.last : Int) + 1 from rfl] at hrun
  have kp6 : ∀ b, b ≠ o.bm → b < w4.heap.size → w6.heap[b]? = w4.heap[b]? := fun b h1 h2 => (hoth b h1).trans (hb5.block b h2)
  obtain ⟨o6, ho6⟩ : ∃ o6 : Ro, o6 = { o with bl := upd o.bl (A.last + 1) B, ml := o.ml ++ [A.last + 1] } := ⟨_, rfl⟩
  have hbl : ∀ i, i < A.n → o6.bl (A.f i).n = o.bl (A.f i).n := fun i hi => by
    rw [ho6]
    exact upd_ne (by have := HX0.out.ok.nb i hi; omega)
  have hs6 : ∀ b, o6.has A b ↔ o.has A b := fun b => by
    unfold Ro.has
    have h1 : (∃ i, i < A.n ∧ o6.bl (A.f i).n = b) ↔ ∃ i, i < A.n ∧ o.bl (A.f i).n = b := ⟨fun ⟨i, hi, e⟩ => ⟨i, hi, by rw [← hbl i hi]; exact e⟩, fun ⟨i, hi, e⟩ => ⟨i, hi, by rw [hbl i hi]; exact e⟩⟩
    rw [h1, ho6]
  have hpts : pts A o6.bl = pts A o.bl := List.map_congr_left fun i hi => by rw [hbl i (List.mem_range.1 hi)]
  have hr6 : o6.r = o.r := by rw [ho6]
  have hl6 : o6.lv = o.lv := by rw [ho6]
  have hBm : B ≠ o.bm := fun e => by
    have h := q4
    obtain ⟨es, c, hm, _⟩ := h
    have hB' : w4.heap[B]? = _ := eB4
    rw [e, hm] at hB'
    cases hB'
  have y6 : Py w6 o6 A B k m := by
    refine ⟨?_, ?_, ?_, ?_, ?_, ?_, HX0.out.ok, hla, hk, ?_, ⟨0, eB4.same (kp6 _ hBm eB4.lt)⟩, ?_⟩
    · rw [ho6]; exact rb4.same (kp6 _ n1' rb4.lt)
    · rw [hpts, show o6.ev = o.ev by rw [ho6]]; exact eown_block ow4 fun b hb => kp6 b (by rintro rfl; exact n3' hb) (ow4.lt b hb).2
    · intro i hi; rw [hbl i hi]; exact (en4 i hi).same (kp6 _ (n4' i hi).2.1 (en4 i hi).lt)
    · rw [ho6]; exact hq6
    · intro z
      rw [ho6]
      show z ∈ o.ml ++ [A.last + 1] ↔ _
      rw [List.mem_append, HX0.out.ms, List.mem_singleton]
    · rw [ho6]
      show (o.ml ++ [A.last + 1]).length ≤ _
      have := HX0.out.ml
      simp; omega
    · rw [ho6]; exact upd_at _ _ _
    · intro i hi; rw [hbl i hi]; intro e; have h := (HX0.out.en i hi).lt; have h2 := hs2
      have h3 := (HXW.out.en i hi).lt
      omega
  have b6 : But (fun b => o.has A b) w w6 := (b4.trans (But.of hb5)).onto hbu fun b hb => .inl (.inr (.inl hb))
  have J6 : J (c + (A.n + 1)) w6 := HL.out.st _ _ _ HJ.out (b6.mono fun b hb hx => HX.out b hx hb)
  have cP := ehpush g cs J c X Ord HL.out o6 A B k m w6 y6 J6 (hl6.trans hlv) (fun b hb => ⟨fun h => HX.out b hb ((hs6 b).1 h), by have := HL.out.lt _ _ _ HJ.out hb; omega⟩)
  rw [hr6] at cP
  have HB6 : Hid (But (fun b => o.has A b) w w6) := b6
  have HS6 : Hid (∀ b, o6.has A b ↔ o.has A b) := hs6
  have HBB : Hid (o6.bl (A.last + 1) = B) := y6.bB
  clear rb4 eB4 q4 ow4 en4 c2 c3 b4 hb5 q5 hq6 hbu hsz hoth kp6 hbl hs6 hpts y6 b6 J6 hno n1' n2' n3' n4' n5' ho6 HX0 HXW hs2 hw1w hBm
  intro K hK
  go_simp
  refine hK _ _ ?_
  clear hrun
  go_wp2_with fail
  refine cP.mono ?_
  rintro e w7 ⟨rfl, o', A', ⟨hr', hl', hbl'⟩, x7, b7, s7, J7, I7⟩
  clear cP
  obtain ⟨q, hq, eq⟩ := (I7.has ⟨k, m, A.last + 1⟩).2 (.inr rfl)
  have hc := (x7.en q hq).cell (i := 2) rfl
  rw [eq, hbl', HBB.out] at hc
  simp only at hc
  have HG : Hid (Gs (J c) X w o A w7 o' A' ∧ Inn Ord A A' k m) := by
    refine ⟨⟨hr', hl'.trans hl6, x7, ?_, fun b hb => ?_, J7⟩, I7⟩
    · refine (HB6.out.mono fun b hb => .inl hb).onto b7 fun b hb => ?_
      rcases hb with (h | h) | h
      · exact .inl (.inl ((HS6.out b).1 h))
      · exact .inr (by omega)
      · exact .inl (.inr h)
    · rcases s7 b hb with (h | h) | h
      · exact .inl ((HS6.out b).1 h)
      · exact .inr (by omega)
      · exact .inr (Nat.le_trans HB6.out.size h)
  rw [show (((A.last + 1 : Nat)) : Int) = (A.last : Int) + 1 from rfl] at hc
  clear x7 b7 s7 J7 I7 hq eq hbl' hl' hr'
  go_wp2_with fail
  go_ret
  exact ⟨rfl, o', A', HG.out.1, HG.out.2⟩
end Go.Proofs.Ytafcgbahdfaiiaa
