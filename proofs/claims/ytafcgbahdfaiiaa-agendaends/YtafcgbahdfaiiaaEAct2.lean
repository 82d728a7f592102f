/- Get, Set, Drop of an agenda; New. -/
import Derived.Test.YtafcgbahdfaiiaaEAct
namespace Go.Proofs.Ytafcgbahdfaiiaa
open Go.RowKit Go.Sort
set_option maxRecDepth 100000

abbrev bxV (w : World) (k m : Int) : World := w.alloc (.cells #[.int .i8 k, .int .i64 m] 27)
set_option maxHeartbeats 1000000 in
theorem aget_w (w : World) (p : Nat) (id : Int) (be : Nat) (e : En) (q : Nat)
    (hc : Calls Try.prog 36 #[ptr p, .int .i64 id] (bxT w) fun v w' => v = .returned (.tuple #[ptr be, .int .i64 0]) ∧ w' = bxT w) (hb : Blk (bxT w) be 74 (enC e q)) :
    Calls Try.prog 14 #[ptr p, .int .i64 id] w fun v w' => v = .returned (.tuple #[thV e.k e.m, .bool true]) ∧ Below w.heap.size w w' := by
  have HB : Hid (Below w.heap.size w (bxT w)) := (Below.refl _ w).alloc (Nat.le_refl _) _
  have hR := bxT_blk w
  have r0 := hR.cell (i := 0) rfl
  have r1 := hR.cell (i := 1) rfl
  have rf := hR.fz
  have HR2 := (hR.set 0 (.int .i8 e.k)).set 1 (.int .i64 e.m)
  have s0 := HR2.cell (i := 0) (v := .int .i8 e.k) rfl
  have s1 := HR2.cell (i := 1) (v := .int .i64 e.m) rfl
  have a0 := hb.cell (i := 0) rfl
  have a1 := hb.cell (i := 1) rfl
  clear hR HR2 hb
  obtain ⟨w1, hw1⟩ : ∃ w1, bxT w = w1 := ⟨_, rfl⟩
  rw [hw1] at hc HB r0 r1 rf s0 s1 a0 a1
  unfold bxT at hw1
  generalize hN : w.heap.size = N at *
  unfold thV
  go_enter Try.func14, Try.ntmps14
  go_wp2_with fail
  refine hc.mono ?_
  rintro v w2 ⟨rfl, hw2⟩
  subst hw2
  clear hc hw1
  go_wp2_with fail
  exact bodyPost_ret (v := .tuple #[thV e.k e.m, .bool true]) (by simp [results, Try.results14, go_sem, s0, s1]) rfl ⟨rfl, (HB.out.setCell (Nat.le_refl _) _).setCell (Nat.le_refl _) _⟩
set_option maxHeartbeats 1000000 in
theorem aget_no (w : World) (p : Nat) (id : Int)  (er : Int) (her : er ≠ 0)
    (hc : Calls Try.prog 36 #[ptr p, .int .i64 id] (bxT w) fun v w' => v = .returned (.tuple #[.pointer none, .int .i64 er]) ∧ w' = bxT w) :
    Calls Try.prog 14 #[ptr p, .int .i64 id] w fun v w' => v = .returned (.tuple #[thV 0 0, .bool false]) ∧ Below w.heap.size w w' := by
  have HB : Hid (Below w.heap.size w (bxT w)) := (Below.refl _ w).alloc (Nat.le_refl _) _
  have hR := bxT_blk w
  have s0 := (bxT_blk (bxT w)).cell (i := 0) rfl
  have s1 := (bxT_blk (bxT w)).cell (i := 1) rfl
  have hb2 : Below (bxT w).heap.size (bxT w) (bxT (bxT w)) := (Below.refl _ (bxT w)).alloc (Nat.le_refl _) _
  have hR' := hR.below hb2
  have t0 := hR'.cell (i := 0) rfl
  have t1 := hR'.cell (i := 1) rfl
  have tf := hR'.fz
  have HB2 : Hid (Below w.heap.size w (bxT (bxT w))) := HB.out.trans (hb2.mono (Nat.le_of_lt hR.lt))
  have hne : (bxT w).heap.size ≠ w.heap.size := by have := hR.lt; omega
  clear hR hR' hb2
  obtain ⟨w1, hw1⟩ : ∃ w1, bxT w = w1 := ⟨_, rfl⟩
  rw [hw1] at hc HB s0 s1 t0 t1 tf HB2 hne
  obtain ⟨w2, hw2⟩ : ∃ w2, bxT w1 = w2 := ⟨_, rfl⟩
  rw [hw2] at s0 s1 t0 t1 tf HB2
  unfold bxT at hw1 hw2
  generalize hN : w.heap.size = N at *
  generalize hM : w1.heap.size = M at *
  unfold thV
  go_enter Try.func14, Try.ntmps14
  go_wp2_with fail
  refine hc.mono ?_
  rintro v w5 ⟨rfl, hw5⟩
  subst hw5
  clear hc hw1
  go_wp2_with fail
  exact bodyPost_ret (v := .tuple #[thV 0 0, .bool false]) (by simp [results, Try.results14, go_sem, t0, t1]) rfl ⟨rfl, (HB2.out.setCell (Nat.le_refl _) _).setCell (Nat.le_refl _) _⟩
section
variable {l : Le} {w : World} {p : Nat} {D : List En} {last : Nat} {Y : Nat → Prop}
theorem getA (a : Ag l w p D last Y) {e : En} (he : e ∈ D) : Calls Try.prog 14 #[ptr p, .int .i64 (e.n : Int)] w fun v w' => v = .returned (.tuple #[thV e.k e.m, .bool true]) ∧ Below w.heap.size w w' := by
  obtain ⟨ok, o, A, x, rfl⟩ := a.box (.cells #[.int .i8 0, .int .i64 0] 27)
  obtain ⟨i, hi, hf, _⟩ := x.at_ he
  have h := x.rx.en i hi
  rw [hf] at h
  exact aget_w w p _ _ e i (afind_ok l _ p o A D _ x e he) h
theorem getA_no (a : Ag l w p D last Y) {id : Int} (hw : (Lit.int .i64 id).wf = true) (hno : ∀ e, e ∈ D → (e.n : Int) ≠ id) : Calls Try.prog 14 #[ptr p, .int .i64 id] w fun v w' => v = .returned (.tuple #[thV 0 0, .bool false]) ∧ Below w.heap.size w w' := by
  obtain ⟨ok, o, A, x, rfl⟩ := a.box (.cells #[.int .i8 0, .int .i64 0] 27)
  exact aget_no w p id 90 (by decide) (afind_no l _ p o A D _ x id hw hno)
end
set_option maxHeartbeats 1000000 in
theorem dropA {l : Le} {w : World} {p : Nat} {D : List En} {last : Nat} {Y : Nat → Prop} (a : Ag l w p D last Y) {e : En} (he : e ∈ D) :
    Calls Try.prog 24 #[ptr p, .int .i64 (e.n : Int)] w fun v w' => v = .returned (.int .i64 0) ∧ Ag l w' p (dropD D e.n) last Y ∧ But (Els Y) w w' := by
  obtain ⟨ok, o, A, x, rfl⟩ := a
  obtain ⟨i, hi, hf, _⟩ := x.at_ he
  have cF := afind_ok l w p o A D Y x e he
  have h0 := x.pb.cell (i := 0) rfl
  have hjj : l.J (l.b (dropD D e.n) A.last + 4 * A.n) w := ok.mt _ _ _ (by have h1 := drop_len x.dn.srt he; have h2 := x.rx.ok.nl; have h3 := x.rx.ok.lb; unfold Le.b; omega) x.j
  have cL := eleave l.g l.cs l.J (l.b (dropD D e.n) A.last) l.X l.Ord ok o A i hi w x.rx hjj x.lv (fun b hb => (x.nx b hb).1)
  rw [hf] at cL
  have HX : Hid (Ax l w p o A D Y) := x
  have HK : Hid l.Ok := ok
  clear x ok hjj
  go_enter Try.func24, Try.ntmps24
  go_wp2_with fail
  refine cF.mono ?_
  rintro v w' ⟨rfl, hw'⟩
  subst hw'
  clear cF
  go_wp2_with fail
  refine cL.mono ?_
  rintro v w2 ⟨rfl, o', A', hg, ho, _⟩
  clear cL
  obtain ⟨x2, b2⟩ := HX.out.goes HK.out hg (by rw [ho.last]; exact Nat.le_refl _) (ho.dn HX.out.dn he) (fun h => ho.hp h (HX.out.hp h))
  have A2 : Hid (Ag l w2 p (dropD D e.n) A.last Y) := ⟨HK.out, o', A', x2, ho.last⟩
  clear x2 hg ho
  go_wp2_with fail
  go_ret
  exact ⟨rfl, A2.out, b2⟩
set_option maxHeartbeats 1000000 in
theorem dropA_no {l : Le} {w : World} {p : Nat} {D : List En} {last : Nat} {Y : Nat → Prop} (a : Ag l w p D last Y) {id : Int} (hw : (Lit.int .i64 id).wf = true) (hno : ∀ e, e ∈ D → (e.n : Int) ≠ id) :
    Calls Try.prog 24 #[ptr p, .int .i64 id] w fun v w' => v = .returned (.int .i64 90) ∧ w' = w := by
  obtain ⟨ok, o, A, x, rfl⟩ := a
  have cF := afind_no l w p o A D Y x id hw hno
  clear x hno
  go_enter Try.func24, Try.ntmps24
  go_wp2_with fail
  refine cF.mono ?_
  rintro v w' ⟨rfl, hw'⟩
  subst hw'
  go_wp2_with fail
  go_ret
  exact ⟨rfl, rfl⟩
set_option maxHeartbeats 1000000 in
theorem setA_no {l : Le} {w : World} {p : Nat} {D : List En} {last : Nat} {Y : Nat → Prop} (a : Ag l w p D last Y) {id : Int} (k m : Int) (hw : (Lit.int .i64 id).wf = true) (hno : ∀ e, e ∈ D → (e.n : Int) ≠ id) :
    Calls Try.prog 25 #[ptr p, .int .i64 id, thV k m] w fun v w' => v = .returned (.int .i64 90) ∧ Below w.heap.size w w' := by
  obtain ⟨ok, o, A, x, rfl⟩ := a.box (.cells #[.int .i8 k, .int .i64 m] 27)
  have cF := afind_no l _ p o A D _ x id hw hno
  have HB : Hid (Below w.heap.size w (w.alloc (.cells #[.int .i8 k, .int .i64 m] 27))) := (Below.refl _ w).alloc (Nat.le_refl _) _
  clear x hno a
  unfold thV
  go_enter Try.func25, Try.ntmps25
  go_wp2_with fail
  refine cF.mono ?_
  rintro v w' ⟨rfl, hw'⟩
  subst hw'
  go_wp2_with fail
  go_ret
  exact ⟨rfl, HB.out⟩
set_option maxHeartbeats 1000000 in
theorem setC {l : Le} {w : World} {p : Nat} {D : List En} {last : Nat} {Y : Nat → Prop} (a : Ag l w p D last Y) (c' : Nat) (hd : ∀ n W, l.J (l.c + n) W → l.J (c' + 5000000 + n) W) (k m : Int) (hk : -128 ≤ k ∧ k ≤ 127) {e : En} (he : e ∈ D) :
    Calls Try.prog 25 #[ptr p, .int .i64 (e.n : Int), thV k m] w fun v w' => v = .returned (.int .i64 0) ∧ Ag {l with c := c'} w' p (setD D e.n k m) last Y ∧ But (Els Y) w w' := by
  obtain ⟨w1, hw1⟩ : ∃ w1, w.alloc (.cells #[.int .i8 k, .int .i64 m] 27) = w1 := ⟨_, rfl⟩
  have a1 := a.box (.cells #[.int .i8 k, .int .i64 m] 27)
  have k0 := (blk_new w [.int .i8 k, .int .i64 m] 27).cell (i := 0) rfl
  have k1 := (blk_new w [.int .i8 k, .int .i64 m] 27).cell (i := 1) rfl
  have E1 : Hid (But (Els Y) w w1) := by rw [← hw1]; exact (But.refl _ w).alloc _
  rw [hw1] at a1 k0 k1
  obtain ⟨ok, o, A, x, rfl⟩ := a1
  obtain ⟨i, hi, hf, _⟩ := x.at_ he
  have cF := afind_ok l w1 p o A D _ x e he
  have h0 := x.pb.cell (i := 0) rfl
  have xd := x.below ok ((Below.refl _ w1).drew)
  have hjj : l.J (({l with c := c'} : Le).b (setD D e.n k m) A.last + 4 * A.n) w1.drew := ok.mt _ _ _ (by have h2 := x.rx.ok.nl; have h3 := x.rx.ok.lb; simp only [Le.b, set_len]; omega) (hd _ _ xd.j)
  have c1 := echange l.g l.cs l.J (({l with c := c'} : Le).b (setD D e.n k m) A.last) l.X l.Ord ok o A i hi k m hk w1.drew xd.rx hjj xd.lv (fun b hb => (x.nx b hb).1)
  rw [hf] at c1
  have HX : Hid (Ax l w1.drew p o A D (fun b => Y b ∨ b = w.heap.size)) := xd
  have HK : Hid l.Ok := ok
  have HN := HX.out.ny w.heap.size (.inr rfl)
  have toS : ∀ W, But (fun b => o.has A b ∨ l.X b) w1.drew W → W.cell? ⟨p, 0, none⟩ = some (ptr o.r) ∧ W.cell? ⟨w.heap.size, 0, none⟩ = some (.int .i8 k) ∧ W.cell? ⟨w.heap.size, 1, none⟩ = some (.int .i64 m) := fun W h =>
    ⟨h.cell h0 (fun h => h.elim x.np (fun h => (x.nx p h).2 rfl)), h.cell k0 (fun h => h.elim HN.2.1 HN.2.2.2), h.cell k1 (fun h => h.elim HN.2.1 HN.2.2.2)⟩
  clear x a xd HN hjj hd
  generalize hN : w.heap.size = N at *
  unfold thV at *
  go_enter Try.func25, Try.ntmps25
  go_wp2_with fail
  refine cF.mono ?_
  rintro v w' ⟨rfl, hw'⟩
  subst hw'
  clear cF hw1 ok
  go_wp2_with fail
  go_region_held3 (fun W => W.cell? ⟨p, 0, none⟩ = some (ptr o.r) ∧ W.cell? ⟨N, 0, none⟩ = some (.int .i8 k) ∧ W.cell? ⟨N, 1, none⟩ = some (.int .i64 m)) (first | assumption | exact toS _ (by assumption) | exact toS _ (But.refl _ _)) (first | (go_at_call 45; (with_reducible refine c1.mono ?_); rintro v w5 ⟨rfl, A5, hg5, hi5⟩; have hbb := hg5.but))
  obtain ⟨x6, b6⟩ := HX.out.goesC c' HK.out hg5 (D' := setD D e.n k m) (by rw [hi5.last]; exact Nat.le_refl _) ⟨by rw [set_len, HX.out.dn.len, hi5.n], fun y => by rw [mem_set HX.out.dn.srt he, hi5.has, HX.out.dn.mem], set_srt HX.out.dn.srt _ _ _⟩ (fun h => hi5.hp h (HX.out.hp h))
  have A6 : Hid (Ag {l with c := c'} w5 p (setD D e.n k m) A.last Y) := ⟨HK.out, o, A5, ⟨x6.pb, x6.rx, x6.lv, x6.j, x6.nx, fun b hb => x6.ny b (.inl hb), x6.np, x6.dn, x6.hp⟩, hi5.last⟩
  have E6 : Hid (But (Els Y) w w5) := E1.out.trans ((But.refl (Els Y) w').drew.trans (b6.mono fun b hb hy => hb (.inl hy)))
  clear x6 b6 hbb hg5 hi5 HX
  go_wp2_with fail
  go_ret
  exact ⟨rfl, A6.out, E6.out⟩

set_option maxHeartbeats 1000000 in
theorem enewrow (g : Nat) (cs : Array Value) (w : World) :
    Calls Try.prog 26 #[.func (.func g) #[] cs] w fun v w' => ∃ o, v = .returned (ptr o.r) ∧ (o.lv = .func (.func g) #[] cs ∧ o.ev = .slice none 0 0 ∧ w.heap.size ≤ o.r ∧ w.heap.size ≤ o.bm) ∧ Rx w' o ⟨fun _ => ⟨0, 0, 0⟩, 0, 0⟩ ∧ Below w.heap.size w w' := by
  have hm := @run_makeMap Try.prog
  have HB : Hid (Below w.heap.size w ((w.alloc (.map #[] 0)).alloc (.cells #[.func (.func g) #[] cs, .slice none 0 0, .map (some w.heap.size), .int .i64 0] 85))) := ((Below.refl _ w).alloc (Nat.le_refl _) _).alloc (by simp) _
  have HX : Hid (Rx ((w.alloc (.map #[] 0)).alloc (.cells #[.func (.func g) #[] cs, .slice none 0 0, .map (some w.heap.size), .int .i64 0] 85)) ⟨w.heap.size + 1, w.heap.size, .func (.func g) #[] cs, .slice none 0 0, fun _ => 0, []⟩ ⟨fun _ => ⟨0, 0, 0⟩, 0, 0⟩) := by
    refine ⟨?_, World.ownsRow_nil _ _ _ _, fun i hi => absurd hi (Nat.not_lt_zero _), ?_, fun z => ⟨fun h => absurd h (by simp), fun ⟨i, hi, _⟩ => absurd hi (Nat.not_lt_zero _)⟩, by simp, ⟨fun i _ hi => absurd hi (Nat.not_lt_zero _), fun i hi => absurd hi (Nat.not_lt_zero _), Nat.le_refl _, fun i hi => absurd hi (Nat.not_lt_zero _), by show 0 ≤ _; omega⟩⟩
    · have h := blk_new (w.alloc (.map #[] 0)) [.func (.func g) #[] cs, .slice none 0 0, .map (some w.heap.size), .int .i64 0] 85
      rw [World.size_alloc] at h
      exact h
    · exact (mq_new w _).same (Below.heap_alloc _ _ _ (by simp))
  go_enter Try.func26, Try.ntmps26
  go_wp2_with fail
  go_ret
  exact ⟨_, rfl, ⟨rfl, rfl, Nat.le_succ _, Nat.le_refl _⟩, HX.out, HB.out⟩

theorem nilF (g : Nat) (cs : Array Value) (W : World) : (binOp .eql 28 (.func (.func g) #[] cs) .nilFunc).run Try.prog W = .ok (.bool false) W := by kernel_rfl
set_option maxHeartbeats 1000000 in
theorem newA (l : Le) (w : World) (ok : l.Ok) (hJ : l.J (l.b [] 0) w) :
    Calls Try.prog 8 #[.func (.func l.g) #[] l.cs] w fun v w' => ∃ p, v = .returned (ptr p) ∧ Ag l w' p [] 0 (fun b => b < w.heap.size ∧ ¬ l.X b) ∧ w.heap.size ≤ p ∧ Below w.heap.size w w' := by
  have cR := enewrow l.g l.cs w
  have HK : Hid l.Ok := ok
  have HJ : Hid (l.J (l.b [] 0) w) := hJ
  have hnf := fun W => nilF l.g l.cs W
  clear ok hJ
  go_enter Try.func8, Try.ntmps8
  go_wp2_with fail
  refine cR.mono ?_
  rintro v w1 ⟨o, rfl, ⟨h1, h2, h3, h4⟩, x1, b1⟩
  clear cR
  have HX : Hid (Rx w1 o ⟨fun _ => ⟨0, 0, 0⟩, 0, 0⟩) := x1
  have HB : Hid (Below w.heap.size w w1) := b1
  clear x1 b1
  go_wp2_with fail
  go_ret
  have hb2 : Below w1.heap.size w1 (w1.alloc (.cells #[ptr o.r] 60)) := (Below.refl _ w1).alloc (Nat.le_refl _) _
  have hb3 : Below w.heap.size w (w1.alloc (.cells #[ptr o.r] 60)) := HB.out.trans (hb2.mono HB.out.size)
  have hsz := HB.out.size
  have hh : ∀ b, o.has ⟨fun _ => ⟨0, 0, 0⟩, 0, 0⟩ b → w.heap.size ≤ b := by
    rintro b (h | h | h | ⟨i, hi, _⟩)
    · omega
    · omega
    · rw [h2] at h; cases h
    · exact absurd hi (Nat.not_lt_zero _)
  refine ⟨w1.heap.size, rfl, ⟨HK.out, o, ⟨fun _ => ⟨0, 0, 0⟩, 0, 0⟩, ⟨blk_new w1 [ptr o.r] _, HX.out.below hb2, h1, HK.out.st _ _ _ HJ.out (But.of hb3), fun b hb => ?_, fun b hb => ?_, fun h => Nat.lt_irrefl _ (HX.out.lt h), ⟨rfl, fun y => ⟨fun h => absurd h (by simp), fun ⟨i, hi, _⟩ => absurd hi (Nat.not_lt_zero _)⟩, List.Pairwise.nil⟩, fun _ c _ hc => absurd hc (Nat.not_lt_zero _)⟩, rfl⟩, hsz, hb3⟩
  · have := HK.out.lt _ _ _ HJ.out hb
    exact ⟨fun h => by have := hh b h; omega, by omega⟩
  · exact ⟨by have := hb3.size; omega, fun h => by have := hh b h; omega, by omega, hb.2⟩

set_option maxHeartbeats 1000000 in
theorem rless (k1 m1 k2 m2 : Int) (w : World) : Calls Try.prog 9 #[thV k1 m1, thV k2 m2] w fun v w' => v = .returned (.bool (decide (k1 < k2))) ∧ Below w.heap.size w w' := by
  have HB : Hid (Below w.heap.size w ((w.alloc (.cells #[.int .i8 k1, .int .i64 m1] 27)).alloc (.cells #[.int .i8 k2, .int .i64 m2] 27))) := ((Below.refl _ w).alloc (Nat.le_refl _) _).alloc (by simp) _
  unfold thV
  go_enter Try.func9, Try.ntmps9
  go_wp2_with fail
  go_ret
  exact ⟨rfl, HB.out⟩
def lessL : Le := ⟨9, #[], fun _ _ => True, 0, fun _ => False, True⟩
theorem lessOk : lessL.Ok :=
  ⟨enters_of Try.func9 (by kernel_rfl) rfl, fun _ _ _ h _ => h, fun _ _ _ _ h => h.elim, fun _ _ _ _ h => h, fun _ W k1 m1 k2 m2 _ => (rless k1 m1 k2 m2 W).mono fun _ _ h => ⟨_, h.1, fun _ => rfl, But.of h.2, trivial⟩⟩
theorem setA {w : World} {p : Nat} {D : List En} {last : Nat} {Y : Nat → Prop} (a : Ag lessL w p D last Y) (k m : Int) (hk : -128 ≤ k ∧ k ≤ 127) {e : En} (he : e ∈ D) :
    Calls Try.prog 25 #[ptr p, .int .i64 (e.n : Int), thV k m] w fun v w' => v = .returned (.int .i64 0) ∧ Ag lessL w' p (setD D e.n k m) last Y ∧ But (Els Y) w w' :=
  setC a 0 (fun _ _ _ => trivial) k m hk he
end Go.Proofs.Ytafcgbahdfaiiaa
