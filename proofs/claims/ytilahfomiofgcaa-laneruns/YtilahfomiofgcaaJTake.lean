/- Take. -/
import Derived.Test.YtilahfomiofgcaaJFirst
namespace Go.Proofs.Ytilahfomiofgcaa
open Go.RowKit Go.Sort
set_option maxRecDepth 100000

theorem jdrew {w W : World} (h : Below w.heap.size w W) : Below w.heap.size w W.drew := h.drew
theorem jalloc {w W : World} (h : Below w.heap.size w W) (x : Obj) : Below w.heap.size w (W.alloc x) := h.alloc h.size x
theorem j3 (w : World) (x0 x1 y0 y1 z0 z1 : Value) (T U V : TypeId) : let W := (((w.alloc (.cells #[x0, x1] T)).alloc (.cells #[y0, y1] U)).alloc (.cells #[z0, z1] V)).drew
    (W.cell? ⟨w.heap.size, 0, none⟩ = some x0 ∧ W.cell? ⟨w.heap.size, 1, none⟩ = some x1) ∧ (W.cell? ⟨w.heap.size + 1, 0, none⟩ = some y0 ∧ W.cell? ⟨w.heap.size + 1, 1, none⟩ = some y1) ∧ W.cell? ⟨w.heap.size + 1 + 1, 0, none⟩ = some z0 ∧ W.cell? ⟨w.heap.size + 1 + 1, 1, none⟩ = some z1 := by
  intro W
  have e1 : (w.alloc (.cells #[x0, x1] T)).heap.size = w.heap.size + 1 := by simp
  have e2 : ((w.alloc (.cells #[x0, x1] T)).alloc (.cells #[y0, y1] U)).heap.size = w.heap.size + 1 + 1 := by simp
  have h3 := jbox2 (w := (w.alloc (.cells #[x0, x1] T)).alloc (.cells #[y0, y1] U)) (w' := W) (x := z0) (y := z1) (T := V) (jdrew (Below.refl _ _))
  have h2 := jbox2 (w := w.alloc (.cells #[x0, x1] T)) (w' := W) (x := y0) (y := y1) (T := U) (jdrew (jalloc (Below.refl _ _) _))
  have h1 := jbox2 (w := w) (w' := W) (x := x0) (y := x1) (T := T) (jdrew (jalloc (jalloc (Below.refl _ _) _) _))
  rw [e2] at h3
  rw [e1] at h2
  exact ⟨⟨h1.1, h1.2.1⟩, ⟨h2.1, h2.2.1⟩, h3.1, h3.2.1⟩
/-- one is taken: its block and its map alone were written -/
theorem Goes.took {w w5 w' w'' : World} {o : Lo} {A : La} (x0 : Lx w o A) (h1 : Below w.heap.size w w5) {m : Ms} {P' : List Ms} (hP : A.P = m :: P') {f : Nat → Value} (hb : But (fun i => i = o.p ∨ i = o.bm) w5 w') (pt : Pt w' o.p f) (lf : Lf f (takeA A) o.bm o.hv)
    (mp : Mp w' o.bm A.st (o.tl ++ [{ m with is := 3 }])) {B : Nat} (hB : w.heap.size ≤ B) (hb2 : But (fun i => i = B ∨ i = B + 1) w' w'') : Goes w o w'' (takeA A) := by
  have x := x0.below h1
  obtain ⟨n1, n2, n3⟩ := x.ne
  obtain ⟨hk, es⟩ := take_form x.ok hP
  have y : Lx w' { o with f := f, tl := o.tl ++ [{ m with is := 3 }] } (takeA A) := by
    refine ⟨pt, lf, ?_, ?_, ?_, ?_, x.ne, takeA_ok x.ok⟩
    · rw [es]; exact mp
    · rw [es]
      refine own_block x.hd fun b hbk => hb.block b (x.hd.lt b hbk).2 ?_
      have := (x.hd.lt b hbk).1
      omega
    · rw [es]
      simp only [List.filter_append, is3, List.filter_cons, List.filter_nil, beq_self_eq_true, if_true]
      exact x.tp.append_right _
    · rw [es]
      simpa [List.filter_append, is4] using x.hp
  refine ⟨{ o with f := f, tl := o.tl ++ [{ m with is := 3 }] }, rfl, y.but hb2 (fun b hh e => ?_), ((But.of h1).onto hb (fun i hi => .inl ?_)).onto hb2 (fun i hi => .inr (by omega)), fun _ h => .inl h⟩
  · have : b < w.heap.size := x0.lt (b := b) hh
    omega
  · rcases hi with rfl | rfl
    · exact o.hasP
    · exact o.hasM
def slV (n g : Int) : Value := .agg #[.int .i64 n, .int .u64 g]
set_option maxHeartbeats 1000000 in
theorem jticketX (o : Lo) (A : La) (q : Int) (w : World) (x : Lx w o A) :
    Calls Try.prog 29 #[o.ptr, .int .u64 q] w fun e w' => e = .returned (tkV q A.ep) ∧ w' = w.alloc (.cells #[.int .u64 q, .int .u64 A.ep] 34) := by
  have h2 := (x.alloc (.cells #[.int .u64 0, .int .u64 0] 34)).lc.c2
  clear x
  go_enter Try.func29, Try.ntmps29
  go_wp2_with fail
  exact bodyPost_ret (v := tkV q A.ep) (by simp [results, Try.results29, go_sem, tkV]) rfl ⟨rfl, rfl⟩
set_option maxHeartbeats 4000000 in
theorem jtake_no (o : Lo) (A : La) (w : World) (x : Lx w o A) (hP : A.P = []) :
    Calls Try.prog 13 #[o.ptr] w fun v w' => v = .returned (.tuple #[slV 0 0, tkV 0 0, .int .i64 82]) ∧ Below w.heap.size w w' := by
  have hB := ((Below.refl _ w).alloc (Nat.le_refl _) (.cells #[.int .i64 0, .int .u64 0] 36)).alloc (by simp) (.cells #[.int .u64 0, .int .u64 0] 34)
  have b2 := fun W => jtwo (w := w) (w' := W) (x := .int .i64 0) (y := .int .u64 0) (u := .int .u64 0) (v := .int .u64 0) (T := 36) (U := 34)
  have x1 := x.below hB
  obtain ⟨w1, hw1⟩ : ∃ w1, (w.alloc (.cells #[.int .i64 0, .int .u64 0] 36)).alloc (.cells #[.int .u64 0, .int .u64 0] 34) = w1 := ⟨_, rfl⟩
  rw [hw1] at hB x1 b2
  have cI := jis o A w1 x1
  have hhr : A.h = A.r := by unfold La.h La.r; rw [hP]; rfl
  have r3 := cell_regrown x1.lc.c3
  have r4 := cell_regrown x1.lc.c4
  rw [hhr] at r3
  generalize sqI A.st A.r = qr at *
  clear x x1
  obtain ⟨B, hBs⟩ : ∃ B, w.heap.size = B := ⟨_, rfl⟩
  go_enter Try.func13, Try.ntmps13
  go_wp2_with fail
  refine cI.mono ?_
  rintro v w' ⟨rfl, hw'⟩
  subst hw'
  go_wp2_with fail
  refine wp_region_quiet_below (by kernel_rfl) (by kernel_rfl) ?_
  repeat (go_big_quiet_step (fail))
  refine wpQuiet_nil ?_
  intro _ hw'
  obtain ⟨⟨dq, osq⟩, hw''⟩ := hw'
  subst hw''
  have hb := below_regrown w' dq osq
  obtain ⟨⟨k0, k1, kf⟩, k2, k3, kg⟩ := b2 _ hb
  rw [hBs] at k0 k1 k2 k3 kf kg
  have HB : Hid (Below w.heap.size w (grow (redrawn w' dq) osq)) := Below.onto hB hb
  clear b2 hb hB cI r3 r4 hw1
  generalize grow (redrawn w' dq) osq = w2 at *
  go_wp2_with fail
  refine bodyPost_ret (v := .tuple #[slV 0 0, tkV 0 0, .int .i64 82]) (by simp [results, Try.results13, go_sem, k0, k1, k2, k3, slV, tkV]) rfl ⟨rfl, ?_⟩
  iterate 2 (refine Below.setCell ?_ (by show _ ≤ B + 1; omega) _)
  iterate 2 (refine Below.setCell ?_ (by exact Nat.le_of_eq hBs) _)
  exact HB.out

set_option maxHeartbeats 4000000 in
theorem jtake_ok (o : Lo) (A : La) (w : World) (x : Lx w o A) {m : Ms} {P' : List Ms} (hP : A.P = m :: P') :
    Calls Try.prog 13 #[o.ptr] w fun v w' => v = .returned (.tuple #[slV m.n m.g, tkV (sqI A.st m.k) A.ep, .int .i64 0]) ∧ Goes w o w' (takeA A) := by
  have hB := ((Below.refl _ w).alloc (Nat.le_refl _) (.cells #[.int .i64 0, .int .u64 0] 36)).alloc (by simp) (.cells #[.int .u64 0, .int .u64 0] 34)
  have b2 := fun W => jtwo (w := w) (w' := W) (x := .int .i64 0) (y := .int .u64 0) (u := .int .u64 0) (v := .int .u64 0) (T := 36) (U := 34)
  have x1 := x.below hB
  obtain ⟨w1, hw1⟩ : ∃ w1, (w.alloc (.cells #[.int .i64 0, .int .u64 0] 36)).alloc (.cells #[.int .u64 0, .int .u64 0] 34) = w1 := ⟨_, rfl⟩
  rw [hw1] at hB x1 b2
  have HX : Hid (Lx w1 o A) := x1
  have cI := jis o A w1 x1
  have hk := (take_form x.ok hP).1
  have hne : ¬ sqI A.st A.h = sqI A.st A.r := fun e => by
    have h1 := x.ok.bd
    have h2 := x.ok.hr
    have h3 : A.P.length = P'.length + 1 := by rw [hP]; rfl
    have := sq_inj (s := A.st) (a := A.h) (b := A.r) (by omega) (by omega) e
    omega
  have r3 := cell_regrown x1.lc.c3
  have r4 := cell_regrown x1.lc.c4
  have hmem : m ∈ A.P ++ A.C := by rw [hP]; simp
  have q0 := sqI_0 A.st A.h
  have E : Hid (Lx w o A) := x
  have HP : Hid (A.P = m :: P') := hP
  rw [hk]
  have HK : Hid (m.k = A.h) := hk
  clear hk hP
  clear x x1
  obtain ⟨B, hBs⟩ : ∃ B, w.heap.size = B := ⟨_, rfl⟩
  go_enter Try.func13, Try.ntmps13
  go_wp2_with fail
  refine cI.mono ?_
  rintro v w' ⟨rfl, hw'⟩
  subst hw'
  go_wp2_with fail
  refine wp_region_quiet_below (by kernel_rfl) (by kernel_rfl) ?_
  repeat (go_big_quiet_step (fail))
  refine wpQuiet_nil ?_
  intro _ hw'
  obtain ⟨⟨dq, osq⟩, hw''⟩ := hw'
  subst hw''
  have hb := below_regrown w' dq osq
  have x2 := HX.out.below hb
  have HB : Hid (Below w.heap.size w (grow (redrawn w' dq) osq)) := Below.onto hB hb
  have b3 := fun W (hW : Below (grow (redrawn w' dq) osq).heap.size (grow (redrawn w' dq) osq) W) => b2 W (Below.onto hb hW)
  rw [hBs] at b3
  clear b2 hb hB cI r3 r4 hw1 HX
  generalize grow (redrawn w' dq) osq = w2 at *
  have c3 := x2.lc.c3
  have cP := jplace o A (sqI A.st A.h) w2 x2 q0
  go_wp2_with fail
  refine cP.mono ?_
  rintro v w' ⟨rfl, hw'⟩
  subst hw'
  go_wp2_with fail
  obtain ⟨g0, g1, g2, _, _, _⟩ := x2.ring hmem
  rw [HK.out] at g0 g1 g2
  have hS : ∀ W, Below w'.heap.size w' W → W.cell? ⟨o.p, plN (sqI A.st A.h), none⟩ = some (.int .u64 (sqI A.st A.h)) ∧ W.cell? ⟨o.p, plN (sqI A.st A.h) + 1, none⟩ = some (.int .i64 m.n) ∧ W.cell? ⟨o.p, plN (sqI A.st A.h) + 2, none⟩ = some (.int .u64 m.g) :=
    fun W hW => ⟨jcells hW g0, jcells hW g1, jcells hW g2⟩
  have cT := fun W (hW : Below w'.heap.size w' W) => jticketX o A (sqI A.st A.h) W (x2.below hW)
  unfold tkV at cT
  clear g0 g1 g2 c3 cP
  refine Code.wp_mono (Q := fun e a' W => ∃ bs bt, e = .normal ∧ a' = ({ tmps := #[o.ptr, undef, .pointer (some ⟨B, 0, none⟩), .pointer (some ⟨B + 1, 0, none⟩), .int .i64 0, .pointer (some ⟨o.p, plN (sqI A.st A.h), none⟩), .pointer (some ⟨bs, 0, none⟩), .pointer (some ⟨bt, 0, none⟩), o.ptr, .bool true, .bool false, undef, undef, o.ptr, .pointer (some ⟨o.p, 0, none⟩), .pointer (some ⟨o.p, 3, none⟩), .int .u64 (sqI A.st A.h), o.ptr, .pointer (some ⟨o.p, 0, none⟩), .pointer (some ⟨o.p, 4, none⟩), .int .u64 (sqI A.st A.r), .bool false, undef, undef, o.ptr, o.ptr, .pointer (some ⟨o.p, 0, none⟩), .pointer (some ⟨o.p, 3, none⟩), .int .u64 (sqI A.st A.h), .pointer (some ⟨o.p, plN (sqI A.st A.h), none⟩), .pointer (some ⟨o.p, plN (sqI A.st A.h), none⟩), .pointer (some ⟨o.p, plN (sqI A.st A.h), none⟩), .pointer (some ⟨o.p, plN (sqI A.st A.h) + 1, none⟩), .agg #[.int .i64 m.n, .int .u64 m.g], o.ptr, .pointer (some ⟨o.p, plN (sqI A.st A.h), none⟩), .pointer (some ⟨o.p, plN (sqI A.st A.h), none⟩), .pointer (some ⟨o.p, plN (sqI A.st A.h), none⟩), .int .u64 (sqI A.st A.h), .agg #[.int .u64 (sqI A.st A.h), .int .u64 A.ep], undef, undef, undef, undef, undef, undef, undef, undef, undef, undef, undef, undef, undef, undef, undef, undef, undef, undef, undef, undef, undef, undef, undef], defers := [] } : Act) ∧ Below w'.heap.size w' W ∧ w'.heap.size ≤ bs ∧ w'.heap.size ≤ bt ∧ W.cell? ⟨bs, 0, none⟩ = some (.int .i64 m.n) ∧ W.cell? ⟨bs, 1, none⟩ = some (.int .u64 m.g) ∧ W.cell? ⟨bt, 0, none⟩ = some (.int .u64 (sqI A.st A.h)) ∧ W.cell? ⟨bt, 1, none⟩ = some (.int .u64 A.ep)) ?_ ?_
  · rintro e a' w3 ⟨bs, bt, rfl, rfl, hbW, hbs, hbt, s0, s1, t0, t1⟩
    have x3 := x2.below hbW
    have HB3 : Hid (Below w.heap.size w w3) := Below.onto HB.out hbW
    obtain ⟨g0, g1, g2, g3, g4, g5⟩ := x3.ring hmem
    rw [HK.out] at g0 g1 g2 g3 g4 g5
    have r0 := cell_regrown g0
    have r1 := cell_regrown g1
    have r2 := cell_regrown g2
    have r3 := cell_regrown g3
    have r4 := cell_regrown g4
    have r5 := cell_regrown g5
    have rm := cell_regrown x3.lc.cm
    have b4 := fun W (hW : Below w3.heap.size w3 W) => b3 W (Below.onto hbW hW)
    have hB2 : B + 1 < w'.heap.size := cell_lt (b3 _ (Below.refl _ _)).2.1
    clear hS cT g0 g1 g2 g3 g4 g5 b3
    go_wp2_with fail
    refine wp_region_quiet_last (by simp) (by kernel_rfl) (by kernel_rfl) (by kernel_rfl) ?_
    dsimp only [List.dropLast, List.getLast]
    repeat (go_big_quiet_step (fail))
    refine wpQuiet_nil ?_
    intro _ hw'
    obtain ⟨⟨dq, osq⟩, hw''⟩ := hw'
    subst hw''
    have hb5 := below_regrown w3 dq osq
    have x5 := x3.below hb5
    have HB5 : Hid (Below w.heap.size w (grow (redrawn w3 dq) osq)) := Below.onto HB3.out hb5
    obtain ⟨⟨k0, k1, kf⟩, k2, k3, kg⟩ := b4 _ hb5
    have v0 := jcells hb5 s0
    have v1 := jcells hb5 s1
    have u0 := jcells hb5 t0
    have u1 := jcells hb5 t1
    have hlen := x5.tl_len
    have hno : ∀ y ∈ o.tl, sqI A.st y.k ≠ sqI A.st m.k := fun y hy e => by
      have h1 := x5.ok.kT y (x5.tl_mem hy).1
      have h2 := x5.ok.bd
      have h3 := HK.out
      have := sq_inj (s := A.st) (a := y.k) (b := m.k) (by omega) (by omega) e
      omega
    obtain ⟨w6, hrun, hmp, hbu, hsz, hoth⟩ := x5.mp.store (m := { m with is := 3 }) (by omega) hno
    unfold msV at hrun
    simp only at hrun
    rw [HK.out] at hrun
    clear r0 r1 r2 r3 r4 r5 rm b4 s0 s1 t0 t1 hlen hno
    generalize grow (redrawn w3 dq) osq = w5 at *
    have hpb : o.p ≠ o.bm := x5.ne.2.2
    have hlp : o.p < w.heap.size := E.out.pt.lt
    have hlm : o.bm < w.heap.size := E.out.mp.lt
    have pt6 := x5.pt.same (hoth o.p hpb)
    have oth6 : ∀ b i v, b ≠ o.bm → w5.cell? ⟨b, i, none⟩ = some v → w6.cell? ⟨b, i, none⟩ = some v := fun b i v hne h => (World.cell?_of_block (w := w5) (a := ⟨b, i, none⟩) (hoth b hne)).trans h
    have fz6 : ∀ b i, b ≠ o.bm → w6.frozen? ⟨b, i, none⟩ = w5.frozen? ⟨b, i, none⟩ := fun b i hne => World.frozen?_of_block (w := w5) (a := ⟨b, i, none⟩) (hoth b hne)
    have hsw := HB.out.size
    have hs2 : w.heap.size ≤ bs ∧ w.heap.size ≤ bt := by omega
    have a0 := oth6 _ _ _ (by omega) k0
    have a1 := oth6 _ _ _ (by omega) k1
    have a2 := oth6 _ _ _ (by omega) k2
    have a3 := oth6 _ _ _ (by omega) k3
    have a4 := oth6 _ _ _ (by omega) v0
    have a5 := oth6 _ _ _ (by omega) v1
    have a6 := oth6 _ _ _ (by omega) u0
    have a7 := oth6 _ _ _ (by omega) u1
    have af : ∀ i, w6.frozen? ⟨B, i, none⟩ = false := fun i => (fz6 _ _ (by omega)).trans (kf i)
    have ag : ∀ i, w6.frozen? ⟨B + 1, i, none⟩ = false := fun i => (fz6 _ _ (by omega)).trans (kg i)
    have d0 := x5.pt.at_ (plN (sqI A.st A.h))  (by have := plN_lt (sqI A.st A.h); omega)
    have e0 := (pt6.at_ (plN (sqI A.st A.h) + 0) (by have := plN_lt (sqI A.st A.h); omega))
    rw [Nat.add_zero] at e0
    have e1 := (pt6.at_ (plN (sqI A.st A.h) + 1) (by have := plN_lt (sqI A.st A.h); omega))
    have e2 := (pt6.at_ (plN (sqI A.st A.h) + 2) (by have := plN_lt (sqI A.st A.h); omega))
    have e3 := (pt6.at_ (plN (sqI A.st A.h) + 3) (by have := plN_lt (sqI A.st A.h); omega))
    have e4 := (pt6.at_ (plN (sqI A.st A.h) + 4) (by have := plN_lt (sqI A.st A.h); omega))
    have e5 := (pt6.at_ (plN (sqI A.st A.h) + 5) (by have := plN_lt (sqI A.st A.h); omega))
    have ef := pt6.fz
    have hpl := plN_lt (sqI A.st A.h)
    have pt7 := pt6.set6 (i := plN (sqI A.st A.h)) (by omega) (.int .u64 0) (.int .i64 0) (.int .u64 0) (.bool false) (.int .i64 0) (.int .i64 0)
    have f3 : upd6 o.f (plN (sqI A.st A.h)) (.int .u64 0) (.int .i64 0) (.int .u64 0) (.bool false) (.int .i64 0) (.int .i64 0) 3 = .int .u64 (sqI A.st A.h) := by rw [upd6_ne (by omega), x5.lf.f3]
    have bu7 := set6_but (w := w6) (p := o.p) (i := plN (sqI A.st A.h)) (v0 := .int .u64 0) (v1 := .int .i64 0) (v2 := .int .u64 0) (v3 := .bool false) (v4 := .int .i64 0) (v5 := .int .i64 0)
    have hcl := Lf.take x5.lf x5.ok HP.out (.int .u64 0) (.int .i64 0) (.int .u64 0) (.bool false) (.int .i64 0) (.int .i64 0)
    rw [HK.out] at hcl
    have hwr : IntKind.u64.wrap (sqI A.st A.h + 1) = sqI A.st (A.h + 1) := by rw [IntKind.wrap_u64]; exact sqI_succ _ _
    obtain ⟨w7, hw7⟩ : ∃ w7, ((((((w6.setCell ⟨o.p, plN (sqI A.st A.h), none⟩ (.int .u64 0)).setCell ⟨o.p, plN (sqI A.st A.h) + 1, none⟩ (.int .i64 0)).setCell ⟨o.p, plN (sqI A.st A.h) + 2, none⟩ (.int .u64 0)).setCell ⟨o.p, plN (sqI A.st A.h) + 3, none⟩ (.bool false)).setCell ⟨o.p, plN (sqI A.st A.h) + 4, none⟩ (.int .i64 0)).setCell ⟨o.p, plN (sqI A.st A.h) + 5, none⟩ (.int .i64 0)) = w7 := ⟨_, rfl⟩
    rw [hw7] at pt7 bu7
    have z3 := (pt7.at_ 3 (by decide)).trans (congrArg some f3)
    have zf := pt7.fz
    have pt8 := pt7.set (i := 3) (by decide) (.int .u64 (sqI A.st (A.h + 1)))
    have bu8 := bu7.setCell (p := ⟨o.p, 3, none⟩) rfl (.int .u64 (sqI A.st (A.h + 1)))
    obtain ⟨w8, hw8⟩ : ∃ w8, w7.setCell ⟨o.p, 3, none⟩ (.int .u64 (sqI A.st (A.h + 1))) = w8 := ⟨_, rfl⟩
    rw [hw8] at pt8 bu8
    have oth8 : ∀ b i v, b ≠ o.p → w6.cell? ⟨b, i, none⟩ = some v → w8.cell? ⟨b, i, none⟩ = some v := fun b i v hne h => bu8.cell h hne
    have fz8 : ∀ b i, b < w.heap.size + 1000000000 → b ≠ o.p → w8.frozen? ⟨b, i, none⟩ = w6.frozen? ⟨b, i, none⟩ := fun b i _ hne => by rw [← hw8, ← hw7, fz_set, set6_fz]
    have c0 := oth8 _ _ _ (by omega) a0
    have c1 := oth8 _ _ _ (by omega) a1
    have c2 := oth8 _ _ _ (by omega) a2
    have c3 := oth8 _ _ _ (by omega) a3
    have c4 := oth8 _ _ _ (by omega) a4
    have c5 := oth8 _ _ _ (by omega) a5
    have c6 := oth8 _ _ _ (by omega) a6
    have c7 := oth8 _ _ _ (by omega) a7
    have cf : ∀ i, w8.frozen? ⟨B, i, none⟩ = false := fun i => by rw [← hw8, ← hw7, fz_set, set6_fz]; exact af i
    have cg : ∀ i, w8.frozen? ⟨B + 1, i, none⟩ = false := fun i => by rw [← hw8, ← hw7, fz_set, set6_fz]; exact ag i
    have hmp8 : Mp w8 o.bm A.st (o.tl ++ [{ m with is := 3 }]) := hmp.same (bu8.block _ hmp.lt (Ne.symm hpb))
    have HG : Hid (∀ w'', But (fun i => i = B ∨ i = B + 1) w8 w'' → Goes w o w'' (takeA A)) := fun w'' h =>
      Goes.took E.out HB5.out HP.out ((hbu.mono fun i hi => Or.inr hi).trans (bu8.mono fun i hi => Or.inl hi)) pt8 hcl hmp8 (B := B) (by omega) h
    clear d0 a0 a1 a2 a3 a4 a5 a6 a7 af ag oth6 oth8 fz6 fz8 hcl hmp hmp8 hbu bu7 bu8 pt6 pt8 hoth hsz k0 k1 k2 k3 kf kg v0 v1 u0 u1 f3
    have ne1 : bs ≠ B ∧ bs ≠ B + 1 ∧ bt ≠ B ∧ bt ≠ B + 1 := by omega
    intro K hK
    go_simp
    refine hK _ _ ?_
    clear hK hrun
    go_wp2_with fail
    clear e0 e1 e2 e3 e4 e5 ef z3 zf hw7 hw8 hwr
    have toS : ∀ W, But (fun i => i = B ∨ i = B + 1) w8 W → W.cell? ⟨bs, 0, none⟩ = some (.int .i64 m.n) ∧ W.cell? ⟨bs, 1, none⟩ = some (.int .u64 m.g) ∧ W.cell? ⟨bt, 0, none⟩ = some (.int .u64 (sqI A.st A.h)) ∧ W.cell? ⟨bt, 1, none⟩ = some (.int .u64 A.ep) :=
      fun W h => ⟨h.cell c4 (by omega), h.cell c5 (by omega), h.cell c6 (by omega), h.cell c7 (by omega)⟩
    go_region_held3 (fun W => W.cell? ⟨bs, 0, none⟩ = some (.int .i64 m.n) ∧ W.cell? ⟨bs, 1, none⟩ = some (.int .u64 m.g) ∧ W.cell? ⟨bt, 0, none⟩ = some (.int .u64 (sqI A.st A.h)) ∧ W.cell? ⟨bt, 1, none⟩ = some (.int .u64 A.ep)) (first | assumption | (refine toS _ ?_; repeat (first | exact But.refl _ _ | refine But.drew ?_ | refine But.setCell ?_ (by first | exact .inl rfl | exact .inr rfl) _))) (fail)
    go_wp2_with fail
    refine bodyPost_ret (v := .tuple #[slV m.n m.g, tkV (sqI A.st A.h) A.ep, .int .i64 0]) (by simp [results, Try.results13, go_sem, c0, c1, c2, c3, slV, tkV]) rfl ⟨rfl, HG.out _ ?_⟩
    exact ((((But.refl _ _).drew.setCell (p := ⟨B, 0, none⟩) (.inl rfl) _).setCell (p := ⟨B, 1, none⟩) (.inl rfl) _).setCell (p := ⟨B + 1, 0, none⟩) (.inr rfl) _).setCell (p := ⟨B + 1, 1, none⟩) (.inr rfl) _
  · go_region_held3 (fun W => W.cell? ⟨o.p, plN (sqI A.st A.h), none⟩ = some (.int .u64 (sqI A.st A.h)) ∧ W.cell? ⟨o.p, plN (sqI A.st A.h) + 1, none⟩ = some (.int .i64 m.n) ∧ W.cell? ⟨o.p, plN (sqI A.st A.h) + 2, none⟩ = some (.int .u64 m.g)) (first | assumption | exact hS _ (by repeat (first | assumption | exact Below.refl _ _ | refine jdrew ?_ | refine jalloc ?_ _)))
      ((refine (cT _ (by repeat (first | assumption | exact Below.refl _ _ | refine jdrew ?_ | refine jalloc ?_ _))).mono ?_; rintro v w3 ⟨rfl, rfl⟩))
    all_goals (refine ⟨_, _, rfl, rfl, (by repeat (first | assumption | exact Below.refl _ _ | refine jdrew ?_ | refine jalloc ?_ _)), ?_⟩)
    all_goals (refine ⟨by omega, by omega, ?_, ?_, ?_, ?_⟩ <;> first | exact (j3 _ _ _ _ _ _ _ _ _ _).1.1 | exact (j3 _ _ _ _ _ _ _ _ _ _).1.2 | exact (j3 _ _ _ _ _ _ _ _ _ _).2.1.1 | exact (j3 _ _ _ _ _ _ _ _ _ _).2.1.2 | exact (j3 _ _ _ _ _ _ _ _ _ _).2.2.1 | exact (j3 _ _ _ _ _ _ _ _ _ _).2.2.2)
end Go.Proofs.Ytilahfomiofgcaa
