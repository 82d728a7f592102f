/- Retire. -/
import Derived.Test.YtilahfomiofgcaaJNew
import Derived.Test.YtilahfomiofgcaaJSeq
namespace Go.Proofs.Ytilahfomiofgcaa
open Go.RowKit Go.Sort
set_option maxRecDepth 100000

theorem staI_taken {A : La} (ok : A.Ok) {q e : Int} (he : e = A.ep) (ht : takenB A q = true) : staI A q e = 5 := by
  obtain ⟨m, hm, hk, _, _⟩ := takenB_at ht
  have h1 := (ok.kT m (List.mem_of_getElem? hm)).1
  have h2 := ok.hr
  have hC : inC A q e = false := by
    cases h : inC A q e
    · rfl
    · have := inC_iff.1 h; omega
  have hP : (decide (A.h ≤ dqN A.st q) && decide (dqN A.st q < A.r)) = false := by
    have : ¬ A.h ≤ dqN A.st q := by omega
    simp [this]
  unfold staI
  rw [if_pos he, hC, hP, ht]
  simp
theorem staI_gone {A : La} {q e : Int} (he : e = A.ep) (ht : takenB A q = false) : ¬ staI A q e = 5 ∧ ¬ staI A q e = 1 := by
  unfold staI
  rw [if_pos he, ht]
  split
  · split <;> simp
  · split <;> simp
theorem staI_other {A : La} {q e : Int} (he : ¬ e = A.ep) : staI A q e = 1 := by unfold staI; rw [if_neg he]

set_option maxHeartbeats 4000000 in
theorem jret_other (o : Lo) (A : La) (q e : Int) (w : World) (x : Lx w o A) (q0 : 0 ≤ q) (q1 : q < 18446744073709551616) (he : ¬ e = A.ep) :
    Calls Try.prog 14 #[o.ptr, tkV q e] w fun v w' => v = .returned (.tuple #[slV 0 0, .bool false, .int .i64 0]) ∧ Below w.heap.size w w' := by
  have hB := ((Below.refl _ w).alloc (Nat.le_refl _) (.cells #[.int .u64 q, .int .u64 e] 34)).alloc (by simp) (.cells #[.int .i64 0, .int .u64 0] 36)
  have b2 := fun W => jtwo (w := w) (w' := W) (x := .int .u64 q) (y := .int .u64 e) (u := .int .i64 0) (v := .int .u64 0) (T := 34) (U := 36)
  have x1 := x.below hB
  obtain ⟨w1, hw1⟩ : ∃ w1, (w.alloc (.cells #[.int .u64 q, .int .u64 e] 34)).alloc (.cells #[.int .i64 0, .int .u64 0] 36) = w1 := ⟨_, rfl⟩
  rw [hw1] at hB x1 b2
  obtain ⟨B, hBs⟩ : ∃ B, w.heap.size = B := ⟨_, rfl⟩
  rw [hBs] at b2
  obtain ⟨⟨p0, p1, _⟩, p2, p3, _⟩ := b2 w1 (Below.refl _ _)
  have cI := jis o A w1 x1
  have cS := jstate o A q e w1 x1 q0 q1
  rw [staI_other he] at cS
  clear x x1
  unfold tkV at *
  go_enter Try.func14, Try.ntmps14
  go_wp2_with fail
  refine cI.mono ?_
  rintro v w' ⟨rfl, hw'⟩
  subst hw'
  go_wp2_with fail
  refine cS.mono ?_
  rintro v w2 ⟨rfl, hb⟩
  obtain ⟨⟨k0, k1, kf⟩, k2, k3, kg⟩ := b2 w2 hb
  have HB : Hid (Below w.heap.size w w2) := Below.onto hB hb
  clear hw1 b2 hB hb cI cS p0 p1 p2 p3
  go_wp2_with fail
  refine bodyPost_ret (v := .tuple #[slV 0 0, .bool false, .int .i64 0]) (by simp [results, Try.results14, go_sem, k2, k3, slV]) rfl ⟨rfl, ?_⟩
  iterate 2 (refine Below.setCell ?_ (by show _ ≤ B + 1; omega) _)
  exact HB.out
set_option maxHeartbeats 4000000 in
theorem jret_gone (o : Lo) (A : La) (q e : Int) (w : World) (x : Lx w o A) (q0 : 0 ≤ q) (q1 : q < 18446744073709551616) (he : e = A.ep) (ht : takenB A q = false) :
    Calls Try.prog 14 #[o.ptr, tkV q e] w fun v w' => v = .returned (.tuple #[slV 0 0, .bool false, .int .i64 82]) ∧ Below w.heap.size w w' := by
  have hB := ((Below.refl _ w).alloc (Nat.le_refl _) (.cells #[.int .u64 q, .int .u64 e] 34)).alloc (by simp) (.cells #[.int .i64 0, .int .u64 0] 36)
  have b2 := fun W => jtwo (w := w) (w' := W) (x := .int .u64 q) (y := .int .u64 e) (u := .int .i64 0) (v := .int .u64 0) (T := 34) (U := 36)
  have x1 := x.below hB
  obtain ⟨w1, hw1⟩ : ∃ w1, (w.alloc (.cells #[.int .u64 q, .int .u64 e] 34)).alloc (.cells #[.int .i64 0, .int .u64 0] 36) = w1 := ⟨_, rfl⟩
  rw [hw1] at hB x1 b2
  obtain ⟨B, hBs⟩ : ∃ B, w.heap.size = B := ⟨_, rfl⟩
  rw [hBs] at b2
  obtain ⟨⟨p0, p1, _⟩, p2, p3, _⟩ := b2 w1 (Below.refl _ _)
  have cI := jis o A w1 x1
  have cS := jstate o A q e w1 x1 q0 q1
  obtain ⟨g1, g2⟩ := staI_gone he ht
  generalize staI A q e = s at *
  clear x x1 he
  unfold tkV at *
  go_enter Try.func14, Try.ntmps14
  go_wp2_with fail
  refine cI.mono ?_
  rintro v w' ⟨rfl, hw'⟩
  subst hw'
  go_wp2_with fail
  refine cS.mono ?_
  rintro v w2 ⟨rfl, hb⟩
  obtain ⟨⟨k0, k1, kf⟩, k2, k3, kg⟩ := b2 w2 hb
  have HB : Hid (Below w.heap.size w w2) := Below.onto hB hb
  clear hw1 b2 hB hb cI cS p0 p1 p2 p3
  go_wp2_with fail
  refine bodyPost_ret (v := .tuple #[slV 0 0, .bool false, .int .i64 82]) (by simp [results, Try.results14, go_sem, k2, k3, slV]) rfl ⟨rfl, ?_⟩
  iterate 2 (refine Below.setCell ?_ (by show _ ≤ B + 1; omega) _)
  exact HB.out

/-- looked up without asking whether it is there -/
theorem Lx.looked2 {w : World} {o : Lo} {A : La} (x : Lx w o A) {m : Ms} (hmt : m ∈ o.tl) : ∀ W, W.heap[o.bm]? = w.heap[o.bm]? → (Instr.lookup 54 (.map (some o.bm)) (.int .u64 (sqI A.st m.k)) false).run Try.prog W = .ok (msV A.st m) W := fun W hW => by
  have hl : o.tl.length ≤ 1000 := by have := x.tl_len; omega
  simpa using (x.mp.same hW).look hl hmt x.tl_k false

theorem perm_out {U V X Y : List Ms} {m : Ms} (h : (U ++ m :: V).Perm (X ++ m :: Y)) : (U ++ V).Perm (X ++ Y) := by
  have h1 := (List.perm_middle (a := m) (l₁ := U) (l₂ := V)).symm.trans (h.trans (List.perm_middle (a := m) (l₁ := X) (l₂ := Y)))
  exact h1.cons_inv
theorem Lx.retTwo {w w' : World} {o : Lo} {A : La} (x : Lx w o A) {q e : Int} (he : e = A.ep ∧ takenB A q = true) (h2 : A.two = true) {m : Ms} (hm : A.T[tkI A q]? = some m) (h3 : m.is = 3) {U V : List Ms} (et : o.tl = U ++ m :: V)
    (mp : Mp w' o.bm A.st (U ++ V)) (hoth : ∀ i, i ≠ o.bm → w'.heap[i]? = w.heap[i]?) : Lx w' { o with tl := U ++ V } (retA A q e) := by
  have es : retA A q e = { A with T := A.T.eraseIdx (tkI A q) } := by unfold retA; rw [if_pos he, if_pos h2]
  obtain ⟨n1, n2, n3⟩ := x.ne
  have ok := retA_ok x.ok q e
  rw [es] at ok ⊢
  have hsp := split_at hm
  have hlt := (List.getElem?_eq_some_iff.1 hm).1
  have her : A.T.eraseIdx (tkI A q) = A.T.take (tkI A q) ++ A.T.drop (tkI A q + 1) := List.eraseIdx_eq_take_drop_succ _ _
  refine ⟨x.pt.same (hoth _ n3), ⟨x.lf.f0, x.lf.f1, x.lf.f2, x.lf.f3, x.lf.f4, x.lf.f5, x.lf.rg, x.lf.cm, x.lf.ch⟩, mp, own_block x.hd fun b hb => hoth b (by have := (x.hd.lt b hb).1; omega), ?_, ?_, x.ne, ok⟩
  · have h4 := x.tp
    rw [et, hsp, List.filter_append, List.filter_cons_of_pos (by simp [is3, h3])] at h4
    simp only
    rw [her, List.filter_append]
    exact perm_out h4
  · have h4 := x.hp
    rw [hsp, List.filter_append, List.filter_cons_of_neg (by simp [is4, h3])] at h4
    simp only
    rw [her, List.filter_append]
    exact h4
theorem Lx.retOne {w w' : World} {o : Lo} {A : La} (x : Lx w o A) {q e : Int} (he : e = A.ep ∧ takenB A q = true) (h2 : A.two = false) {m : Ms} (hm : A.T[tkI A q]? = some m) (h3 : m.is = 3) {U V : List Ms} (et : o.tl = U ++ m :: V) {v : Value}
    (mp : Mp w' o.bm A.st (U ++ V)) (pt : Pt w' o.p (upd o.f 391 v)) (own : w'.ownsRow o.base 56 6 v (o.hl.length + 1) (encM A.st o.hl ++ msC A.st m)) :
    Lx w' { o with tl := U ++ V, hl := o.hl ++ [{ m with is := 4 }], hv := v, f := upd o.f 391 v } (retA A q e) := by
  have es : retA A q e = { A with T := holdL A.T (tkI A q) } := by unfold retA; rw [if_pos he, h2]; rfl
  have ok := retA_ok x.ok q e
  rw [es] at ok ⊢
  have hsp := split_at hm
  have her : holdL A.T (tkI A q) = A.T.take (tkI A q) ++ { m with is := 4 } :: A.T.drop (tkI A q + 1) := modify_at hm
  have up : ∀ i, i ≠ 391 → upd o.f 391 v i = o.f i := fun i hi => upd_ne hi
  refine ⟨pt, ⟨(up 0 (by decide)).trans x.lf.f0, (up 1 (by decide)).trans x.lf.f1, (up 2 (by decide)).trans x.lf.f2, (up 3 (by decide)).trans x.lf.f3, (up 4 (by decide)).trans x.lf.f4, (up 5 (by decide)).trans x.lf.f5, fun y hy j u hj => ?_, (up 390 (by decide)).trans x.lf.cm, upd_at o.f 391 v⟩, mp, ?_, ?_, ?_, x.ne, ok⟩
  · have hj6 : j < 6 := by have := (List.getElem?_eq_some_iff.1 hj).1; simpa [msC] using this
    have := plN_lt (sqI A.st y.k)
    refine (up _ ?_).trans (x.lf.rg y hy j u hj)
    show plN (sqI A.st y.k) + j ≠ 391
    omega
  · simp only [List.length_append, List.length_singleton, encM_app]
    have e1 : encM A.st [{ m with is := 4 }] = msC A.st m := by simp [encM, msC]
    rw [e1]
    exact own
  · have h4 := x.tp
    rw [et, hsp, List.filter_append, List.filter_cons_of_pos (by simp [is3, h3])] at h4
    simp only
    rw [her, List.filter_append, List.filter_cons_of_neg (by simp [is3])]
    exact perm_out h4
  · have h4 := x.hp
    rw [hsp, List.filter_append, List.filter_cons_of_neg (by simp [is4, h3])] at h4
    simp only
    rw [her, List.filter_append, List.filter_cons_of_pos (by simp [is4])]
    refine (h4.append_right _).trans ?_
    rw [List.append_assoc]
    exact List.Perm.append_left _ (List.perm_append_singleton _ _)

theorem Try.infoMs : (Try.prog.info? 56).map (fun i => (i.zero, i.size, i.bytes)) = some (some msZ, 6, 48) := by kernel_rfl
set_option maxHeartbeats 8000000 in
theorem jret_ok (o : Lo) (A : La) (q e : Int) (w : World) (x : Lx w o A) (q0 : 0 ≤ q) (q1 : q < 18446744073709551616) (he : e = A.ep) (ht : takenB A q = true) :
    Calls Try.prog 14 #[o.ptr, tkV q e] w fun v w' => v = .returned (.tuple #[slV (retS A q e).1 (retS A q e).2, .bool A.two, .int .i64 0]) ∧ Goes w o w' (retA A q e) := by
  obtain ⟨m, hm, hk, h3, hlt⟩ := takenB_at ht
  have hmt : m ∈ o.tl := (x.tp.mem_iff).2 (List.mem_filter.2 ⟨List.mem_of_getElem? hm, by simp [is3, h3]⟩)
  have hq : sqI A.st m.k = q := by rw [hk]; exact sq_dq q0 q1
  have hB := ((Below.refl _ w).alloc (Nat.le_refl _) (.cells #[.int .u64 q, .int .u64 e] 34)).alloc (by simp) (.cells #[.int .i64 0, .int .u64 0] 36)
  have b2 := fun W => jtwo (w := w) (w' := W) (x := .int .u64 q) (y := .int .u64 e) (u := .int .i64 0) (v := .int .u64 0) (T := 34) (U := 36)
  have x1 := x.below hB
  obtain ⟨w1, hw1⟩ : ∃ w1, (w.alloc (.cells #[.int .u64 q, .int .u64 e] 34)).alloc (.cells #[.int .i64 0, .int .u64 0] 36) = w1 := ⟨_, rfl⟩
  rw [hw1] at hB x1 b2
  obtain ⟨B, hBs⟩ : ∃ B, w.heap.size = B := ⟨_, rfl⟩
  rw [hBs] at b2
  obtain ⟨⟨p0, p1, _⟩, p2, p3, _⟩ := b2 w1 (Below.refl _ _)
  have cI := jis o A w1 x1
  have cS := jstate o A q e w1 x1 q0 q1
  rw [staI_taken x.ok he ht] at cS
  have E : Hid (Lx w o A) := x
  have HX : Hid (Lx w1 o A) := x1
  have HM : Hid (A.T[tkI A q]? = some m ∧ m.is = 3 ∧ m ∈ o.tl ∧ sqI A.st m.k = q ∧ m.k = dqN A.st q) := ⟨hm, h3, hmt, hq, hk⟩
  have HE : Hid (e = A.ep ∧ takenB A q = true) := ⟨he, ht⟩
  clear x x1 he ht hm h3 hmt hq hk hlt
  unfold tkV at *
  go_enter Try.func14, Try.ntmps14
  go_wp2_with fail
  refine cI.mono ?_
  rintro v w' ⟨rfl, hw'⟩
  subst hw'
  go_wp2_with fail
  refine cS.mono ?_
  rintro v w2 ⟨rfl, hb⟩
  have x2 := HX.out.below hb
  have hL := x2.looked2 HM.out.2.2.1
  unfold msV at hL
  rw [HM.out.2.2.2.1] at hL
  have b3 := fun W (hW : Below w2.heap.size w2 W) => b2 W (Below.onto hb hW)
  have HB2 : Hid (Below w.heap.size w w2) := Below.onto hB hb
  have hS : ∀ W, Below w2.heap.size w2 W → W.cell? ⟨o.p, 390, none⟩ = some (.map (some o.bm)) ∧ W.cell? ⟨B, 0, none⟩ = some (.int .u64 q) ∧ (Instr.lookup 54 (.map (some o.bm)) (.int .u64 q) false).run Try.prog W = .ok (.agg #[.int .u64 q, .int .i64 m.n, .int .u64 m.g, .bool m.laid, .int .i64 m.tk, .int .i64 m.sp]) W :=
    fun W hW => ⟨(x2.below hW).lc.cm, (b3 W hW).1.1, hL W (hW.block _ x2.mp.lt)⟩
  clear hw1 b2 hB hb cI cS p0 p1 p2 p3 hL HX
  go_wp2_with fail
  go_region_held3 (fun W => W.cell? ⟨o.p, 390, none⟩ = some (.map (some o.bm)) ∧ W.cell? ⟨B, 0, none⟩ = some (.int .u64 q) ∧ (Instr.lookup 54 (.map (some o.bm)) (.int .u64 q) false).run Try.prog W = .ok (.agg #[.int .u64 q, .int .i64 m.n, .int .u64 m.g, .bool m.laid, .int .i64 m.tk, .int .i64 m.sp]) W) (first | assumption | exact hS _ (by repeat (first | exact Below.refl _ _ | refine jdrew ?_ | refine jalloc ?_ _))) (fail)
  all_goals
    have hb3 : Below w2.heap.size w2 ((w2.alloc (.cells #[.int .u64 q, .int .i64 m.n, .int .u64 m.g, .bool m.laid, .int .i64 m.tk, .int .i64 m.sp] 56)).drew) := jdrew (jalloc (Below.refl _ _) _)
    have mb : ∀ i (hi : i < 6), ((w2.alloc (.cells #[.int .u64 q, .int .i64 m.n, .int .u64 m.g, .bool m.laid, .int .i64 m.tk, .int .i64 m.sp] 56)).drew).cell? ⟨w2.heap.size, i, none⟩ = some (#[Value.int .u64 q, .int .i64 m.n, .int .u64 m.g, .bool m.laid, .int .i64 m.tk, .int .i64 m.sp][i]'(by simpa using hi)) := fun i hi => jnew_at w2 _ _ i (by simpa using hi)
    have hMl : w2.heap.size < ((w2.alloc (.cells #[.int .u64 q, .int .i64 m.n, .int .u64 m.g, .bool m.laid, .int .i64 m.tk, .int .i64 m.sp] 56)).drew).heap.size := by show _ < (World.alloc _ _).heap.size; simp
    obtain ⟨M, hM⟩ : ∃ M, w2.heap.size = M := ⟨_, rfl⟩
    generalize (w2.alloc (.cells #[.int .u64 q, .int .i64 m.n, .int .u64 m.g, .bool m.laid, .int .i64 m.tk, .int .i64 m.sp] 56)).drew = w3 at *
    rw [hM] at mb hMl
    have x3 := x2.below hb3
    have HB3 : Hid (Below w.heap.size w w3) := Below.onto HB2.out hb3
    have b4 := fun W (hW : Below w3.heap.size w3 W) => b3 W (Below.onto hb3 hW)
    have hB2 : B + 1 < M := by rw [← hM]; exact cell_lt (b3 _ (Below.refl _ _)).2.1
    have rm := cell_regrown x3.lc.cm
    have r0 := cell_regrown (b4 _ (Below.refl _ _)).1.1
    clear hS b3
    rw [hM]
    go_wp2_with fail
    refine wp_region_quiet_last (by simp) (by kernel_rfl) (by kernel_rfl) (by kernel_rfl) ?_
    dsimp only [List.dropLast, List.getLast]
    repeat (go_big_quiet_step (fail))
    refine wpQuiet_nil ?_
    intro _ hw'
    obtain ⟨⟨dq, osq⟩, hw''⟩ := hw'
    subst hw''
    have hb5 := below_regrown w3 dq osq
    have x5 := x3.below hb5
    have HB5 : Hid (Below w.heap.size w (grow (redrawn w3 dq) osq)) := Below.onto HB3.out hb5
    obtain ⟨⟨k0, k1, kf⟩, k2, k3, kg⟩ := b4 _ hb5
    have v0 := jcells hb5 (mb 0 (by decide))
    have v1 := jcells hb5 (mb 1 (by decide))
    have v2 := jcells hb5 (mb 2 (by decide))
    have v3 := jcells hb5 (mb 3 (by decide))
    have v4 := jcells hb5 (mb 4 (by decide))
    have v5 := jcells hb5 (mb 5 (by decide))
    simp only [List.getElem_toArray, List.getElem_cons_zero, List.getElem_cons_succ] at v0 v1 v2 v3 v4 v5
    have hlen := x5.tl_len
    obtain ⟨U, V, et⟩ := List.append_of_mem HM.out.2.2.1
    obtain ⟨w6, hrun, hmp, hbu, hsz, hoth⟩ := x5.mp.drop (by omega) x5.tl_k et 0
    rw [HM.out.2.2.2.1] at hrun
    clear rm r0 b4 mb hlen
    generalize grow (redrawn w3 dq) osq = w5 at *
    have hpb : o.p ≠ o.bm := x5.ne.2.2
    have hlp : o.p < w.heap.size := E.out.pt.lt
    have hlm : o.bm < w.heap.size := E.out.mp.lt
    have pt6 := x5.pt.same (hoth o.p hpb)
    have oth6 : ∀ b i v, b ≠ o.bm → w5.cell? ⟨b, i, none⟩ = some v → w6.cell? ⟨b, i, none⟩ = some v := fun b i v hne h => (World.cell?_of_block (w := w5) (a := ⟨b, i, none⟩) (hoth b hne)).trans h
    have fz6 : ∀ b i, b ≠ o.bm → w6.frozen? ⟨b, i, none⟩ = w5.frozen? ⟨b, i, none⟩ := fun b i hne => World.frozen?_of_block (w := w5) (a := ⟨b, i, none⟩) (hoth b hne)
    have a2 := oth6 _ _ _ (by omega) k2
    have a3 := oth6 _ _ _ (by omega) k3
    have m0 := oth6 _ _ _ (by omega) v0
    have m1 := oth6 _ _ _ (by omega) v1
    have m2 := oth6 _ _ _ (by omega) v2
    have m3 := oth6 _ _ _ (by omega) v3
    have m4 := oth6 _ _ _ (by omega) v4
    have m5 := oth6 _ _ _ (by omega) v5
    have ag : ∀ i, w6.frozen? ⟨B + 1, i, none⟩ = false := fun i => (fz6 _ _ (by omega)).trans (kg i)
    have c1 := (pt6.at_ 1 (by decide)).trans (by rw [x5.lf.f1])
    clear k0 k1 k2 k3 kf kg v0 v1 v2 v3 v4 v5 oth6 fz6
    intro K hK
    go_simp
    refine hK _ _ ?_
    clear hK hrun
    cases h2 : A.two
    · rw [h2] at c1
      have hrs : retS A q e = (0, 0) := by
        unfold retS
        rw [if_neg (by rw [h2]; simp)]
      obtain ⟨i0, hi, hz0, hz1, hz2⟩ := info_parts Try.infoMs
      have own6 : w6.ownsRow o.base 56 6 o.hv o.hl.length (encM A.st o.hl) := own_block x5.hd fun b hb => hoth b (by have h1 := (x5.hd.lt b hb).1; have h2 := x5.ne; omega)
      have hbs6 : o.base ≤ w6.heap.size := by
        have h4 := HB5.out.size
        rw [hsz]
        unfold Lo.base
        omega
      have ownlt : ∀ b, o.hv.ownBlock = some b → b < w.heap.size ∧ b ≠ o.p ∧ b ≠ o.bm := fun b hb => by
        have h1 := (E.out.hd.lt b hb)
        have h2 := E.out.ne
        omega
      have own7 : ((w6.alloc (.cells #[.int .u64 q, .int .i64 m.n, .int .u64 m.g, .bool m.laid, .int .i64 m.tk, .int .i64 m.sp] 56)).drew).ownsRow o.base 56 6 o.hv o.hl.length (encM A.st o.hl) := (own6.alloc _).drew
      have new7 : ∀ j u, [Value.int .u64 q, .int .i64 m.n, .int .u64 m.g, .bool m.laid, .int .i64 m.tk, .int .i64 m.sp][j]? = some u → ((w6.alloc (.cells #[.int .u64 q, .int .i64 m.n, .int .u64 m.g, .bool m.laid, .int .i64 m.tk, .int .i64 m.sp] 56)).drew).cell? ((⟨w6.heap.size, 0, none⟩ : Addr).add j) = some u := fun j u hj => by
        have hlt := (List.getElem?_eq_some_iff.1 hj)
        rw [Go.WideShapes.add_plain, Nat.zero_add]
        have := jnew_at w6 #[.int .u64 q, .int .i64 m.n, .int .u64 m.g, .bool m.laid, .int .i64 m.tk, .int .i64 m.sp] 56 j (by simpa using hlt.1)
        refine this.trans ?_
        rw [← hlt.2]
        simp
      have bu7 : But (fun b => o.hv.ownBlock = some b) w6 ((w6.alloc (.cells #[.int .u64 q, .int .i64 m.n, .int .u64 m.g, .bool m.laid, .int .i64 m.tk, .int .i64 m.sp] 56)).drew) := ((But.refl _ _).alloc _).drew
      have hs7 : ((w6.alloc (.cells #[.int .u64 q, .int .i64 m.n, .int .u64 m.g, .bool m.laid, .int .i64 m.tk, .int .i64 m.sp] 56)).drew).heap.size = w6.heap.size + 1 := by show (World.alloc _ _).heap.size = _; simp
      obtain ⟨N, hN⟩ : ∃ N, w6.heap.size = N := ⟨_, rfl⟩
      obtain ⟨w7, hw7⟩ : ∃ w7, (w6.alloc (.cells #[.int .u64 q, .int .i64 m.n, .int .u64 m.g, .bool m.laid, .int .i64 m.tk, .int .i64 m.sp] 56)).drew = w7 := ⟨_, rfl⟩
      rw [hw7] at own7 new7 bu7 hs7
      rw [hN] at new7
      have hln := x5.tl_len
      obtain ⟨v', w8, hrun8, own8, hgr, _, hloc⟩ := run_append_own_at (P := Try.prog) (w := w7) o.base 58 58 56 i0 msZ 6 48 Try.underlying58 hi hz0 hz1 hz2 rfl (by decide) o.hv o.hl.length (encM A.st o.hl) own7 ⟨N, 0, none⟩ 1 1 [.int .u64 q, .int .i64 m.n, .int .u64 m.g, .bool m.laid, .int .i64 m.tk, .int .i64 m.sp] rfl new7 (by simp [Value.oneCell']) (by unfold maxLen; omega) (by omega) (by omega)
      obtain ⟨va, vc, hv'⟩ := own_form own8
      have bu8 : But (fun b => o.hv.ownBlock = some b) w6 w8 := bu7.trans ⟨hgr.os, hgr.tape, hgr.output, hgr.size, fun k hk hne => hgr.block k hk (fun e => hne e.symm)⟩
      have pt7 := pt6.same (bu7.block o.p pt6.lt (fun h => (ownlt _ h).2.1 rfl))
      have pt8 := pt6.same (bu8.block o.p pt6.lt (fun h => (ownlt _ h).2.1 rfl))
      have h6 := (pt6.at_ 391 (by decide)).trans (by rw [x5.lf.ch])
      have h7 := (pt7.at_ 391 (by decide)).trans (by rw [x5.lf.ch])
      have h8 := (pt8.at_ 391 (by decide)).trans (by rw [x5.lf.ch])
      have h8f := pt8.fz
      have pt9 := pt8.set (i := 391) (by decide) v'
      have hmp8 : Mp w8 o.bm A.st (U ++ V) := hmp.same (bu8.block _ hmp.lt (fun h => (ownlt _ h).2.2 rfl))
      have e9 : msC A.st m = [.int .u64 q, .int .i64 m.n, .int .u64 m.g, .bool m.laid, .int .i64 m.tk, .int .i64 m.sp] := by unfold msC; rw [HM.out.2.2.2.1]
      have y := x5.retOne (w' := w8.setCell ⟨o.p, 391, none⟩ v') HE.out h2 HM.out.1 HM.out.2.1 et (hmp8.same (Below.heap_setCell _ _ _ _ (Ne.symm hpb))) pt9 (by rw [e9]; exact ownsRow_setCell_below own8 (a := ⟨o.p, 391, none⟩) x5.ne.1 _)
      have bu9 : But (fun b => o.hv.ownBlock = some b ∨ b = o.p) w6 (w8.setCell ⟨o.p, 391, none⟩ v') := (bu8.mono (T := fun b => o.hv.ownBlock = some b ∨ b = o.p) fun i hi => Or.inl hi).setCell (p := ⟨o.p, 391, none⟩) (.inr rfl) _
      have hw65 : w5.heap.size = w6.heap.size := hsz.symm
      have HG : Hid (∀ w'', But (fun i => i = B + 1) (w8.setCell ⟨o.p, 391, none⟩ v') w'' → Goes w o w'' (retA A q e)) := fun w'' h => by
        refine ⟨{ o with tl := U ++ V, hl := o.hl ++ [{ m with is := 4 }], hv := v', f := upd o.f 391 v' }, rfl, y.but h (fun b hh e => ?_), (((But.of HB5.out).onto hbu (fun i hi => .inl (by rw [hi]; exact o.hasM))).onto bu9 (fun i hi => .inl ?_)).onto h (fun i hi => .inr (by omega)), fun b hh => ?_⟩
        · rcases hh with hh | hh | hh
          · have : b = o.p := hh; omega
          · have : b = o.bm := hh; omega
          · rcases hloc with hl | hl
            · have := (ownlt b (by rw [← hl]; exact hh)).1; omega
            · have h9 : v'.ownBlock = some b := hh
              rw [hl] at h9
              have := Option.some.inj h9
              have h10 := HB5.out.size
              have h11 := cell_lt a2
              omega
        · rcases hi with hi | hi
          · exact .inr (.inr hi)
          · rw [hi]; exact o.hasP
        · rcases hh with hh | hh | hh
          · exact .inl (.inl hh)
          · exact .inl (.inr (.inl hh))
          · rcases hloc with hl | hl
            · exact .inl (.inr (.inr (by rw [← hl]; exact hh)))
            · have h9 : v'.ownBlock = some b := hh
              rw [hl] at h9
              have := Option.some.inj h9
              have h10 := HB5.out.size
              exact .inr (by omega)
      have toS : ∀ W, But (fun b => o.hv.ownBlock = some b ∨ b = o.p) w6 W → W.cell? ⟨M, 0, none⟩ = some (.int .u64 q) ∧ W.cell? ⟨M, 1, none⟩ = some (.int .i64 m.n) ∧ W.cell? ⟨M, 2, none⟩ = some (.int .u64 m.g) ∧ W.cell? ⟨M, 3, none⟩ = some (.bool m.laid) ∧ W.cell? ⟨M, 4, none⟩ = some (.int .i64 m.tk) ∧ W.cell? ⟨M, 5, none⟩ = some (.int .i64 m.sp) := fun W h => by
        have hn : ¬ (o.hv.ownBlock = some M ∨ M = o.p) := by
          rintro (h | h)
          · have := (ownlt _ h).1; omega
          · omega
        exact ⟨h.cell m0 hn, h.cell m1 hn, h.cell m2 hn, h.cell m3 hn, h.cell m4 hn, h.cell m5 hn⟩
      have nB : ¬ (o.hv.ownBlock = some (B + 1) ∨ B + 1 = o.p) := by
        rintro (h | h)
        · have := (ownlt _ h).1; omega
        · omega
      have a2' := bu9.cell a2 nB
      have a3' := bu9.cell a3 nB
      have ag' : ∀ i, (w8.setCell ⟨o.p, 391, none⟩ v').frozen? ⟨B + 1, i, none⟩ = false := fun i => (World.frozen?_of_block (w := w6) (a := ⟨B + 1, i, none⟩) (bu9.block (B + 1) (cell_lt a2) nB)).trans (ag i)
      have s7 := toS w7 (bu7.mono fun i hi => Or.inl hi)
      have s8 := toS w8 (bu8.mono fun i hi => Or.inl hi)
      have s9 := toS _ bu9
      have s6 := toS _ (But.refl _ _).drew
      clear own6 own7 own8 new7 bu7 bu8 bu9 hgr y pt6 pt7 pt8 pt9 hmp hmp8 x5 hoth hbu hloc toS hz0 hz1 hz2 hi ownlt hbs6 hs7 a2 a3 ag hw65 hsz hln
      generalize hhv : o.hv = hv at *
      go_wp2_with fail
      refine wp_region_noPanic ?_
      refine wp_region_takes_seq (by simp) [0, 1, 2, 3, 4, 5] [6, 7, 8, 9] { tmps := #[o.ptr, .agg #[.int .u64 q, .int .u64 e], undef, .pointer (some ⟨B, 0, none⟩), .pointer (some ⟨B + 1, 0, none⟩), .bool false, .int .i64 0, .pointer (some ⟨M, 0, none⟩), o.ptr, .bool true, .bool false, undef, o.ptr, .agg #[.int .u64 q, .int .u64 e], .int .i64 5, .bool true, .bool true, undef, undef, o.ptr, .pointer (some ⟨o.p, 0, none⟩), .pointer (some ⟨o.p, 390, none⟩), .map (some o.bm), .pointer (some ⟨B, 0, none⟩), .int .u64 q, .agg #[.int .u64 q, .int .i64 m.n, .int .u64 m.g, .bool m.laid, .int .i64 m.tk, .int .i64 m.sp], o.ptr, .pointer (some ⟨o.p, 0, none⟩), .pointer (some ⟨o.p, 390, none⟩), .map (some o.bm), .pointer (some ⟨B, 0, none⟩), .int .u64 q, o.ptr, .pointer (some ⟨o.p, 0, none⟩), .pointer (some ⟨o.p, 1, none⟩), .bool false, undef, undef, o.ptr, o.ptr, .pointer (some ⟨o.p, 0, none⟩), .pointer (some ⟨o.p, 391, none⟩), hv, .agg #[.int .u64 q, .int .i64 m.n, .int .u64 m.g, .bool m.laid, .int .i64 m.tk, .int .i64 m.sp], undef, undef, undef, undef, undef, undef], defers := [] } (fun W => W.cell? ⟨o.p, 391, none⟩ = some hv ∧ W.cell? ⟨M, 0, none⟩ = some (.int .u64 q) ∧ W.cell? ⟨M, 1, none⟩ = some (.int .i64 m.n) ∧ W.cell? ⟨M, 2, none⟩ = some (.int .u64 m.g) ∧ W.cell? ⟨M, 3, none⟩ = some (.bool m.laid) ∧ W.cell? ⟨M, 4, none⟩ = some (.int .i64 m.tk) ∧ W.cell? ⟨M, 5, none⟩ = some (.int .i64 m.sp)) (by kernel_rfl) (by kernel_rfl) (by kernel_rfl) (by kernel_rfl) (by kernel_rfl) (by kernel_rfl) (fun _ _ _ _ _ h => h) ⟨h6, s6⟩ (by rfl) ?_ ?_
      · dsimp only [List.dropLast]
        refine ⟨⟨_, _, _, rfl, rfl, rfl, ?_⟩, ⟨_, _, _, rfl, rfl, rfl, ?_⟩, ⟨_, _, _, rfl, rfl, rfl, ?_⟩, ⟨_, _, _, rfl, rfl, rfl, ?_⟩, ⟨_, _, _, rfl, rfl, rfl, ?_⟩, ⟨_, _, _, rfl, rfl, rfl, ?_⟩, trivial⟩
        all_goals
          rintro W ⟨z0, z1, z2, z3, z4, z5, z6⟩
          clear HG hrun8 h6 h7 h8 s6 s7 s8 s9
          go_simp
      · dsimp only [List.dropLast, List.getLast]
        unfold seqWp
        simp only [List.getElem?_toArray, List.getElem?_cons_succ, List.getElem?_cons_zero]
        intro K hK
        go_simp
        refine hK _ _ ⟨h7, s7⟩ ?_
        clear hK
        unfold seqWp
        simp only [List.getElem?_toArray, List.getElem?_cons_succ, List.getElem?_cons_zero]
        intro K hK
        refine wp_append_run (.tmp 42) (.tmp 44) 58 rfl hv (.slice (some ⟨N, 0, none⟩) 1 1) v' rfl rfl hrun8 ?_
        refine hK _ _ ⟨h8, s8⟩ ?_
        clear hrun8
        clear hK
        unfold seqWp
        simp only [List.getElem?_toArray, List.getElem?_cons_succ, List.getElem?_cons_zero]
        intro K hK
        go_simp
        refine hK _ _ ⟨h8, s8⟩ ?_
        clear hK
        unfold seqWp
        simp only [List.getElem?_toArray, List.getElem?_cons_succ, List.getElem?_cons_zero]
        intro K hK
        go_simp
        refine hK _ _ ⟨h8, s8⟩ ?_
        clear hK
        unfold seqWp lastQ
        subst hv'
        go_simp
        refine NoPanic.normal ?_
        go_wp2_with fail
        refine bodyPost_ret (v := .tuple #[slV 0 0, .bool false, .int .i64 0]) (by simp [results, Try.results14, go_sem, a2', a3', slV]) rfl ⟨by rw [hrs, h2], HG.out _ set2_but⟩
    · rw [h2] at c1
      have y := x5.retTwo HE.out h2 HM.out.1 HM.out.2.1 et hmp hoth
      have hrs : retS A q e = (m.n, m.g) := by
        unfold retS
        rw [if_pos ⟨HE.out.1, HE.out.2, h2⟩, HM.out.1]
        rfl
      have HG : Hid (∀ w'', But (fun i => i = B + 1) w6 w'' → Goes w o w'' (retA A q e)) := fun w'' h =>
        ⟨{ o with tl := U ++ V }, rfl, y.but h (fun b hh e => by have : b < w.heap.size := E.out.lt (b := b) hh; omega), ((But.of HB5.out).onto hbu (fun i hi => .inl (by rw [hi]; exact o.hasM))).onto h (fun i hi => .inr (by omega)), fun _ h => .inl h⟩
      clear y hmp hbu hoth hsz pt6 x5
      go_wp2_with fail
      refine bodyPost_ret (v := .tuple #[slV m.n m.g, .bool true, .int .i64 0]) (by simp [results, Try.results14, go_sem, a2, a3, slV]) rfl ⟨by rw [hrs, h2], HG.out _ set2_but⟩
end Go.Proofs.Ytilahfomiofgcaa
