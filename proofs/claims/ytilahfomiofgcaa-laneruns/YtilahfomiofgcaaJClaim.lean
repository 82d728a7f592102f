/- Claim. -/
import Derived.Test.YtilahfomiofgcaaJActs
import Derived.Test.YtilahfomiofgcaaJMem2
namespace Go.Proofs.Ytilahfomiofgcaa
open Go.RowKit Go.Sort
set_option maxRecDepth 100000

/-- a lane is another one now: where it lies, nothing else has changed -/
def Goes (w : World) (o : Lo) (w' : World) (A' : La) : Prop := ∃ o', o'.p = o.p ∧ Lx w' o' A' ∧ But o.has w w' ∧ ∀ b, o'.has b → o.has b ∨ w.heap.size ≤ b
theorem Goes.stay {w w' : World} {o : Lo} {A : La} (x : Lx w o A) (hb : Below w.heap.size w w') : Goes w o w' A := ⟨o, rfl, x.below hb, But.of hb, fun _ h => .inl h⟩
theorem Lo.hasP (o : Lo) : o.has o.p := .inl rfl
theorem Lo.hasM (o : Lo) : o.has o.bm := .inr (.inl rfl)
/-- its block alone was written -/
theorem Lx.wrote {w w' : World} {o : Lo} {A A' : La} (x : Lx w o A) {f : Nat → Value} (hb : But (fun i => i = o.p) w w') (pt : Pt w' o.p f) (lf : Lf f A' o.bm o.hv) (hs : A'.st = A.st) (hT : A'.T = A.T) (ok : A'.Ok) : Lx w' { o with f := f } A' := by
  obtain ⟨n1, n2, n3⟩ := x.ne
  refine ⟨pt, lf, ?_, ?_, ?_, ?_, x.ne, ok⟩
  · rw [hs]; exact x.mp.same (hb.block _ x.mp.lt (Ne.symm n3))
  · rw [hs]
    refine own_block x.hd fun b hbk => hb.block b (x.hd.lt b hbk).2 ?_
    have := (x.hd.lt b hbk).1
    omega
  · rw [hT]; exact x.tp
  · rw [hT]; exact x.hp
theorem Goes.wrote {w w1 w' w'' : World} {o : Lo} {A A' : La} (x0 : Lx w o A) (h1 : Below w.heap.size w w1) {f : Nat → Value} (hb : But (fun i => i = o.p) w1 w') (pt : Pt w' o.p f) (lf : Lf f A' o.bm o.hv) (hs : A'.st = A.st) (hT : A'.T = A.T) (ok : A'.Ok)
    {B : Nat} (hB : w.heap.size ≤ B) (hb2 : But (fun i => i = B) w' w'') : Goes w o w'' A' := by
  have x := x0.below h1
  refine ⟨{ o with f := f }, rfl, (x.wrote hb pt lf hs hT ok).but hb2 (fun b hh e => ?_), ((But.of h1).onto hb (fun i hi => .inl (by rw [hi]; exact o.hasP))).onto hb2 (fun i hi => .inr (by omega)), fun _ h => .inl h⟩
  have : b < w.heap.size := x0.lt (b := b) hh
  omega
theorem set1_but {w w' : World} {p i : Nat} {v : Value} (h : But (fun b => b = p) w w') : But (fun b => b = p) w (w'.setCell ⟨p, i, none⟩ v) := h.setCell (p := ⟨p, i, none⟩) rfl v
theorem set6_ne {w : World} {p i b k : Nat} {v0 v1 v2 v3 v4 v5 : Value} (h : b ≠ p) : ((((((w.setCell ⟨p, i, none⟩ v0).setCell ⟨p, i + 1, none⟩ v1).setCell ⟨p, i + 2, none⟩ v2).setCell ⟨p, i + 3, none⟩ v3).setCell ⟨p, i + 4, none⟩ v4).setCell ⟨p, i + 5, none⟩ v5).cell? ⟨b, k, none⟩ = w.cell? ⟨b, k, none⟩ := by
  rw [cell_set_ne (.inl h), cell_set_ne (.inl h), cell_set_ne (.inl h), cell_set_ne (.inl h), cell_set_ne (.inl h), cell_set_ne (.inl h)]
theorem set6_fz {w : World} {p i b k : Nat} {v0 v1 v2 v3 v4 v5 : Value} : ((((((w.setCell ⟨p, i, none⟩ v0).setCell ⟨p, i + 1, none⟩ v1).setCell ⟨p, i + 2, none⟩ v2).setCell ⟨p, i + 3, none⟩ v3).setCell ⟨p, i + 4, none⟩ v4).setCell ⟨p, i + 5, none⟩ v5).frozen? ⟨b, k, none⟩ = w.frozen? ⟨b, k, none⟩ := by
  rw [fz_set, fz_set, fz_set, fz_set, fz_set, fz_set]
theorem set6_but {w : World} {p i : Nat} {v0 v1 v2 v3 v4 v5 : Value} : But (fun b => b = p) w ((((((w.setCell ⟨p, i, none⟩ v0).setCell ⟨p, i + 1, none⟩ v1).setCell ⟨p, i + 2, none⟩ v2).setCell ⟨p, i + 3, none⟩ v3).setCell ⟨p, i + 4, none⟩ v4).setCell ⟨p, i + 5, none⟩ v5) :=
  set1_but (set1_but (set1_but (set1_but (set1_but (set1_but (But.refl _ w))))))
theorem set2_but {w : World} {p i j : Nat} {v0 v1 : Value} : But (fun b => b = p) w ((w.setCell ⟨p, i, none⟩ v0).setCell ⟨p, j, none⟩ v1) := set1_but (set1_but (But.refl _ w))

theorem jcells {w w' : World} {b i : Nat} {v : Value} (hb : Below w.heap.size w w') (h : w.cell? ⟨b, i, none⟩ = some v) : w'.cell? ⟨b, i, none⟩ = some v := (hb.cell (p := ⟨b, i, none⟩) (cell_lt h)).trans h

theorem left_room {A : La} (ok : A.Ok) : (leftI A = 0) = (roomB A = false) := by
  have := ok.room
  unfold leftI roomB
  apply propext
  simp
  omega
set_option maxHeartbeats 2000000 in
theorem jclaim_no (o : Lo) (A : La) (w : World) (x : Lx w o A) (hr : roomB A = false) :
    Calls Try.prog 10 #[o.ptr] w fun v w' => v = .returned (.tuple #[tkV 0 0, .int .i64 81]) ∧ Below w.heap.size w w' := by
  have hB := (Below.refl _ w).alloc (Nat.le_refl _) (.cells #[.int .u64 0, .int .u64 0] 34)
  have b2 := fun W => jbox2 (w := w) (w' := W) (x := .int .u64 0) (y := .int .u64 0) (T := 34)
  have x1 := x.below hB
  obtain ⟨w1, hw1⟩ : ∃ w1, w.alloc (.cells #[.int .u64 0, .int .u64 0] 34) = w1 := ⟨_, rfl⟩
  rw [hw1] at hB x1 b2
  have cI := jis o A w1 x1
  have cL := jleft o A w1 x1
  rw [(left_room x.ok).mpr hr] at cL
  clear x x1
  go_enter Try.func10, Try.ntmps10
  go_wp2_with fail
  refine cI.mono ?_
  rintro v w' ⟨rfl, hw'⟩
  subst hw'
  go_wp2_with fail
  refine cL.mono ?_
  rintro v w2 ⟨rfl, hb⟩
  obtain ⟨k0, k1, kf⟩ := b2 w2 hb
  have HB : Hid (Below w.heap.size w w2) := Below.onto hB hb
  clear hw1 b2 hB hb cI cL
  go_wp2_with fail
  refine bodyPost_ret (v := .tuple #[tkV 0 0, .int .i64 81]) (by simp [results, Try.results10, go_sem, k0, k1, tkV]) rfl ⟨rfl, ?_⟩
  iterate 2 (refine Below.setCell ?_ (by exact Nat.le_refl _) _)
  exact HB.out

set_option maxHeartbeats 4000000 in
theorem jclaim_ok (o : Lo) (A : La) (w : World) (x : Lx w o A) (hr : roomB A = true) (hc : A.c < 1000000) :
    Calls Try.prog 10 #[o.ptr] w fun v w' => v = .returned (.tuple #[tkV (sqI A.st A.c) A.ep, .int .i64 0]) ∧ Goes w o w' (claimA A) := by
  have hB := (Below.refl _ w).alloc (Nat.le_refl _) (.cells #[.int .u64 0, .int .u64 0] 34)
  have b2 := fun W => jbox2 (w := w) (w' := W) (x := .int .u64 0) (y := .int .u64 0) (T := 34)
  have x1 := x.below hB
  have hlp : o.p < w.heap.size := x.pt.lt
  obtain ⟨w1, hw1⟩ : ∃ w1, w.alloc (.cells #[.int .u64 0, .int .u64 0] 34) = w1 := ⟨_, rfl⟩
  rw [hw1] at hB x1 b2
  have HX : Hid (Lx w1 o A) := x1
  have cI := jis o A w1 x1
  have cL := jleft o A w1 x1
  have hl : ¬ leftI A = 0 := by rw [left_room x.ok, hr]; simp
  have hcl := Lf.claim x.lf x.ok hr
  have hok := claimA_ok x.ok hc
  have hst := claimA_st A
  have E : Hid (Lx w o A) := x
  have hq0 := sqI_0 A.st A.c
  have hwr : IntKind.u64.wrap (sqI A.st A.c + 1) = sqI A.st (A.c + 1) := by rw [IntKind.wrap_u64]; exact sqI_succ _ _
  clear x x1
  obtain ⟨B, hBs⟩ : ∃ B, w.heap.size = B := ⟨_, rfl⟩
  go_enter Try.func10, Try.ntmps10
  go_wp2_with fail
  refine cI.mono ?_
  rintro v w' ⟨rfl, hw'⟩
  subst hw'
  go_wp2_with fail
  refine cL.mono ?_
  rintro v w2 ⟨rfl, hb⟩
  have x2 := HX.out.below hb
  have c5 := x2.lc.c5
  have cT := jticket o A (sqI A.st A.c) w2 x2
  unfold tkV at cT
  clear cI cL hw1
  generalize leftI A = lI at *
  go_wp2_with fail
  refine cT.mono ?_
  rintro v w3 ⟨rfl, hb3⟩
  have x3 := x2.below hb3
  have hb4 := (Below.refl _ w3).alloc (Nat.le_refl _) (.cells #[.int .u64 (sqI A.st A.c), .int .u64 A.ep] 34)
  have t2 := fun W => jbox2 (w := w3) (w' := W) (x := .int .u64 (sqI A.st A.c)) (y := .int .u64 A.ep) (T := 34)
  obtain ⟨w4, hw4⟩ : ∃ w4, w3.alloc (.cells #[.int .u64 (sqI A.st A.c), .int .u64 A.ep] 34) = w4 := ⟨_, rfl⟩
  obtain ⟨D, hD⟩ : ∃ D, w3.heap.size = D := ⟨_, rfl⟩
  rw [hw4] at hb4 t2
  clear c5 cT
  go_wp2_with fail
  have x4 := x3.below hb4
  have hB4 : Below w.heap.size w w4 := Below.onto (Below.onto (Below.onto hB hb) hb3) hb4
  obtain ⟨s0, s1, sf⟩ := t2 w4 (Below.refl _ _)
  rw [hD] at s0 s1 sf
  have r0 := cell_regrown s0
  have cP := jregrown (w := w4) fun W hW => (jplace o A (sqI A.st A.c) W (x4.below hW) hq0).mono fun _ _ h' => ⟨h'.1, by rw [h'.2]; exact Below.refl _ _⟩
  clear hw4
  refine wp_region_quiet_last (by simp) (by kernel_rfl) (by kernel_rfl) (by kernel_rfl) ?_
  dsimp only [List.dropLast, List.getLast]
  repeat (go_big_quiet_step (with_reducible exact cP _ _))
  refine wpQuiet_nil ?_
  intro _ hw'
  obtain ⟨⟨dq, osq⟩, hw''⟩ := hw'
  subst hw''
  have hb5 := below_regrown w4 dq osq
  have x5 := x4.below hb5
  have hB5 := Below.onto hB4 hb5
  have t0 := jcells hb5 s0
  have t1 := jcells hb5 s1
  obtain ⟨u0, u1, uf⟩ := b2 _ (Below.onto (Below.onto (Below.onto hb hb3) hb4) hb5)
  rw [hBs] at u0 u1 uf
  have hDp : D ≠ o.p := by have := hB.size; have := hb.size; have := hb3.size; omega
  have hBp : B ≠ o.p := by omega
  have g0 := x5.cel (sqI A.st A.c) 0 (by decide)
  rw [Nat.add_zero] at g0
  have g1 := x5.cel (sqI A.st A.c) 1 (by decide)
  have g2 := x5.cel (sqI A.st A.c) 2 (by decide)
  have g3 := x5.cel (sqI A.st A.c) 3 (by decide)
  have g4 := x5.cel (sqI A.st A.c) 4 (by decide)
  have g5 := x5.cel (sqI A.st A.c) 5 (by decide)
  have gf := x5.pt.fz
  have hpl := plN_lt (sqI A.st A.c)
  have pt6 := x5.pt.set6 (i := plN (sqI A.st A.c)) (by omega) (.int .u64 (sqI A.st A.c)) (.int .i64 0) (.int .u64 0) (.bool false) (.int .i64 0) (.int .i64 0)
  have f5 : upd6 o.f (plN (sqI A.st A.c)) (.int .u64 (sqI A.st A.c)) (.int .i64 0) (.int .u64 0) (.bool false) (.int .i64 0) (.int .i64 0) 5 = .int .u64 (sqI A.st A.c) := by rw [upd6_ne (by omega), x5.lf.f5]
  have bu6 := set6_but (w := grow (redrawn w4 dq) osq) (p := o.p) (i := plN (sqI A.st A.c)) (v0 := .int .u64 (sqI A.st A.c)) (v1 := .int .i64 0) (v2 := .int .u64 0) (v3 := .bool false) (v4 := .int .i64 0) (v5 := .int .i64 0)
  rw [← set6_ne (p := o.p) (i := plN (sqI A.st A.c)) (v0 := .int .u64 (sqI A.st A.c)) (v1 := .int .i64 0) (v2 := .int .u64 0) (v3 := .bool false) (v4 := .int .i64 0) (v5 := .int .i64 0) hDp] at t0 t1
  rw [← set6_ne (p := o.p) (i := plN (sqI A.st A.c)) (v0 := .int .u64 (sqI A.st A.c)) (v1 := .int .i64 0) (v2 := .int .u64 0) (v3 := .bool false) (v4 := .int .i64 0) (v5 := .int .i64 0) hBp] at u0 u1
  have vf : ∀ i, _ := fun i => (set6_fz (b := B) (k := i) (p := o.p) (i := plN (sqI A.st A.c)) (v0 := .int .u64 (sqI A.st A.c)) (v1 := .int .i64 0) (v2 := .int .u64 0) (v3 := .bool false) (v4 := .int .i64 0) (v5 := .int .i64 0)).trans (uf i)
  clear x5 uf b2 t2 r0 cP hb3 hb4 hb s0 s1 sf x4 x3 x2 hb5
  generalize plN (sqI A.st A.c) = pq at *
  generalize grow (redrawn w4 dq) osq = w5 at *
  obtain ⟨w6, hw6⟩ : ∃ w6, ((((((w5.setCell ⟨o.p, pq, none⟩ (.int .u64 (sqI A.st A.c))).setCell ⟨o.p, pq + 1, none⟩ (.int .i64 0)).setCell ⟨o.p, pq + 2, none⟩ (.int .u64 0)).setCell ⟨o.p, pq + 3, none⟩ (.bool false)).setCell ⟨o.p, pq + 4, none⟩ (.int .i64 0)).setCell ⟨o.p, pq + 5, none⟩ (.int .i64 0)) = w6 := ⟨_, rfl⟩
  rw [hw6] at t0 t1 u0 u1 pt6 bu6
  have vf6 : ∀ i, w6.frozen? ⟨B, i, none⟩ = false := fun i => hw6 ▸ vf i
  clear vf
  have k5 := (pt6.at_ 5 (by decide)).trans (congrArg some f5)
  have kf := pt6.fz
  intro K hK
  go_simp
  refine hK _ _ ?_
  clear hK hw6 g0 g1 g2 g3 g4 g5 gf hpl
  have pt7 := pt6.set (i := 5) (by decide) (.int .u64 (sqI A.st (A.c + 1)))
  have bu7 := bu6.setCell (p := ⟨o.p, 5, none⟩) rfl (.int .u64 (sqI A.st (A.c + 1)))
  rw [← cell_set_ne (b' := o.p) (i' := 5) (v := .int .u64 (sqI A.st (A.c + 1))) (.inl hDp)] at t0 t1
  rw [← cell_set_ne (b' := o.p) (i' := 5) (v := .int .u64 (sqI A.st (A.c + 1))) (.inl hBp)] at u0 u1
  have vf7 : ∀ i, (w6.setCell ⟨o.p, 5, none⟩ (.int .u64 (sqI A.st (A.c + 1)))).frozen? ⟨B, i, none⟩ = false := fun i => fz_set.trans (vf6 i)
  obtain ⟨w7, hw7⟩ : ∃ w7, w6.setCell ⟨o.p, 5, none⟩ (.int .u64 (sqI A.st (A.c + 1))) = w7 := ⟨_, rfl⟩
  rw [hw7] at t0 t1 u0 u1 pt7 bu7
  have vf8 : ∀ i, w7.frozen? ⟨B, i, none⟩ = false := fun i => hw7 ▸ vf7 i
  clear vf7 vf6
  have HG : Hid (∀ w'', But (fun i => i = B) w7 w'' → Goes w o w'' (claimA A)) := fun w'' h => Goes.wrote E.out hB5 bu7 pt7 hcl hst.1 hst.2.2.2.2.1 hok (B := B) (by omega) h
  clear pt6 pt7 bu6 bu7 hcl hst hok
  go_wp2_with fail
  refine bodyPost_ret (v := .tuple #[tkV (sqI A.st A.c) A.ep, .int .i64 0]) (by simp [results, Try.results10, go_sem, u0, u1, tkV]) rfl ⟨rfl, HG.out _ set2_but⟩
end Go.Proofs.Ytilahfomiofgcaa
