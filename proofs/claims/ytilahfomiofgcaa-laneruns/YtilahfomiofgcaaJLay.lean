/- Lay, Publish. -/
import Derived.Test.YtilahfomiofgcaaJClaim
namespace Go.Proofs.Ytilahfomiofgcaa
open Go.RowKit Go.Sort
set_option maxRecDepth 100000

theorem staI_in {A : La} {q e : Int} (h : inC A q e = true) : staI A q e = 2 ∨ staI A q e = 3 := by
  have he := (inC_iff.1 h).1
  unfold staI
  rw [if_pos he, if_pos h]
  split
  · exact .inr rfl
  · exact .inl rfl
theorem staI_out {A : La} {q e : Int} (h : inC A q e = false) : ¬ staI A q e = 2 ∧ ¬ staI A q e = 3 := by
  unfold staI
  by_cases he : e = A.ep
  · rw [if_pos he, h]
    simp only [Bool.false_eq_true, if_false]
    split
    · simp
    · split <;> simp
  · rw [if_neg he]; simp
/-- two boxes, one behind the other -/
theorem jtwo {w w' : World} {x y u v : Value} {T U : TypeId} (hb : Below ((w.alloc (.cells #[x, y] T)).alloc (.cells #[u, v] U)).heap.size ((w.alloc (.cells #[x, y] T)).alloc (.cells #[u, v] U)) w') :
    (w'.cell? ⟨w.heap.size, 0, none⟩ = some x ∧ w'.cell? ⟨w.heap.size, 1, none⟩ = some y ∧ ∀ i, w'.frozen? ⟨w.heap.size, i, none⟩ = false) ∧ w'.cell? ⟨w.heap.size + 1, 0, none⟩ = some u ∧ w'.cell? ⟨w.heap.size + 1, 1, none⟩ = some v ∧ ∀ i, w'.frozen? ⟨w.heap.size + 1, i, none⟩ = false := by
  have e : (w.alloc (.cells #[x, y] T)).heap.size = w.heap.size + 1 := by simp
  have h2 := jbox2 (w := w.alloc (.cells #[x, y] T)) hb
  rw [e] at h2
  exact ⟨jbox2 (w := w) (T := T) (Below.onto ((Below.refl _ _).alloc (Nat.le_refl _) _) hb), h2⟩

set_option maxHeartbeats 4000000 in
theorem jlay (o : Lo) (A : La) (q e n g : Int) (w : World) (x : Lx w o A) (q0 : 0 ≤ q) (q1 : q < 18446744073709551616) :
    Calls Try.prog 11 #[o.ptr, tkV q e, .agg #[.int .i64 n, .int .u64 g]] w fun v w' => v = .returned (.int .i64 (layE A q e)) ∧ Goes w o w' (layA A q e n g) := by
  have hB := ((Below.refl _ w).alloc (Nat.le_refl _) (.cells #[.int .u64 q, .int .u64 e] 34)).alloc (by simp) (.cells #[.int .i64 n, .int .u64 g] 36)
  have b2 := fun W => jtwo (w := w) (w' := W) (x := .int .u64 q) (y := .int .u64 e) (u := .int .i64 n) (v := .int .u64 g) (T := 34) (U := 36)
  have x1 := x.below hB
  obtain ⟨w1, hw1⟩ : ∃ w1, (w.alloc (.cells #[.int .u64 q, .int .u64 e] 34)).alloc (.cells #[.int .i64 n, .int .u64 g] 36) = w1 := ⟨_, rfl⟩
  rw [hw1] at hB x1 b2
  have HX : Hid (Lx w1 o A) := x1
  obtain ⟨⟨p0, p1, _⟩, p2, p3, _⟩ := b2 w1 (Below.refl _ _)
  have cI := jis o A w1 x1
  have cS := jstate o A q e w1 x1 q0 q1
  have E : Hid (Lx w o A) := x
  clear x1
  unfold tkV at *
  cases hin : inC A q e
  · have hs := staI_out hin
    have e1 : layE A q e = 82 := by simp [layE, hin]
    have e2 : layA A q e n g = A := by simp [layA, hin]
    rw [e1, e2]
    generalize staI A q e = s at *
    obtain ⟨hs1, hs2⟩ := hs
    go_enter Try.func11, Try.ntmps11
    go_wp2_with fail
    refine cI.mono ?_
    rintro v w' ⟨rfl, hw'⟩
    subst hw'
    go_wp2_with fail
    refine cS.mono ?_
    rintro v w2 ⟨rfl, hb⟩
    go_wp2_with fail
    go_ret
    exact ⟨rfl, Goes.stay E.out (Below.onto hB hb)⟩
  · have hs := staI_in hin
    have e1 : layE A q e = 0 := by simp [layE, hin]
    rw [e1]
    have hcl := Lf.lay (n := n) (g := g) x.lf x.ok q0 q1 hin
    have hok := layA_ok x.ok q e n g
    have hst : (layA A q e n g).st = A.st ∧ (layA A q e n g).T = A.T := by simp [layA, hin]
    clear x
    obtain ⟨B, hBs⟩ : ∃ B, w.heap.size = B := ⟨_, rfl⟩
    rw [hBs] at p0 p1 p2 p3
    generalize staI A q e = s at *
    rcases hs with rfl | rfl
    all_goals
      go_enter Try.func11, Try.ntmps11
      go_wp2_with fail
      refine cI.mono ?_
      rintro v w' ⟨rfl, hw'⟩
      subst hw'
      go_wp2_with fail
      refine cS.mono ?_
      rintro v w2 ⟨rfl, hb⟩
      have x2 := HX.out.below hb
      obtain ⟨⟨k0, k1, _⟩, k2, k3, _⟩ := b2 w2 hb
      rw [hBs] at k0 k1 k2 k3
      have cP := jplace o A q w2 x2 q0
      clear cI cS hw1 p0 p1 p2 p3
      go_wp2_with fail
      refine cP.mono ?_
      rintro v w3 ⟨rfl, hw3⟩
      subst hw3
      have g1 := x2.cel q 1 (by decide)
      have g2 := x2.cel q 2 (by decide)
      have g3 := x2.cel q 3 (by decide)
      have gf := x2.pt.fz
      have hpl := plN_lt q
      have pt3 := ((x2.pt.set (i := plN q + 1) (by omega) (.int .i64 n)).set (i := plN q + 2) (by omega) (.int .u64 g)).set (i := plN q + 3) (by omega) (.bool true)
      have HG : Hid (Goes w o (((w3.setCell ⟨o.p, plN q + 1, none⟩ (.int .i64 n)).setCell ⟨o.p, plN q + 2, none⟩ (.int .u64 g)).setCell ⟨o.p, plN q + 3, none⟩ (.bool true)) (layA A q e n g)) :=
        Goes.wrote E.out (Below.onto hB hb) (set1_but (set1_but (set1_but (But.refl _ _)))) pt3 hcl hst.1 hst.2 hok (B := w.heap.size) (Nat.le_refl _) (But.refl _ _)
      clear hcl hok hst x2 cP pt3 b2 hb
      generalize plN q = pq at *
      go_wp2_with fail
      go_ret
      exact ⟨rfl, HG.out⟩

theorem lack_form (A : La) (q e : Int) : lackE A q e = 0 ∨ lackE A q e ≠ 0 := by omega
set_option maxHeartbeats 4000000 in
theorem jpub (o : Lo) (A : La) (q e t s : Int) (w : World) (x : Lx w o A) (q0 : 0 ≤ q) (q1 : q < 18446744073709551616) :
    Calls Try.prog 12 #[o.ptr, tkV q e, .agg #[.int .i64 t, .int .i64 s]] w fun v w' => v = .returned (.int .i64 (lackE A q e)) ∧ Goes w o w' (pubA A q e t s) := by
  have hB := ((Below.refl _ w).alloc (Nat.le_refl _) (.cells #[.int .u64 q, .int .u64 e] 34)).alloc (by simp) (.cells #[.int .i64 t, .int .i64 s] 38)
  have b2 := fun W => jtwo (w := w) (w' := W) (x := .int .u64 q) (y := .int .u64 e) (u := .int .i64 t) (v := .int .i64 s) (T := 34) (U := 38)
  have x1 := x.below hB
  obtain ⟨w1, hw1⟩ : ∃ w1, (w.alloc (.cells #[.int .u64 q, .int .u64 e] 34)).alloc (.cells #[.int .i64 t, .int .i64 s] 38) = w1 := ⟨_, rfl⟩
  rw [hw1] at hB x1 b2
  have HX : Hid (Lx w1 o A) := x1
  obtain ⟨⟨p0, p1, _⟩, p2, p3, _⟩ := b2 w1 (Below.refl _ _)
  have cS := jlacks o A q e w1 x1 q0 q1
  have E : Hid (Lx w o A) := x
  clear x1
  unfold tkV at *
  rcases lack_form A q e with hl | hl
  · have hcl := Lf.pub (t := t) (s := s) x.lf x.ok hl
    have hok := pubA_ok x.ok q e t s
    have hst : (pubA A q e t s).st = A.st ∧ (pubA A q e t s).T = A.T := by
      obtain ⟨m, C', _, _, _, es⟩ := pub_form x.ok (t := t) (s := s) hl
      rw [es]; exact ⟨rfl, rfl⟩
    have hwr : IntKind.u64.wrap (sqI A.st A.r + 1) = sqI A.st (A.r + 1) := by rw [IntKind.wrap_u64]; exact sqI_succ _ _
    rw [hl] at cS ⊢
    clear x
    obtain ⟨B, hBs⟩ : ∃ B, w.heap.size = B := ⟨_, rfl⟩
    rw [hBs] at p0 p1 p2 p3
    go_enter Try.func12, Try.ntmps12
    go_wp2_with fail
    refine cS.mono ?_
    rintro v w2 ⟨rfl, hb⟩
    have x2 := HX.out.below hb
    obtain ⟨⟨k0, k1, _⟩, k2, k3, _⟩ := b2 w2 hb
    rw [hBs] at k0 k1 k2 k3
    have r0 := cell_regrown k0
    have r2 := cell_regrown k2
    have r3 := cell_regrown k3
    have cP := jregrown (w := w2) fun W hW => (jplace o A q W (x2.below hW) q0).mono fun _ _ h' => ⟨h'.1, by rw [h'.2]; exact Below.refl _ _⟩
    clear cS hw1 p0 p1 p2 p3
    go_wp2_with fail
    refine wp_region_quiet_last (by simp) (by kernel_rfl) (by kernel_rfl) (by kernel_rfl) ?_
    dsimp only [List.dropLast, List.getLast]
    repeat (go_big_quiet_step (with_reducible exact cP _ _))
    refine wpQuiet_nil ?_
    intro _ hw'
    obtain ⟨⟨dq, osq⟩, hw''⟩ := hw'
    subst hw''
    have hb3 := below_regrown w2 dq osq
    have x3 := x2.below hb3
    have hB3 := Below.onto (Below.onto hB hb) hb3
    have g4 := x3.cel q 4 (by decide)
    have g5 := x3.cel q 5 (by decide)
    have gf := x3.pt.fz
    have hpl := plN_lt q
    have pt4 := (x3.pt.set (i := plN q + 4) (by omega) (.int .i64 t)).set (i := plN q + 5) (by omega) (.int .i64 s)
    have f4 : upd (upd o.f (plN q + 4) (.int .i64 t)) (plN q + 5) (.int .i64 s) 4 = .int .u64 (sqI A.st A.r) := by rw [upd_ne (by omega), upd_ne (by omega), x3.lf.f4]
    have k4 := (pt4.at_ 4 (by decide)).trans (congrArg some f4)
    have kf := pt4.fz
    have pt5 := pt4.set (i := 4) (by decide) (.int .u64 (sqI A.st (A.r + 1)))
    clear r0 r2 r3 cP x2 x3 hb hb3 b2 k0 k1 k2 k3
    generalize grow (redrawn w2 dq) osq = w3 at *
    have HG : Hid (Goes w o (((w3.setCell ⟨o.p, plN q + 4, none⟩ (.int .i64 t)).setCell ⟨o.p, plN q + 5, none⟩ (.int .i64 s)).setCell ⟨o.p, 4, none⟩ (.int .u64 (sqI A.st (A.r + 1)))) (pubA A q e t s)) :=
      Goes.wrote E.out hB3 (set1_but (set1_but (set1_but (But.refl _ _)))) pt5 hcl hst.1 hst.2 hok (B := w.heap.size) (Nat.le_refl _) (But.refl _ _)
    generalize plN q = pq at *
    obtain ⟨w4, hw4⟩ : ∃ w4, (w3.setCell ⟨o.p, pq + 4, none⟩ (.int .i64 t)).setCell ⟨o.p, pq + 5, none⟩ (.int .i64 s) = w4 := ⟨_, rfl⟩
    rw [hw4] at k4 HG
    have kf4 : ∀ i, w4.frozen? ⟨o.p, i, none⟩ = false := fun i => hw4 ▸ kf i
    clear kf pt4 pt5 hcl hst hok f4
    intro K hK
    go_simp
    refine hK _ _ ?_
    clear hK hw4 g4 g5 gf hpl
    go_wp2_with fail
    go_ret
    exact ⟨rfl, HG.out⟩
  · have e2 : pubA A q e t s = A := by simp [pubA, hl]
    rw [e2]
    clear x
    generalize lackE A q e = l at *
    go_enter Try.func12, Try.ntmps12
    go_wp2_with fail
    refine cS.mono ?_
    rintro v w2 ⟨rfl, hb⟩
    go_wp2_with fail
    go_ret
    exact ⟨rfl, Goes.stay E.out (Below.onto hB hb)⟩
end Go.Proofs.Ytilahfomiofgcaa
