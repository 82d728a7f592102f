/- First. -/
import Derived.Test.YtilahfomiofgcaaJLay
namespace Go.Proofs.Ytilahfomiofgcaa
open Go.RowKit Go.Sort
set_option maxRecDepth 100000

def smV (t s : Int) : Value := .agg #[.int .i64 t, .int .i64 s]
set_option maxHeartbeats 4000000 in
theorem jfirst_no (o : Lo) (A : La) (w : World) (x : Lx w o A) (hP : A.P = []) :
    Calls Try.prog 20 #[o.ptr] w fun v w' => v = .returned (.tuple #[smV 0 0, tkV 0 0, .bool false]) ∧ Below w.heap.size w w' := by
  have hB := ((Below.refl _ w).alloc (Nat.le_refl _) (.cells #[.int .i64 0, .int .i64 0] 38)).alloc (by simp) (.cells #[.int .u64 0, .int .u64 0] 34)
  have b2 := fun W => jtwo (w := w) (w' := W) (x := .int .i64 0) (y := .int .i64 0) (u := .int .u64 0) (v := .int .u64 0) (T := 38) (U := 34)
  have x1 := x.below hB
  obtain ⟨w1, hw1⟩ : ∃ w1, (w.alloc (.cells #[.int .i64 0, .int .i64 0] 38)).alloc (.cells #[.int .u64 0, .int .u64 0] 34) = w1 := ⟨_, rfl⟩
  rw [hw1] at hB x1 b2
  have cI := jregrown (w := w1) fun W hW => (jis o A W (x1.below hW)).mono fun _ _ h' => ⟨h'.1, by rw [h'.2]; exact Below.refl _ _⟩
  have hhr : A.h = A.r := by unfold La.h La.r; rw [hP]; rfl
  have r3 := cell_regrown x1.lc.c3
  have r4 := cell_regrown x1.lc.c4
  rw [hhr] at r3
  generalize sqI A.st A.r = qr at *
  clear x x1
  obtain ⟨B, hBs⟩ : ∃ B, w.heap.size = B := ⟨_, rfl⟩
  go_enter Try.func20, Try.ntmps20
  go_wp2_with fail
  refine wp_region_quiet_below (by kernel_rfl) (by kernel_rfl) ?_
  repeat (go_big_quiet_step (with_reducible exact cI _ _))
  refine wpQuiet_nil ?_
  intro _ hw'
  obtain ⟨⟨dq, osq⟩, hw''⟩ := hw'
  subst hw''
  have hb := below_regrown w1 dq osq
  obtain ⟨⟨k0, k1, kf⟩, k2, k3, kg⟩ := b2 _ hb
  rw [hBs] at k0 k1 k2 k3 kf kg
  have HB : Hid (Below w.heap.size w (grow (redrawn w1 dq) osq)) := Below.onto hB hb
  clear b2 hb hB cI r3 r4 hw1
  generalize grow (redrawn w1 dq) osq = w2 at *
  go_wp2_with fail
  refine bodyPost_ret (v := .tuple #[smV 0 0, tkV 0 0, .bool false]) (by simp [results, Try.results20, go_sem, k0, k1, k2, k3, smV, tkV]) rfl ⟨rfl, ?_⟩
  iterate 2 (refine Below.setCell ?_ (by show _ ≤ B + 1; omega) _)
  iterate 2 (refine Below.setCell ?_ (by exact Nat.le_of_eq hBs) _)
  exact HB.out

set_option maxHeartbeats 4000000 in
theorem jfirst_ok (o : Lo) (A : La) (w : World) (x : Lx w o A) {m : Ms} {P' : List Ms} (hP : A.P = m :: P') :
    Calls Try.prog 20 #[o.ptr] w fun v w' => v = .returned (.tuple #[smV m.tk m.sp, tkV (sqI A.st m.k) A.ep, .bool true]) ∧ Below w.heap.size w w' := by
  have hB := ((Below.refl _ w).alloc (Nat.le_refl _) (.cells #[.int .i64 0, .int .i64 0] 38)).alloc (by simp) (.cells #[.int .u64 0, .int .u64 0] 34)
  have b2 := fun W => jtwo (w := w) (w' := W) (x := .int .i64 0) (y := .int .i64 0) (u := .int .u64 0) (v := .int .u64 0) (T := 38) (U := 34)
  have x1 := x.below hB
  obtain ⟨w1, hw1⟩ : ∃ w1, (w.alloc (.cells #[.int .i64 0, .int .i64 0] 38)).alloc (.cells #[.int .u64 0, .int .u64 0] 34) = w1 := ⟨_, rfl⟩
  rw [hw1] at hB x1 b2
  have HX : Hid (Lx w1 o A) := x1
  have cI := jregrown (w := w1) fun W hW => (jis o A W (HX.out.below hW)).mono fun _ _ h' => ⟨h'.1, by rw [h'.2]; exact Below.refl _ _⟩
  have hk := (take_form x.ok hP).1
  have hne : ¬ sqI A.st A.h = sqI A.st A.r := fun e => by
    have h1 := x.ok.bd
    have h2 := x.ok.hr
    have h3 : A.P.length = P'.length + 1 := by rw [hP]; rfl
    have := sq_inj (s := A.st) (a := A.h) (b := A.r) (by omega) (by omega) e
    omega
  have r3 := cell_regrown x1.lc.c3
  have r4 := cell_regrown x1.lc.c4
  have hmem : m ∈ A.P ++ A.C := by rw [hP]; simp
  have q0 := sqI_0 A.st A.h
  rw [hk]
  have HK : Hid (m.k = A.h) := hk
  clear hk hP
  clear x x1
  obtain ⟨B, hBs⟩ : ∃ B, w.heap.size = B := ⟨_, rfl⟩
  go_enter Try.func20, Try.ntmps20
  go_wp2_with fail
  refine wp_region_quiet_below (by kernel_rfl) (by kernel_rfl) ?_
  repeat (go_big_quiet_step (with_reducible exact cI _ _))
  refine wpQuiet_nil ?_
  intro _ hw'
  obtain ⟨⟨dq, osq⟩, hw''⟩ := hw'
  subst hw''
  have hb := below_regrown w1 dq osq
  have x2 := HX.out.below hb
  have HB : Hid (Below w.heap.size w (grow (redrawn w1 dq) osq)) := Below.onto hB hb
  have b3 := fun W (hW : Below (grow (redrawn w1 dq) osq).heap.size (grow (redrawn w1 dq) osq) W) => b2 W (Below.onto hb hW)
  rw [hBs] at b3
  clear b2 hb hB cI r3 r4 hw1 HX
  generalize grow (redrawn w1 dq) osq = w2 at *
  go_wp2_with fail
  have c3 := x2.lc.c3
  obtain ⟨g0, _, _, _, g4, g5⟩ := x2.ring hmem
  rw [HK.out] at g0 g4 g5
  clear HK
  have r3 := cell_regrown c3
  have r5 := cell_regrown g4
  have r6 := cell_regrown g5
  have cP := jregrown (w := w2) fun W hW => (jplace o A (sqI A.st A.h) W (x2.below hW) q0).mono fun _ _ h' => ⟨h'.1, by rw [h'.2]; exact Below.refl _ _⟩
  have cT := jregrown (w := w2) fun W hW => jticket o A (sqI A.st A.h) W (x2.below hW)
  unfold tkV at cT
  generalize plN (sqI A.st A.h) = pq at *
  refine wp_region_quiet_tail 15 (by kernel_rfl) (by kernel_rfl) (by kernel_rfl) ?_
  simp only [List.take_succ_cons, List.take_zero, List.drop_succ_cons, List.drop_zero]
  repeat (go_big_quiet_step (first | with_reducible exact cP _ _ | with_reducible exact cT _ _))
  refine wpQuiet_nil ?_
  intro _ hw'
  obtain ⟨⟨dq, osq⟩, hw''⟩ := hw'
  subst hw''
  have hb := below_regrown w2 dq osq
  obtain ⟨⟨k0, k1, kf⟩, k2, k3, kg⟩ := b3 _ hb
  have HB3 : Hid (Below w.heap.size w (grow (redrawn w2 dq) osq)) := Below.onto HB.out hb
  clear b3 hb HB cP cT r3 r5 r6 g0 g4 g5 c3 x2
  generalize grow (redrawn w2 dq) osq = w3 at *
  unfold tailWp
  intro K hK
  go_simp
  refine hK _ _ ?_
  clear hK
  unfold tailWp
  intro K hK
  go_simp
  refine hK _ _ ?_
  clear hK
  unfold tailWp
  intro K hK
  go_simp
  refine hK _ _ ?_
  clear hK
  unfold tailWp
  go_wp2_with fail
  refine bodyPost_ret (v := .tuple #[smV m.tk m.sp, tkV (sqI A.st A.h) A.ep, .bool true]) (by simp [results, Try.results20, go_sem, k0, k1, k2, k3, smV, tkV]) rfl ⟨rfl, ?_⟩
  iterate 2 (refine Below.setCell ?_ (by show _ ≤ B + 1; omega) _)
  iterate 2 (refine Below.setCell ?_ (by exact Nat.le_of_eq hBs) _)
  exact HB3.out
end Go.Proofs.Ytilahfomiofgcaa
