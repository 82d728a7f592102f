/- A lane that nobody made refuses all. -/
import Derived.Test.YtmdoiokgfdolpaaJLane
namespace Go.Proofs.Ytmdoiokgfdolpaa
open Go.RowKit Go.Sort
set_option maxRecDepth 100000

/-- nobody's: nil, or one that New did not make -/
def Nob (w : World) (v : Value) : Prop := v = .pointer none ∨ ∃ p, v = pV p ∧ w.cell? ⟨p, 390, none⟩ = some (.map none)
theorem Nob.below {w w' : World} {v : Value} (h : Nob w v) (hb : Below w.heap.size w w') : Nob w' v := by
  rcases h with h | ⟨p, h, hc⟩
  · exact .inl h
  · exact .inr ⟨p, h, jcells hb hc⟩
theorem neq_map0 (W : World) : (binOp .neq 64 (.map none) (.map none)).run Try.prog W = .ok (.bool false) W := by
  simpa using run_neq_map_nil (P := Try.prog) W 64 _ _ none Try.underlying64
set_option maxHeartbeats 1000000 in
theorem nis (v : Value) (w : World) (h : Nob w v) : Calls Try.prog 33 #[v] w fun e w' => e = .returned (.bool false) ∧ w' = w := by
  have hn := neq_map0
  rcases h with rfl | ⟨p, rfl, hc⟩
  · go_enter Try.func33, Try.ntmps33
    go_wp2_with fail
    go_ret
    exact ⟨rfl, rfl⟩
  · go_enter Try.func33, Try.ntmps33
    go_wp2_with fail
    go_ret
    exact ⟨rfl, rfl⟩
set_option maxHeartbeats 1000000 in
theorem nclaim (v : Value) (w : World) (h : Nob w v) : Calls Try.prog 15 #[v] w fun e w' => e = .returned (.tuple #[tkV 0 0, .int .i64 4]) ∧ Below w.heap.size w w' := by
  have hB := (Below.refl _ w).alloc (Nat.le_refl _) (.cells #[.int .u64 0, .int .u64 0] 34)
  have cI := nis v _ (h.below hB)
  clear h
  go_enter Try.func15, Try.ntmps15
  go_wp2_with fail
  refine cI.mono ?_
  rintro v w' ⟨rfl, hw'⟩
  subst hw'
  go_wp2_with fail
  exact bodyPost_ret (v := .tuple #[tkV 0 0, .int .i64 4]) (by simp [results, Try.results15, go_sem, tkV]) rfl ⟨rfl, hB⟩
set_option maxHeartbeats 1000000 in
theorem ntake (v : Value) (w : World) (h : Nob w v) : Calls Try.prog 17 #[v] w fun e w' => e = .returned (.tuple #[slV 0 0, tkV 0 0, .int .i64 4]) ∧ Below w.heap.size w w' := by
  have hB := jalloc (jalloc (Below.refl _ w) (.cells #[.int .i64 0, .int .u64 0] 36)) (.cells #[.int .u64 0, .int .u64 0] 34)
  have cI := nis v _ (h.below hB)
  clear h
  go_enter Try.func17, Try.ntmps17
  go_wp2_with fail
  refine cI.mono ?_
  rintro v w' ⟨rfl, hw'⟩
  subst hw'
  go_wp2_with fail
  exact bodyPost_ret (v := .tuple #[slV 0 0, tkV 0 0, .int .i64 4]) (by simp [results, Try.results17, go_sem, tkV, slV]) rfl ⟨rfl, hB⟩
set_option maxHeartbeats 1000000 in
theorem nret (v : Value) (q e : Int) (w : World) (h : Nob w v) : Calls Try.prog 19 #[v, tkV q e] w fun e w' => e = .returned (.tuple #[slV 0 0, .bool false, .int .i64 4]) ∧ Below w.heap.size w w' := by
  have hB := jalloc (jalloc (Below.refl _ w) (.cells #[.int .u64 q, .int .u64 e] 34)) (.cells #[.int .i64 0, .int .u64 0] 36)
  have cI := nis v _ (h.below hB)
  clear h
  unfold tkV
  go_enter Try.func19, Try.ntmps19
  go_wp2_with fail
  refine cI.mono ?_
  rintro v w' ⟨rfl, hw'⟩
  subst hw'
  go_wp2_with fail
  exact bodyPost_ret (v := .tuple #[slV 0 0, .bool false, .int .i64 4]) (by simp [results, Try.results19, go_sem, slV]) rfl ⟨rfl, hB⟩
set_option maxHeartbeats 1000000 in
theorem nreset (v : Value) (w : World) (h : Nob w v) : Calls Try.prog 18 #[v] w fun e w' => e = .returned (.tuple #[.slice none 0 0, .int .i64 4]) ∧ w' = w := by
  have cI := nis v _ h
  clear h
  go_enter Try.func18, Try.ntmps18
  go_wp2_with fail
  refine cI.mono ?_
  rintro v w' ⟨rfl, hw'⟩
  subst hw'
  go_wp2_with fail
  go_ret2
  exact ⟨rfl, rfl⟩
set_option maxHeartbeats 1000000 in
theorem nfirst (v : Value) (w : World) (h : Nob w v) : Calls Try.prog 23 #[v] w fun e w' => e = .returned (.tuple #[smV 0 0, tkV 0 0, .bool false]) ∧ Below w.heap.size w w' := by
  have hB := jalloc (jalloc (Below.refl _ w) (.cells #[.int .i64 0, .int .i64 0] 38)) (.cells #[.int .u64 0, .int .u64 0] 34)
  have b2 := fun W => jtwo (w := w) (w' := W) (x := .int .i64 0) (y := .int .i64 0) (u := .int .u64 0) (v := .int .u64 0) (T := 38) (U := 34)
  obtain ⟨w1, hw1⟩ : ∃ w1, (w.alloc (.cells #[.int .i64 0, .int .i64 0] 38)).alloc (.cells #[.int .u64 0, .int .u64 0] 34) = w1 := ⟨_, rfl⟩
  rw [hw1] at hB b2
  have cI := jregrown (w := w1) fun W hW => (nis v W (h.below (Below.onto hB hW))).mono fun _ _ h' => ⟨h'.1, by rw [h'.2]; exact Below.refl _ _⟩
  obtain ⟨B, hBs⟩ : ∃ B, w.heap.size = B := ⟨_, rfl⟩
  clear h
  go_enter Try.func23, Try.ntmps23
  go_wp2_with fail
  refine wp_region_quiet_below (by kernel_rfl) (by kernel_rfl) ?_
  repeat (go_big_quiet_step (with_reducible exact cI _ _))
  refine wpQuiet_nil ?_
  intro _ hw'
  obtain ⟨⟨dq, osq⟩, hw''⟩ := hw'
  subst hw''
  have hb := below_regrown w1 dq osq
  obtain ⟨⟨k0, k1, kf⟩, k2, k3, kg⟩ := b2 _ hb
  rw [hBs] at k0 k1 k2 k3 kf kg
  have HB : Hid (Below w.heap.size w (grow (redrawn w1 dq) osq)) := Below.onto hB hb
  clear b2 hb hB cI hw1
  generalize grow (redrawn w1 dq) osq = w2 at *
  go_wp2_with fail
  refine bodyPost_ret (v := .tuple #[smV 0 0, tkV 0 0, .bool false]) (by simp [results, Try.results23, go_sem, k0, k1, k2, k3, smV, tkV]) rfl ⟨rfl, ?_⟩
  iterate 2 (refine Below.setCell ?_ (by show _ ≤ B + 1; omega) _)
  iterate 2 (refine Below.setCell ?_ (by exact Nat.le_of_eq hBs) _)
  exact HB.out
set_option maxHeartbeats 1000000 in
theorem nlay (v : Value) (q e n g : Int) (w : World) (h : Nob w v) : Calls Try.prog 16 #[v, tkV q e, slV n g] w fun e w' => e = .returned (.int .i64 4) ∧ Below w.heap.size w w' := by
  have hB := jalloc (jalloc (Below.refl _ w) (.cells #[.int .u64 q, .int .u64 e] 34)) (.cells #[.int .i64 n, .int .u64 g] 36)
  have cI := nis v _ (h.below hB)
  clear h
  unfold tkV slV
  go_enter Try.func16, Try.ntmps16
  go_wp2_with fail
  refine cI.mono ?_
  rintro v w' ⟨rfl, hw'⟩
  subst hw'
  go_wp2_with fail
  go_ret
  exact ⟨rfl, hB⟩
set_option maxHeartbeats 1000000 in
theorem nlacks (v : Value) (q e : Int) (w : World) (h : Nob w v) : Calls Try.prog 39 #[v, tkV q e] w fun e w' => e = .returned (.int .i64 4) ∧ Below w.heap.size w w' := by
  have hB := jalloc (Below.refl _ w) (.cells #[.int .u64 q, .int .u64 e] 34)
  have cI := nis v _ (h.below hB)
  clear h
  unfold tkV
  go_enter Try.func39, Try.ntmps39
  go_wp2_with fail
  refine cI.mono ?_
  rintro v w' ⟨rfl, hw'⟩
  subst hw'
  go_wp2_with fail
  go_ret
  exact ⟨rfl, hB⟩
set_option maxHeartbeats 1000000 in
theorem nready (v : Value) (q e : Int) (w : World) (h : Nob w v) : Calls Try.prog 21 #[v, tkV q e] w fun e w' => e = .returned (.bool false) ∧ Below w.heap.size w w' := by
  have hB := jalloc (Below.refl _ w) (.cells #[.int .u64 q, .int .u64 e] 34)
  have cI := nlacks v q e _ (h.below hB)
  clear h
  unfold tkV at *
  go_enter Try.func21, Try.ntmps21
  go_wp2_with fail
  refine cI.mono ?_
  rintro v w' ⟨rfl, hb⟩
  go_wp2_with fail
  go_ret
  exact ⟨rfl, Below.onto hB hb⟩
set_option maxHeartbeats 1000000 in
theorem npub (v : Value) (q e t s : Int) (w : World) (h : Nob w v) : Calls Try.prog 20 #[v, tkV q e, smV t s] w fun e w' => e = .returned (.int .i64 4) ∧ Below w.heap.size w w' := by
  have hB := jalloc (jalloc (Below.refl _ w) (.cells #[.int .u64 q, .int .u64 e] 34)) (.cells #[.int .i64 t, .int .i64 s] 38)
  have cI := nlacks v q e _ (h.below hB)
  clear h
  unfold tkV smV at *
  go_enter Try.func20, Try.ntmps20
  go_wp2_with fail
  refine cI.mono ?_
  rintro v w' ⟨rfl, hb⟩
  go_wp2_with fail
  go_ret
  exact ⟨rfl, Below.onto hB hb⟩
def staZ : Value := .agg #[.int .i64 0, .int .i64 0, .int .i64 0, .int .i64 0, .int .i64 0, .int .u64 0]
set_option maxHeartbeats 1000000 in
theorem nstate (v : Value) (w : World) (h : Nob w v) : Calls Try.prog 13 #[v] w fun e w' => e = .returned staZ ∧ Below w.heap.size w w' := by
  have hB := jalloc (Below.refl _ w) (.cells #[.int .i64 0, .int .i64 0, .int .i64 0, .int .i64 0, .int .i64 0, .int .u64 0] 42)
  have cI := nis v _ (h.below hB)
  clear h
  go_enter Try.func13, Try.ntmps13
  go_wp2_with fail
  refine cI.mono ?_
  rintro v w' ⟨rfl, hw'⟩
  subst hw'
  go_wp2_with fail
  exact bodyPost_ret (v := staZ) (by simp [results, Try.results13, go_sem, staZ]) rfl ⟨rfl, hB⟩
end Go.Proofs.Ytmdoiokgfdolpaa
