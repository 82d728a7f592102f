/- Agendas that nobody made, or that have no less: they refuse all. -/
import Derived.Test.YtimmjhegeagofaaEDrain3
namespace Go.Proofs.Ytimmjhegeagofaa
open Go.RowKit Go.Sort
set_option maxRecDepth 100000

/-- nobody's -/
def Nb (w : World) (av : Value) : Prop := av = .pointer none ∨ ∃ q, av = ptr q ∧ Blk w q 60 [.pointer none]
theorem Nb.below {w w' : World} {av : Value} (n : Nb w av) (h : Below w.heap.size w w') : Nb w' av := n.imp id fun ⟨q, e, b⟩ => ⟨q, e, b.below h⟩
set_option maxHeartbeats 1000000 in
theorem nis (w : World) (av : Value) (n : Nb w av) : Calls Try.prog 40 #[av] w fun e w' => e = .returned (.bool false) ∧ w' = w := by
  rcases n with rfl | ⟨q, rfl, hb⟩
  · go_enter Try.func40, Try.ntmps40
    go_wp2_with fail
    go_ret
    exact ⟨rfl, rfl⟩
  · have h0 := hb.cell (i := 0) rfl
    clear hb
    go_enter Try.func40, Try.ntmps40
    go_wp2_with fail
    go_ret
    exact ⟨rfl, rfl⟩
set_option maxHeartbeats 1000000 in
theorem nlen (w : World) (av : Value) (n : Nb w av) : Calls Try.prog 12 #[av] w fun e w' => e = .returned (.int .i64 0) ∧ w' = w := by
  have c := nis w av n
  clear n
  go_enter Try.func12, Try.ntmps12
  go_wp2_with fail
  refine c.mono ?_
  rintro e w' ⟨rfl, hw'⟩
  subst hw'
  go_wp2_with fail
  go_ret
  exact ⟨rfl, rfl⟩
set_option maxHeartbeats 1000000 in
theorem ntell (gf : Nat) (w : World) (av : Value) (n : Nb w av) :
    Calls Try.prog 42 #[av, .func (.func gf) #[] #[]] w fun v w' => v = .returned tl0 ∧ Below w.heap.size w w' := by
  have HB : Hid (Below w.heap.size w (bxT w)) := (Below.refl _ w).alloc (Nat.le_refl _) _
  have cN := nlen (bxT w) av (n.below HB.out)
  have r0 := (bxT_blk w).cell (i := 0) rfl
  have r1 := (bxT_blk w).cell (i := 1) rfl
  have rf := (bxT_blk w).fz
  obtain ⟨w1, hw1⟩ : ∃ w1, bxT w = w1 := ⟨_, rfl⟩
  have hlt : w.heap.size < w1.heap.size := by rw [← hw1]; exact (bxT_blk w).lt
  rw [hw1] at cN r0 r1 rf HB
  unfold bxT at hw1
  clear n
  generalize hN : w.heap.size = N at *
  go_enter Try.func42, Try.ntmps42
  go_wp2_with fail
  refine cN.mono ?_
  rintro v w' ⟨rfl, hw'⟩
  subst hw'
  clear cN hw1
  have s0 := (bxT_blk w').cell (i := 0) rfl
  have s1 := (bxT_blk w').cell (i := 1) rfl
  have hb2 : Below w'.heap.size w' (bxT w') := (Below.refl _ w').alloc (Nat.le_refl _) _
  have t0 := (hb2.cell (p := ⟨N, 0, none⟩) hlt).trans r0
  have t1 := (hb2.cell (p := ⟨N, 1, none⟩) hlt).trans r1
  have tf : ∀ i, (bxT w').frozen? ⟨N, i, none⟩ = false := fun i => (World.frozen?_of_block (a := ⟨N, i, none⟩) (hb2.block N hlt)).trans (rf i)
  have HB2 : Hid (Below N w (bxT w')) := HB.out.trans (hb2.mono (by omega))
  obtain ⟨w2, hw2⟩ : ∃ w2, bxT w' = w2 := ⟨_, rfl⟩
  have hne : w'.heap.size ≠ N := by omega
  rw [hw2] at s0 s1 t0 t1 tf HB2
  unfold bxT at hw2
  clear hb2 r0 r1 rf
  generalize hM : w'.heap.size = M at *
  go_wp2_with fail
  refine bodyPost_ret (v := tl0) (by simp [results, Try.results42, go_sem, t0, t1]) rfl ⟨rfl, ?_⟩
  exact (HB2.out.setCell (Nat.le_refl _) _).setCell (Nat.le_refl _) _
set_option maxHeartbeats 1000000 in
theorem nfirst (w : World) (av : Value) (n : Nb w av) : Calls Try.prog 13 #[av] w fun v w' => v = .returned tl0 ∧ Below w.heap.size w w' := by
  have HB : Hid (Below w.heap.size w (bxT w)) := (Below.refl _ w).alloc (Nat.le_refl _) _
  have hc := ntell 43 (bxT w) av (n.below HB.out)
  have HR : Hid (Blk (bxT w) w.heap.size 27 [.int .i8 0, .int .i64 0]) := bxT_blk w
  obtain ⟨w1, hw1⟩ : ∃ w1, bxT w = w1 := ⟨_, rfl⟩
  rw [hw1] at hc HB HR
  unfold bxT at hw1
  clear n
  generalize hN : w.heap.size = N at *
  unfold tl0 thV at hc
  go_enter Try.func13, Try.ntmps13
  go_wp2_with fail
  refine hc.mono ?_
  rintro v w2 ⟨rfl, hb2⟩
  have hR := HR.out.below hb2
  have HB2 : Hid (Below N w w2) := HB.out.trans (hb2.mono (Nat.le_of_lt HR.out.lt))
  have r0 := hR.cell (i := 0) rfl
  have r1 := hR.cell (i := 1) rfl
  have rf := hR.fz
  have HR2 := (hR.set 0 (.int .i8 0)).set 1 (.int .i64 0)
  have s0 := HR2.cell (i := 0) (v := .int .i8 0) rfl
  have s1 := HR2.cell (i := 1) (v := .int .i64 0) rfl
  clear hc hw1 hb2 hR HR2 HR
  go_wp2_with fail
  exact bodyPost_ret (v := tl0) (by simp [results, Try.results13, go_sem, s0, s1]) rfl ⟨rfl, (HB2.out.setCell (Nat.le_refl _) _).setCell (Nat.le_refl _) _⟩
set_option maxHeartbeats 1000000 in
theorem npop (w : World) (av : Value) (n : Nb w av) : Calls Try.prog 24 #[av] w fun v w' => v = .returned tl0 ∧ Below w.heap.size w w' := by
  have HB : Hid (Below w.heap.size w (bxT w)) := (Below.refl _ w).alloc (Nat.le_refl _) _
  have hc := ntell 52 (bxT w) av (n.below HB.out)
  have HR : Hid (Blk (bxT w) w.heap.size 27 [.int .i8 0, .int .i64 0]) := bxT_blk w
  obtain ⟨w1, hw1⟩ : ∃ w1, bxT w = w1 := ⟨_, rfl⟩
  rw [hw1] at hc HB HR
  unfold bxT at hw1
  clear n
  generalize hN : w.heap.size = N at *
  unfold tl0 thV at hc
  go_enter Try.func24, Try.ntmps24
  go_wp2_with fail
  refine hc.mono ?_
  rintro v w2 ⟨rfl, hb2⟩
  have hR := HR.out.below hb2
  have HB2 : Hid (Below N w w2) := HB.out.trans (hb2.mono (Nat.le_of_lt HR.out.lt))
  have r0 := hR.cell (i := 0) rfl
  have r1 := hR.cell (i := 1) rfl
  have rf := hR.fz
  have HR2 := (hR.set 0 (.int .i8 0)).set 1 (.int .i64 0)
  have s0 := HR2.cell (i := 0) (v := .int .i8 0) rfl
  have s1 := HR2.cell (i := 1) (v := .int .i64 0) rfl
  clear hc hw1 hb2 hR HR2 HR
  go_wp2_with fail
  exact bodyPost_ret (v := tl0) (by simp [results, Try.results24, go_sem, s0, s1]) rfl ⟨rfl, (HB2.out.setCell (Nat.le_refl _) _).setCell (Nat.le_refl _) _⟩
set_option maxHeartbeats 1000000 in
theorem npush (w : World) (av : Value) (n : Nb w av) (k m : Int) : Calls Try.prog 23 #[av, thV k m] w fun v w' => v = .returned (.tuple #[.int .i64 0, .int .i64 4]) ∧ Below w.heap.size w w' := by
  have HB : Hid (Below w.heap.size w (bxV w k m)) := (Below.refl _ w).alloc (Nat.le_refl _) _
  have c := nis (bxV w k m) av (n.below HB.out)
  clear n
  unfold bxV at *
  unfold thV
  go_enter Try.func23, Try.ntmps23
  go_wp2_with fail
  refine c.mono ?_
  rintro e w' ⟨rfl, hw'⟩
  subst hw'
  go_wp2_with fail
  go_ret2
  exact ⟨rfl, HB.out⟩
set_option maxHeartbeats 1000000 in
theorem nfind (w : World) (av : Value) (n : Nb w av) (id : Int) : Calls Try.prog 45 #[av, .int .i64 id] w fun v w' => v = .returned (.tuple #[.pointer none, .int .i64 4]) ∧ w' = w := by
  have c := nis w av n
  clear n
  go_enter Try.func45, Try.ntmps45
  go_wp2_with fail
  refine c.mono ?_
  rintro e w' ⟨rfl, hw'⟩
  subst hw'
  go_wp2_with fail
  go_ret2
  exact ⟨rfl, rfl⟩
set_option maxHeartbeats 1000000 in
theorem ndrop (w : World) (av : Value) (n : Nb w av) (id : Int) : Calls Try.prog 25 #[av, .int .i64 id] w fun v w' => v = .returned (.int .i64 4) ∧ w' = w := by
  have c := nfind w av n id
  clear n
  go_enter Try.func25, Try.ntmps25
  go_wp2_with fail
  refine c.mono ?_
  rintro e w' ⟨rfl, hw'⟩
  subst hw'
  go_wp2_with fail
  go_ret
  exact ⟨rfl, rfl⟩
set_option maxHeartbeats 1000000 in
theorem nset (w : World) (av : Value) (n : Nb w av) (id k m : Int) : Calls Try.prog 26 #[av, .int .i64 id, thV k m] w fun v w' => v = .returned (.int .i64 4) ∧ Below w.heap.size w w' := by
  have HB : Hid (Below w.heap.size w (bxV w k m)) := (Below.refl _ w).alloc (Nat.le_refl _) _
  have c := nfind (bxV w k m) av (n.below HB.out) id
  clear n
  unfold bxV at *
  unfold thV
  go_enter Try.func26, Try.ntmps26
  go_wp2_with fail
  refine c.mono ?_
  rintro e w' ⟨rfl, hw'⟩
  subst hw'
  go_wp2_with fail
  go_ret
  exact ⟨rfl, HB.out⟩
set_option maxHeartbeats 1000000 in
theorem nget (w : World) (av : Value) (n : Nb w av) (id : Int) :
    Calls Try.prog 15 #[av, .int .i64 id] w fun v w' => v = .returned (.tuple #[thV 0 0, .bool false]) ∧ Below w.heap.size w w' := by
  have HB : Hid (Below w.heap.size w (bxT w)) := (Below.refl _ w).alloc (Nat.le_refl _) _
  have hc := nfind (bxT w) av (n.below HB.out) id
  have hR := bxT_blk w
  have s0 := (bxT_blk (bxT w)).cell (i := 0) rfl
  have s1 := (bxT_blk (bxT w)).cell (i := 1) rfl
  have hb2 : Below (bxT w).heap.size (bxT w) (bxT (bxT w)) := (Below.refl _ (bxT w)).alloc (Nat.le_refl _) _
  have hR' := hR.below hb2
  have t0 := hR'.cell (i := 0) rfl
  have t1 := hR'.cell (i := 1) rfl
  have tf := hR'.fz
  have HB2 : Hid (Below w.heap.size w (bxT (bxT w))) := HB.out.trans (hb2.mono (Nat.le_of_lt hR.lt))
  have hne : (bxT w).heap.size ≠ w.heap.size := by have := hR.lt; omega
  clear hR hR' hb2 n
  obtain ⟨w1, hw1⟩ : ∃ w1, bxT w = w1 := ⟨_, rfl⟩
  rw [hw1] at hc HB s0 s1 t0 t1 tf HB2 hne
  obtain ⟨w2, hw2⟩ : ∃ w2, bxT w1 = w2 := ⟨_, rfl⟩
  rw [hw2] at s0 s1 t0 t1 tf HB2
  unfold bxT at hw1 hw2
  generalize hN : w.heap.size = N at *
  generalize hM : w1.heap.size = M at *
  unfold thV
  go_enter Try.func15, Try.ntmps15
  go_wp2_with fail
  refine hc.mono ?_
  rintro v w5 ⟨rfl, hw5⟩
  subst hw5
  clear hc hw1
  go_wp2_with fail
  exact bodyPost_ret (v := .tuple #[thV 0 0, .bool false]) (by simp [results, Try.results15, go_sem, t0, t1]) rfl ⟨rfl, (HB2.out.setCell (Nat.le_refl _) _).setCell (Nat.le_refl _) _⟩
end Go.Proofs.Ytimmjhegeagofaa
