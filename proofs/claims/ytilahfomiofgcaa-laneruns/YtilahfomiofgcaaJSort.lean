/- slices.SortFunc over messages, by how far they are: the row holds the same messages, sorted. -/
import Derived.Test.YtilahfomiofgcaaJShelf
import Derived.Test.YtilahfomiofgcaaJLane
namespace Go.Proofs.Ytilahfomiofgcaa
open Go.RowKit Go.Lib
set_option maxRecDepth 100000

/-- a message as it lies in memory: how far, has it a slot, its slot, its stamp -/
abbrev Mt : Type := Nat × Bool × Int × Int × Int × Int
def mtOf (m : Ms) : Mt := (m.k, m.laid, m.n, m.g, m.tk, m.sp)
def farT (x : Mt) : Nat := x.1 % 4611686018427387904
def encT (st : Int) (x : Mt) : List Value := [.int .u64 (sqI st (farT x)), .int .i64 x.2.2.1, .int .u64 x.2.2.2.1, .bool x.2.1, .int .i64 x.2.2.2.2.1, .int .i64 x.2.2.2.2.2]
def cfT (x y : Mt) : Int := if farT x < farT y then -1 else if farT x = farT y then 0 else 1
theorem cfT_lt (x y : Mt) : ltOf cfT x y = decide (farT x < farT y) := by
  unfold ltOf cfT
  by_cases h : farT x < farT y
  · simp [h]
  · rw [if_neg h]
    by_cases h2 : farT x = farT y
    · rw [if_pos h2]; simp [h]
    · rw [if_neg h2]; simp [h]
theorem cfT_swo : Go.Sort.SWO (ltOf cfT) where
  irrefl x := by rw [cfT_lt]; simp
  trans x y z h1 h2 := by rw [cfT_lt] at *; simp at *; omega
  ntrans x y z h1 h2 := by rw [cfT_lt] at *; simp at *; omega
theorem encT_of (st : Int) {m : Ms} (h : m.k ≤ 1000000) : encT st (mtOf m) = msC st m := by
  have e : farT (mtOf m) = m.k := by unfold farT mtOf; simp only; omega
  unfold encT msC
  rw [e]
  rfl
theorem dist_far (st : Int) (x y : Mt) : distI (sqI st (farT y)) (sqI st (farT x)) = (farT x : Int) - (farT y : Int) := by
  have h1 : farT x < 4611686018427387904 := Nat.mod_lt _ (by decide)
  have h2 : farT y < 4611686018427387904 := Nat.mod_lt _ (by decide)
  unfold distI sqI
  omega
set_option maxHeartbeats 400000 in
theorem isNaN_any (x : Int) (w : World) : Calls Try.prog 46 #[.int .i64 x] w fun e w' => e = .returned (.bool false) ∧ w' = w := by
  go_enter Try.func46, Try.ntmps46
  go_wp2_with fail
  go_ret
  exact ⟨ret_bool (by simp), rfl⟩
def cmp0 (d : Int) : Int := if d < 0 then -1 else if d = 0 then 0 else 1
set_option maxHeartbeats 1000000 in
theorem compare_any (d : Int) (w : World) : Calls Try.prog 41 #[.int .i64 d, .int .i64 0] w fun e w' => e = .returned (.int .i64 (cmp0 d)) ∧ w' = w := by
  have h1 := isNaN_any d w
  have h2 := isNaN_any 0 w
  by_cases hd : d < 0
  · have e : cmp0 d = -1 := by simp [cmp0, hd]
    rw [e]
    go_enter Try.func41, Try.ntmps41
    go_wp2_with fail
    refine h1.mono ?_
    rintro v w' ⟨rfl, rfl⟩
    go_wp2_with fail
    refine h2.mono ?_
    rintro v w' ⟨rfl, rfl⟩
    go_wp2_with fail
    go_ret
    exact ⟨rfl, rfl⟩
  · by_cases hz : d = 0
    · subst hz
      have e : cmp0 0 = 0 := by simp [cmp0]
      rw [e]
      go_enter Try.func41, Try.ntmps41
      go_wp2_with fail
      refine h1.mono ?_
      rintro v w' ⟨rfl, rfl⟩
      go_wp2_with fail
      refine h2.mono ?_
      rintro v w' ⟨rfl, rfl⟩
      go_wp2_with fail
      go_ret
      exact ⟨rfl, rfl⟩
    · have e : cmp0 d = 1 := by simp [cmp0, hd, hz]
      have hp : 0 < d := by omega
      rw [e]
      go_enter Try.func41, Try.ntmps41
      go_wp2_with fail
      refine h1.mono ?_
      rintro v w' ⟨rfl, rfl⟩
      go_wp2_with fail
      refine h2.mono ?_
      rintro v w' ⟨rfl, rfl⟩
      go_wp2_with fail
      go_ret
      exact ⟨rfl, rfl⟩
theorem cmp0_far (x y : Mt) : cmp0 ((farT x : Int) - (farT y : Int)) = cfT x y := by
  unfold cmp0 cfT
  by_cases h : farT x < farT y
  · rw [if_pos h, if_pos (by omega)]
  · rw [if_neg h, if_neg (by omega)]
    by_cases h2 : farT x = farT y
    · rw [if_pos h2, if_pos (by omega)]
    · rw [if_neg h2, if_neg (by omega)]
set_option maxHeartbeats 1000000 in
theorem less_grow (st : Int) (x y : Mt) (w : World) :
    Calls Try.prog 40 #[.agg (encT st x).toArray, .agg (encT st y).toArray] w fun e w' => e = .returned (.int .i64 (cfT x y)) ∧ w' = (w.alloc (.cells (encT st x).toArray 56)).alloc (.cells (encT st y).toArray 56) := by
  have hA := fun W => ahead_any (sqI st (farT y)) (sqI st (farT x)) W
  rw [dist_far] at hA
  have hC := fun W => compare_any ((farT x : Int) - (farT y : Int)) W
  rw [cmp0_far] at hC
  unfold encT
  generalize cfT x y = r at *
  generalize (farT x : Int) - (farT y : Int) = d at *
  generalize sqI st (farT x) = qx at *
  generalize sqI st (farT y) = qy at *
  obtain ⟨x0, x1, x2, x3, x4, x5⟩ := x
  obtain ⟨y0, y1, y2, y3, y4, y5⟩ := y
  simp only
  go_enter Try.func40, Try.ntmps40
  go_wp2_with fail
  refine (hA _).mono ?_
  rintro v w' ⟨rfl, rfl⟩
  go_wp2_with fail
  refine (hC _).mono ?_
  rintro v w' ⟨rfl, rfl⟩
  go_wp2_with fail
  go_ret
  exact ⟨rfl, rfl⟩
theorem jcmpLays (st : Int) (blk off size : Nat) (w : World) : CmpLays Try.prog 40 #[] (encT st) 6 cfT blk off size w := by
  intro m os dk _ x y
  refine (less_grow st x y _).mono ?_
  rintro e w' ⟨rfl, rfl⟩
  refine ⟨rfl, 0, #[.cells (encT st x).toArray 56] ++ #[.cells (encT st y).toArray 56], ?_⟩
  rw [Go.Sort.alloc_eq_grow, Go.Sort.alloc_eq_grow, Go.Sort.grow_grow]
  rfl
set_option maxHeartbeats 1000000 in
theorem jsort_any (st : Int) (blk off cap : Nat) (d : Array Mt) (w : World) (hH : Go.Sort.HoldsK (encT st) 6 w blk off d) (hblk : blk < w.heap.size) (hsz : d.size < 4611686018427387904) :
    Calls Try.prog 39 #[.slice (some ⟨blk, off, none⟩) d.size cap, .func (.func 40) #[] #[]] w fun e w' =>
      e = .returned (.tuple #[]) ∧ ∃ d' n os, Go.Sort.PermIn 0 d.size d d' ∧ Go.Sort.SortedIn (ltOf cfT) 0 d.size d' ∧ w' = sortWorldK (encT st) 6 w blk off n d' os := by
  have eg : ∀ args w, (callFunc 40 args).run Try.prog w = .ok (.enter 40 args) w := enters_of Try.func40 (by kernel_rfl) rfl
  exact AnyQ.slices_SortFunc Try.sortSt 6 Try.isAgg56 Try.sizeOf56 (encT st) (fun _ => rfl) (fun x v hv => by simp [encT] at hv; rcases hv with rfl | rfl | rfl | rfl | rfl | rfl <;> rfl) cfT cfT_swo 40 #[] blk off cap d w eg (jcmpLays st blk off d.size w) hH hblk hsz
end Go.Proofs.Ytilahfomiofgcaa
