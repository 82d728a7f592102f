/- The rows that are worked out in an array of 64, and their copy: slices.Clone, grid.first. -/
import Derived.Test.YtcfpfddbbhphgabIter3
namespace Go.Proofs.Ytcfpfddbbhphgab
open Go.RowKit Go.Shelf

/-- block B is an array of 64 numbers: z 0 .. z 63 -/
def GridIs (W : World) (B : Nat) (z : Nat → Int) : Prop := ∀ j, j < 64 → W.cell? ⟨B, j, none⟩ = some (.int .u64 (z j)) ∧ W.frozen? ⟨B, j, none⟩ = false
def upd (z : Nat → Int) (k : Nat) (v : Int) : Nat → Int := fun j => if j = k then v else z j
theorem GridIs.set {W : World} {B : Nat} {z : Nat → Int} (h : GridIs W B z) {k : Nat} (hk : k < 64) (v : Int) : GridIs (W.setCell ⟨B, k, none⟩ (.int .u64 v)) B (upd z k v) := by
  intro j hj
  refine ⟨?_, by rw [World.frozen?_setCell]; exact (h j hj).2⟩
  unfold upd
  by_cases e : j = k
  · subst e; rw [if_pos rfl]; exact World.cell?_setCell_same' _ _ _ (by rw [(h j hj).1]; rfl)
  · rw [if_neg e, World.cell?_setCell_other _ _ _ _ (by intro h; cases h; exact e rfl)]; exact (h j hj).1
theorem GridIs.drewN {W : World} {B : Nat} {z : Nat → Int} (h : GridIs W B z) (n : Nat) : GridIs (W.drewN n) B z := h
theorem GridIs.drew {W : World} {B : Nat} {z : Nat → Int} (h : GridIs W B z) : GridIs W.drew B z := h
theorem GridIs.congr {W : World} {B : Nat} {z y : Nat → Int} (h : GridIs W B z) (e : ∀ j, j < 64 → z j = y j) : GridIs W B y := fun j hj => by rw [← e j hj]; exact h j hj
theorem GridIs.lt {W : World} {B : Nat} {z : Nat → Int} (h : GridIs W B z) : B < W.heap.size := cell_lt (h 0 (by omega)).1
theorem GridIs.below {W W' : World} {B : Nat} {z : Nat → Int} (h : GridIs W B z) (hb : Below W.heap.size W W') : GridIs W' B z := fun j hj =>
  ⟨(hb.cell (p := ⟨B, j, none⟩) h.lt).trans (h j hj).1, (hb.frozen (p := ⟨B, j, none⟩) h.lt).trans (h j hj).2⟩
theorem GridIs.cells {W : World} {B : Nat} {z : Nat → Int} (h : GridIs W B z) (n : Nat) (hn : n ≤ 64) : Cells W .u64 (some ⟨B, 0, none⟩) n z := fun j hj => ⟨B, 0, rfl, by rw [Nat.zero_add]; exact (h j (by omega)).1⟩

def encU (n : Nat) (z : Nat → Int) : List Value := (List.range n).map fun j => Value.int .u64 (z j)
theorem encU_at (n : Nat) (z : Nat → Int) (j : Nat) (hj : j < n) : (encU n z)[j]? = some (.int .u64 (z j)) := by simp [encU, hj]

theorem Try.info23 : (Try.prog.info? 35).map (fun i => (i.zero, i.size, i.bytes)) = some (some (.int .u64 0), 1, 8) := by kernel_rfl

set_option maxHeartbeats 2000000 in
set_option maxRecDepth 100000 in
theorem clone_own (a : Addr) (n c : Nat) (z : Nat → Int) (w : World) (hn : n ≤ 17592186044416) (hc : Cells w .u64 (some a) n z) :
    Calls Try.prog 44 #[.slice (some a) n c] w fun e w' => ∃ v, e = .returned v ∧ w'.ownsRow w.heap.size 35 1 v n (encU n z) ∧ Below w.heap.size w w' := by
  obtain ⟨i0, hi, hz0, hz1, hz2⟩ := info_parts Try.info23
  have q22 : ∀ (w : World) (a : Option Addr) (n c n' c' : Nat), (binOp .eql 22 (.slice a n c) (.slice none n' c')).run Try.prog w = .ok (.bool a.isNone) w := fun w a n c n' c' => Lib.run_eql_slice_nil w _ _ a n c n' c' Try.underlying22
  have HC : Hid (Cells w .u64 (some a) n z) := hc
  clear hc
  go_enter Try.func44, Try.ntmps44
  go_wp2_with (at_builtin; refine wpList_append_own _ rfl _ _ 22 rfl w.heap.size 35 i0 (.int .u64 0) 1 8 Try.underlying22 hi hz0 hz1 hz2 rfl (by decide) _ _ _ rfl (World.ownsRow_made w #[] 0 (Nat.le_refl _) (Nat.zero_le _) rfl) a n c (encU n z) rfl ?qc1 ?qc2 ?qc3 ?qc4 ?qc5 ?qc6 ?_)
  case qc1 => simp [encU]
  case qc2 =>
    intro j u hj
    have hjn : j < n := by
      have := (List.getElem?_eq_some_iff.1 hj).1
      simpa [encU] using this
    obtain ⟨b, off, e, hcell⟩ := HC.out j hjn
    cases e
    rw [encU_at n z j hjn] at hj
    rw [Addr.add_lit]
    refine Lib.cell?_alloc_some _ ?_
    rw [hcell]; exact hj
  case qc3 => intro u hu; obtain ⟨x, _, rfl⟩ := List.mem_map.1 hu; rfl
  case qc4 => unfold maxLen; omega
  case qc5 => omega
  case qc6 => simp
  intro v' w1 hown hgrow hnil
  go_wp2
  go_ret
  refine ⟨v', rfl, by simpa using hown, ?_⟩
  exact ((Below.refl _ w).alloc (Nat.le_refl _) _).grown hgrow (by simp) (by intro k hk; simp [Value.ownBlock] at hk; omega)

theorem slice_grid (B n : Nat) (hn : n ≤ 64) (w : World) : (Instr.sliceAt 72 (.pointer (some ⟨B, 0, none⟩)) none (some (.int .i64 n)) none).run Try.prog w = .ok (.slice (some ⟨B, 0, none⟩) n 64) w := by
  have h64 : Try.prog.arrayLen 72 = 64 := by kernel_rfl
  have hs : ∀ w, (sizeOf (Try.prog.elem 72)).run Try.prog w = .ok 1 w := fun w => by kernel_rfl
  rw [run_sliceAt_array_h w 72 _ (by kernel_rfl) .i64 n (by omega) (by rw [h64]; omega), hs]
  simp [slicedAt, h64, Result.andThen]
  rfl

set_option maxHeartbeats 1000000 in
theorem first_own (B n : Nat) (z : Nat → Int) (w : World) (hn : n ≤ 64) (hg : GridIs w B z) :
    Calls Try.prog 41 #[.pointer (some ⟨B, 0, none⟩), .int .i64 n] w fun e w' => ∃ v, e = .returned v ∧ w'.ownsRow w.heap.size 35 1 v n (encU n z) ∧ Below w.heap.size w w' := by
  have hsl := slice_grid B n hn
  have hcl := clone_own ⟨B, 0, none⟩ n 64 z w (by omega) (hg.cells n hn)
  have HL : Hid (n ≤ 64) := hn
  clear hg
  go_enter Try.func41, Try.ntmps41
  go_wp2_with (go_at_call 44; refine hcl.mono ?_; rintro e w' ⟨v, rfl, hown, hbel⟩)
  go_ret
  exact ⟨_, rfl, hown, hbel⟩

end Go.Proofs.Ytcfpfddbbhphgab
