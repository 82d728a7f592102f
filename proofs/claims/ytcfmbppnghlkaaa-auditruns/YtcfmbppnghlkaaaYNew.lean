/- New. -/
import Derived.Test.YtcfmbppnghlkaaaYAdd3
namespace Go.Proofs.Ytcfmbppnghlkaaa
open Go.RowKit Go.Sort
set_option maxRecDepth 100000

theorem infoLp : (Try.prog.info? 60).map (fun i => (i.zero, i.size, i.bytes)) = some (some (.pointer none), 1, 8) := by kernel_rfl
theorem made_nil (n : Nat) : madeCells (Value.pointer none).cells (n * 1) = (List.replicate n (Value.pointer none)).toArray := by
  apply Array.ext'
  apply List.ext_getElem?
  intro i
  by_cases h : i < n
  · simp [madeCells, h, Value.cells, Nat.mod_one]
  · simp [madeCells, h, Value.cells, Nat.mod_one]
theorem ymake (n : Nat) (w : World) (hn : n ≤ 16) : (Instr.makeSlice 55 (.int .i64 (n : Int)) (.int .i64 (n : Int))).run Try.prog w = .ok (.slice (some ⟨w.heap.size, 0, none⟩) n n) (w.alloc (.cells (List.replicate n (.pointer none)).toArray 60)) := by
  obtain ⟨i0, hi, hz0, hz1, hz2⟩ := info_parts infoLp
  have h := run_makeSlice (P := Try.prog) w 55 60 i0 (.pointer none) Try.underlying55 hi hz0 .i64 .i64 (n : Int) (n : Int) (by omega) (Int.le_refl _) (by rw [hz1]; simp; omega) (by rw [hz2]; omega) (by omega)
  rw [hz1] at h
  simp only [Int.toNat_natCast] at h
  rw [made_nil] at h
  exact h
/-- is a room out of range? -/
def badR (R : List Int) : Bool := R.any fun r => decide (r < 0) || decide (1024 < r)
/-- the pointers that are laid, and those that are not yet -/
def ptrs2 (g : Nat → Nat) (n j : Nat) : List Value := (List.range n).map fun i => if i < j then ptr (g i) else .pointer none
theorem ptrs2_0 (g : Nat → Nat) (n : Nat) : ptrs2 g n 0 = List.replicate n (.pointer none) := by
  apply List.ext_getElem?
  intro i
  by_cases h : i < n <;> simp [ptrs2, h]
theorem ptrs2_all (o : Yo) (n : Nat) : ptrs2 o.gb n n = ptrs o n := by
  unfold ptrs2 ptrs
  exact List.map_congr_left fun i hi => by rw [if_pos (List.mem_range.1 hi)]
theorem ptrs2_set (g : Nat → Nat) (n j b : Nat) (hj : j < n) : (ptrs2 g n j).set j (ptr b) = ptrs2 (upd g j b) n (j + 1) := by
  apply List.ext_getElem?
  intro i
  by_cases h : i < n
  · by_cases e : i = j
    · subst e
      simp [ptrs2, h, upd_at]
    · rw [List.getElem?_set_ne (Ne.symm e)]
      simp only [ptrs2, List.getElem?_map, List.getElem?_range h, Option.map_some, upd_ne e]
      by_cases h2 : i < j
      · rw [if_pos h2, if_pos (by omega)]
      · rw [if_neg h2, if_neg (by omega)]
  · simp [ptrs2, h]
/-- while they are laid -/
structure Yn (w0 w : World) (p lB : Nat) (g : Nat → Nat) (R : List Int) (j : Nat) : Prop where
  pb : Blk w p 57 [.slice (some ⟨lB, 0, none⟩) R.length R.length]
  lb : Blk w lB 60 (ptrs2 g R.length j)
  gb : ∀ i, i < j → Blk w (g i) 63 [.int .i64 (atR R i), .slice none 0 0]
  ap : ∀ i k, i < j → k < j → i ≠ k → g i ≠ g k
  bl : Below w0.heap.size w0 w
  ge : w0.heap.size ≤ p ∧ w0.heap.size ≤ lB ∧ ∀ i, i < j → w0.heap.size ≤ g i
section
variable {w0 w : World} {p lb : Nat} {g : Nat → Nat} {R : List Int} {j : Nat}
theorem Yn.step (y : Yn w0 w p lb g R j) (hj : j < R.length) : Yn w0 ((w.alloc (.cells #[.int .i64 (atR R j), .slice none 0 0] 63)).setCell ⟨lb, j, none⟩ (ptr w.heap.size)) p lb (upd g j w.heap.size) R (j + 1) := by
  have hb : Below w.heap.size w (w.alloc (.cells #[.int .i64 (atR R j), .slice none 0 0] 63)) := (Below.refl _ w).alloc (Nat.le_refl _) _
  have n1 := blk_new w [.int .i64 (atR R j), .slice none 0 0] 63
  have hpl : p ≠ lb := by
    intro e
    have h1 : w.heap[p]? = _ := y.pb
    have h2 : w.heap[lb]? = _ := y.lb
    rw [e, h2] at h1; injection h1 with h1; injection h1 with _ h1; cases h1
  have hgl : ∀ i, i < j → g i ≠ lb := fun i hi e => by
    have h1 : w.heap[g i]? = _ := y.gb i hi
    have h2 : w.heap[lb]? = _ := y.lb
    rw [e, h2] at h1; injection h1 with h1; injection h1 with _ h1; cases h1
  have hl := y.lb.lt
  refine ⟨(y.pb.below hb).setO hpl _, ?_, fun i hi => ?_, fun i k hi hk hik => ?_, ?_, y.ge.1, y.ge.2.1, fun i hi => ?_⟩
  · rw [← ptrs2_set g _ j _ hj]
    exact (y.lb.below hb).set j _
  · by_cases e : i = j
    · subst e; rw [upd_at]; exact n1.setO (by omega) _
    · rw [upd_ne e]; exact ((y.gb i (by omega)).below hb).setO (hgl i (by omega)) _
  · by_cases ei : i = j <;> by_cases ek : k = j
    · omega
    · subst ei; rw [upd_at, upd_ne ek]; have := (y.gb k (by omega)).lt; omega
    · subst ek; rw [upd_at, upd_ne ei]; have := (y.gb i (by omega)).lt; omega
    · rw [upd_ne ei, upd_ne ek]; exact y.ap i k (by omega) (by omega) hik
  · exact (y.bl.trans (hb.mono y.bl.size)).setCell y.ge.2.1 _
  · by_cases e : i = j
    · subst e; rw [upd_at]; exact y.bl.size
    · rw [upd_ne e]; exact y.ge.2.2 i (by omega)
theorem Yn.done (y : Yn w0 w p lb g R R.length) (hf : R.length ≤ 16) (hr : ∀ i, i < R.length → 0 ≤ atR R i ∧ atR R i ≤ 1024) : Yx w p ⟨lb, g, fun _ => .slice none 0 0⟩ R [] ∧ ∀ b, Yo.has ⟨lb, g, fun _ => .slice none 0 0⟩ R p b → w0.heap.size ≤ b := by
  refine ⟨⟨y.pb, ?_, y.gb, fun i hi => ?_, fun i k hi hk hik => ⟨y.ap i k hi hk hik, fun b h => (by cases h)⟩, ⟨hf, hr, List.Pairwise.nil, fun r h => (by cases h), fun r h => (by cases h), fun i hi => (hr i hi).1⟩⟩, ?_⟩
  · rw [← ptrs2_all ⟨lb, g, fun _ => .slice none 0 0⟩]; exact y.lb
  · exact World.ownsRow_nil _ _ _ _
  · rintro b (rfl | rfl | ⟨i, hi, rfl⟩ | ⟨i, hi, h⟩)
    · exact y.ge.1
    · exact y.ge.2.1
    · exact y.ge.2.2 i hi
    · cases h
end
set_option maxHeartbeats 2000000 in
theorem yNew_many (w : World) (a : Option Addr) (n cap : Nat) (h : 16 < n) : Calls Try.prog 9 #[.slice a n cap] w fun e w' => e = .returned (.tuple #[.pointer none, .int .i64 3]) ∧ w' = w := by
  have hn : (16 : Int) < (n : Int) := by omega
  go_enter Try.func9, Try.ntmps9
  go_wp2_with fail
  go_ret2
  exact ⟨rfl, rfl⟩
set_option maxHeartbeats 4000000 in
theorem yNew (w : World) (a : Option Addr) (cap : Nat) (R : List Int) (hf : R.length ≤ 16) (hc : Cells w .i64 a R.length (atR R)) : Calls Try.prog 9 #[.slice a R.length cap] w fun e w' => Below w.heap.size w w' ∧ ((badR R = true ∧ e = .returned (.tuple #[.pointer none, .int .i64 1])) ∨ (badR R = false ∧ ∃ p o, e = .returned (.tuple #[ptr p, .int .i64 0]) ∧ Yx w' p o R [] ∧ ∀ b, o.has R p b → w.heap.size ≤ b)) := by
  have hm := fun W => ymake R.length W hf
  have HC : Hid (Cells w .i64 a R.length (atR R)) := hc
  clear hc
  have hn : ¬ (16 : Int) < (R.length : Int) := by omega
  go_enter Try.func9, Try.ntmps9
  go_wp2_with fail
  have Y0 : Hid (Yn w ((w.alloc (.cells (Array.replicate R.length (.pointer none)) 60)).alloc (.cells #[.slice (some ⟨w.heap.size, 0, none⟩) R.length R.length] 57)) (w.heap.size + 1) w.heap.size (fun _ => 0) R 0) := by
    have h1 := blk_new w (List.replicate R.length (.pointer none)) 60
    rw [← ptrs2_0 (fun _ => 0)] at h1
    have h2 := blk_new (w.alloc (.cells (List.replicate R.length (.pointer none)).toArray 60)) [.slice (some ⟨w.heap.size, 0, none⟩) R.length R.length] 57
    rw [World.size_alloc] at h2
    rw [show (Array.replicate R.length (Value.pointer none)) = (List.replicate R.length (Value.pointer none)).toArray by simp]
    rw [ptrs2_0] at h1
    refine ⟨h2, ?_, fun i hi => absurd hi (Nat.not_lt_zero _), fun i k hi => absurd hi (Nat.not_lt_zero _), ((Below.refl _ w).alloc (Nat.le_refl _) _).alloc (by simp) _, Nat.le_succ _, Nat.le_refl _, fun i hi => absurd hi (Nat.not_lt_zero _)⟩
    rw [ptrs2_0]
    exact h1.below ((Below.refl _ _).alloc (Nat.le_refl _) _)
  clear hm
  generalize w.heap.size + 1 = p at *
  go_loopw [17] (fun i wr => ∃ (j : Nat) (g : Nat → Nat), j ≤ R.length ∧ i = .int .i64 j ∧ Hid (Yn w wr p w.heap.size g R j ∧ ∀ k, k < j → 0 ≤ atR R k ∧ atR R k ≤ 1024)) (fun i _ => R.length - (intOf i).toNat)
  case atStart => exact ⟨0, _, Nat.zero_le _, rfl, Y0.out, fun k hk => absurd hk (Nat.not_lt_zero _)⟩
  case round =>
    obtain ⟨j, g, hj, rfl, hM⟩ := hrel
    clear Y0
    by_cases hlt : j < R.length
    · obtain ⟨b, off, rfl, hcell⟩ := HC.out j hlt
      have c1 := (hM.out.1.bl.cell (p := ⟨b, off + j, none⟩) (cell_lt hcell)).trans hcell
      have hel : R[j]? = some (atR R j) := by simp [atR, List.getD, hlt]
      clear hcell
      by_cases h0 : atR R j < 0
      · have HBad : Hid (badR R = true) := by
          show _ = _
          unfold badR
          rw [List.any_eq_true]
          exact ⟨atR R j, List.mem_of_getElem? hel, by simp [h0]⟩
        generalize atR R j = x at *
        go_wp2_with fail
        go_ret2
        exact ⟨hM.out.1.bl, .inl ⟨HBad.out, rfl⟩⟩
      · by_cases h1 : 1024 < atR R j
        · have HBad : Hid (badR R = true) := by
            show _ = _
            unfold badR
            rw [List.any_eq_true]
            exact ⟨atR R j, List.mem_of_getElem? hel, by simp [h1]⟩
          generalize atR R j = x at *
          go_wp2_with fail
          go_ret2
          exact ⟨hM.out.1.bl, .inl ⟨HBad.out, rfl⟩⟩
        · have y2 := hM.out.1.step hlt
          have HM2 : Hid (Yn w ((wr.alloc (.cells #[.int .i64 (atR R j), .slice none 0 0] 63)).setCell ⟨w.heap.size, j, none⟩ (ptr wr.heap.size)) p w.heap.size (upd g j wr.heap.size) R (j + 1) ∧ ∀ k, k < j + 1 → 0 ≤ atR R k ∧ atR R k ≤ 1024) :=
            ⟨y2, fun k hk => by
              by_cases e : k = j
              · rw [e]; omega
              · exact hM.out.2 k (by omega)⟩
          have hbx : Below wr.heap.size wr (wr.alloc (.cells #[.int .i64 (atR R j), .slice none 0 0] 63)) := (Below.refl _ wr).alloc (Nat.le_refl _) _
          have p1 := (hM.out.1.pb.below hbx).cell (i := 0) rfl
          have p2 := hM.out.1.pb.cell (i := 0) rfl
          have l1 : ∃ v, (wr.alloc (.cells #[.int .i64 (atR R j), .slice none 0 0] 63)).cell? ⟨w.heap.size, j, none⟩ = some v := ⟨_, (hM.out.1.lb.below hbx).cell (i := j) (by unfold ptrs2; rw [List.getElem?_map, List.getElem?_range hlt]; rfl)⟩
          have l2 := (hM.out.1.lb.below hbx).fz j
          obtain ⟨v, l1⟩ := l1
          have h1' : atR R j ≤ 1024 := by omega
          clear y2 hbx hel
          generalize atR R j = x at *
          go_wp2_with fail
          go_roundw
          case rel => exact ⟨j + 1, _, by omega, by go_num, HM2⟩
          case measure => simp [intOf]; omega
    · obtain rfl : j = R.length := by omega
      have HG : Hid (badR R = false) := by
        show _ = _
        unfold badR
        rw [Bool.eq_false_iff]
        intro h
        rw [List.any_eq_true] at h
        obtain ⟨x, hx, hb⟩ := h
        obtain ⟨k, hk⟩ := List.getElem?_of_mem hx
        have hkl := (List.getElem?_eq_some_iff.1 hk).1
        have h2 := hM.out.2 k hkl
        have : atR R k = x := by simp [atR, List.getD, hk]
        rw [this] at h2
        simp at hb
        omega
      go_wp2_with fail
      go_ret2
      obtain ⟨x, hx⟩ := hM.out.1.done hf hM.out.2
      exact ⟨hM.out.1.bl, .inr ⟨HG.out, p, _, rfl, x, hx⟩⟩
end Go.Proofs.Ytcfmbppnghlkaaa
