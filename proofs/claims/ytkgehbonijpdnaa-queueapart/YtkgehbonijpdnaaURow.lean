/- Rows that are made and copied. -/
import Derived.Test.YtkgehbonijpdnaaULeaf
import Derived.Laws.MakeOwn
import Derived.Lib.SlBuf
namespace Go.Proofs.Ytkgehbonijpdnaa
open Go.RowKit Go.Lib
open Go.Sort hiding Below
set_option maxRecDepth 100000

theorem eltI : Elt 25 3 1 8 (.int .i64 0) := ⟨Try.underlying25, by kernel_rfl, rfl, by decide, by decide⟩
theorem eltM : Elt 28 44 4 32 (.agg #[.int .i64 0, .int .i64 0, .int .i64 0, .int .u64 0]) := ⟨Try.underlying28, by kernel_rfl, rfl, by decide, by decide⟩
theorem eltP : Elt 27 57 6 64 (.agg #[.int .i64 0, .bool false, .int .i64 0, .slice none 0 0, .int .i64 0, .int .i64 0]) := ⟨Try.underlying27, by kernel_rfl, rfl, by decide, by decide⟩
theorem eltS : Elt 60 74 7 72 (.agg #[.int .i64 0, .bool false, .int .i64 0, .slice none 0 0, .int .i64 0, .int .i64 0, .int .i64 0]) := ⟨Try.underlying60, by kernel_rfl, rfl, by decide, by decide⟩

theorem umade_at {zs : Array Value} {n i : Nat} {v : Value} (hi : i < n) (hz : zs[i % zs.size]? = some v) : (madeCells zs n)[i]? = some v := by
  have h1 : i % zs.size < zs.size := (Array.getElem?_eq_some_iff.1 hz).1
  have h2 := (Array.getElem?_eq_some_iff.1 hz).2
  simp [madeCells, hi, h1, h2]
theorem make_rw {t e : TypeId} {size bytes : Nat} {z : Value} (E0 : Elt t e size bytes z) (w : World) (n : Nat) (hn : n ≤ 100000) :
    ∃ W, (Instr.makeSlice t (.int .i64 (n : Int)) (.int .i64 (n : Int))).run Try.prog w = .ok (.slice (some ⟨w.heap.size, 0, none⟩) n n) W ∧ Rw W w.heap.size e n size (fun _ f => z.cells.getD f undef) ∧ Below w.heap.size w W ∧ W.heap.size = w.heap.size + 1 := by
  obtain ⟨i0, hi, hz0, hz1, hz2⟩ := info_parts E0.hi
  have hb : (bytes : Int) * (n : Int) ≤ 281474976710656 := by
    have h1 := Nat.mul_le_mul E0.hb hn
    have h2 : ((bytes * n : Nat) : Int) = (bytes : Int) * (n : Int) := by simp
    omega
  have hrun := run_make (P := Try.prog) w t e i0 z E0.ht hi hz0 .i64 .i64 n n (by omega) (Int.le_refl _) (by rw [hz2]; exact hb) (by omega)
  rw [hz1] at hrun
  simp only [Int.toNat_natCast] at hrun
  refine ⟨_, hrun, ⟨_, gheap_new _ _, size_madeCells _ _, fun j hj f hf => ?_⟩, below_new _ _, by simp⟩
  refine umade_at (mul_lt_of hj hf) ?_
  have hzs := E0.hz
  have hf' : f < z.cells.size := by omega
  have e : (j * size + f) % z.cells.size = f := by rw [hzs, Nat.mul_comm, Nat.mul_add_mod]; exact Nat.mod_eq_of_lt hf
  rw [e]
  simp [hf']

/-- the cells of n elements in a row -/
def cellsL (n s : Nat) (c : Nat → Nat → Value) : List Value := (List.range (n * s)).map fun i => c (i / s) (i % s)
theorem cellsL_len (n s : Nat) (c : Nat → Nat → Value) : (cellsL n s c).length = n * s := by simp [cellsL]
theorem cellsL_at {n s : Nat} {c : Nat → Nat → Value} {j f : Nat} (hj : j < n) (hf : f < s) : (cellsL n s c)[j * s + f]? = some (c j f) := by
  have h := mul_lt_of hj hf
  have h1 : (j * s + f) / s = j := by rw [Nat.mul_comm, Nat.mul_add_div (by omega), Nat.div_eq_of_lt hf]; rfl
  have h2 : (j * s + f) % s = f := by rw [Nat.mul_comm, Nat.mul_add_mod]; exact Nat.mod_eq_of_lt hf
  simp [cellsL, h, h1, h2]
theorem cellsL_src {w : World} {b off n s : Nat} {c : Nat → Nat → Value} (h : ∀ j, j < n → ∀ f, f < s → w.cell? ⟨b, off + j * s + f, none⟩ = some (c j f)) {i : Nat} {v : Value} (hi : (cellsL n s c)[i]? = some v) : w.cell? ⟨b, off + i, none⟩ = some v := by
  have hl := (List.getElem?_eq_some_iff.1 hi).1
  rw [cellsL_len] at hl
  have hs : 0 < s := by
    rcases Nat.eq_zero_or_pos s with h | h
    · subst h; simp at hl
    · exact h
  have hj : i / s < n := (Nat.div_lt_iff_lt_mul hs).2 hl
  have hf : i % s < s := Nat.mod_lt _ hs
  have e : i / s * s + i % s = i := by rw [Nat.mul_comm]; exact Nat.div_add_mod i s
  have h1 := cellsL_at (c := c) hj hf
  rw [e, hi] at h1
  have h2 := h _ hj _ hf
  rw [show off + i / s * s + i % s = off + i by omega] at h2
  rw [h2, h1]
theorem cellsL_mem {n s : Nat} {c : Nat → Nat → Value} (hs : 0 < s) (h1 : ∀ j, j < n → ∀ f, f < s → (c j f).oneCell' = true) : ∀ v ∈ cellsL n s c, v.oneCell' = true := by
  intro v hv
  simp only [cellsL, List.mem_map, List.mem_range] at hv
  obtain ⟨i, hi, rfl⟩ := hv
  exact h1 _ ((Nat.div_lt_iff_lt_mul hs).2 hi) _ (Nat.mod_lt _ hs)
/-- a row is copied -/
theorem copy_rw {t e ty : TypeId} {size bytes n : Nat} {z v : Value} {c c0 : Nat → Nat → Value} (E0 : Elt t e size bytes z) {w : World} {g : Nat} (hv : Sl w size n c v) (hg : Rw w g e n size c0) (h1 : ∀ j, j < n → ∀ f, f < size → (c j f).oneCell' = true) :
    ∃ W, (Builtin.copy_ #[t, t] ty #[.slice (some ⟨g, 0, none⟩) n n, v]).run Try.prog w = .ok (goInt n) W ∧ Rw W g e n size c ∧ (∀ B, B ≤ g → Below B w W) ∧ W.heap.size = w.heap.size := by
  obtain ⟨i0, hi, hz0, hz1, hz2⟩ := info_parts E0.hi
  obtain ⟨a, cap, rfl, hcap, hnil, hr⟩ := hv
  obtain ⟨arr, ha, hs, hc⟩ := hg
  have hm := cellsL_mem E0.hs h1
  have hst := run_storeCells_at Try.prog g 0 e (cellsL n size c) 0 arr w ha (by rw [cellsL_len]; omega) hm
  have e1 : (arr.toList.take (0 + 0) ++ cellsL n size c ++ arr.toList.drop (0 + 0 + (cellsL n size c).length)).toArray = (cellsL n size c).toArray := by
    rw [cellsL_len]
    simp [hs]
  rw [e1] at hst
  refine ⟨w.setRow g (cellsL n size c).toArray, ?_, ⟨_, setRow_heap w g _ _ e _ ha, by simp [cellsL_len], fun j hj f hf => by simpa using cellsL_at hj hf⟩, fun B hB => ⟨rfl, rfl, rfl, by simp [World.setRow], fun k hk => setRow_other w g k _ (by omega)⟩, by simp [World.setRow]⟩
  by_cases h0 : n = 0
  · subst h0
    have hcl : cellsL 0 size c = [] := List.length_eq_zero_iff.1 (by rw [cellsL_len]; omega)
    rw [hcl] at hst ⊢
    cases a with
    | none =>
      simp [Builtin.copy_, run_underlying E0.ht, Builtin.lenOf, Builtin.firstCells, sizeOf, typeInfo, hi, hst]
    | some a =>
      have hl := run_loadCells_list (P := Try.prog) w a [] (fun j u h => by simp at h)
      simp only [List.length_nil] at hl
      simp [Builtin.copy_, run_underlying E0.ht, Builtin.lenOf, Builtin.firstCells, sizeOf, typeInfo, hi, hl, hst]
  · obtain ⟨b, off, rfl, _⟩ := hr 0 (by omega)
    have hsrc : ∀ j u, (cellsL n size c)[j]? = some u → w.cell? ((⟨b, off, none⟩ : Addr).add j) = some u := fun j u hj => by
      rw [Go.WideShapes.add_plain]
      refine cellsL_src (fun j hj f hf => ?_) hj
      obtain ⟨b', off', e', hc'⟩ := hr j hj
      cases e'
      exact hc' f hf
    have hl := run_loadCells_list (P := Try.prog) w ⟨b, off, none⟩ (cellsL n size c) hsrc
    rw [cellsL_len] at hl
    simp [Builtin.copy_, run_underlying E0.ht, Builtin.lenOf, Builtin.firstCells, sizeOf, typeInfo, hi, hz1, hl, hst]

set_option maxHeartbeats 1000000 in
theorem copiedI_any (v : Value) (n : Nat) (c : Nat → Nat → Value) (w : World) (hn : n ≤ 1000) (hv : Sl w 1 n c v) (h1 : ∀ j, j < n → ∀ f, f < 1 → (c j f).oneCell' = true) :
    Calls Try.prog 33 #[v] w fun e w' => e = .returned (.slice (some ⟨w.heap.size, 0, none⟩) n n) ∧ Rw w' w.heap.size 3 n 1 c ∧ Below w.heap.size w w' ∧ w'.heap.size = w.heap.size + 1 := by
  obtain ⟨W1, hrun, hrw, hb1, hs1⟩ := make_rw eltI w n (by omega)
  obtain ⟨W2, hcp, hrw2, hb2, hs2⟩ := copy_rw (ty := 3) eltI (hv.below hb1) hrw h1
  have HR : Hid (Rw W2 w.heap.size 3 n 1 c) := hrw2
  have HB : Hid (Below w.heap.size w W2) := hb1.trans (hb2 _ (Nat.le_refl _))
  have HS : Hid (W2.heap.size = w.heap.size + 1) := hs2.trans hs1
  obtain ⟨a, cap, rfl, hcap, _, hr⟩ := hv
  clear hr hrw hrw2 hb1 hb2 hs1 hs2 h1
  go_enter Try.func33, Try.ntmps33
  go_wp2_with (at_builtin; refine wpList_copy_run _ rfl _ _ _ _ rfl _ _ rfl rfl hcp ?_)
  go_ret
  exact ⟨rfl, HR.out, HB.out, HS.out⟩
set_option maxHeartbeats 1000000 in
theorem copiedM_any (v : Value) (n : Nat) (c : Nat → Nat → Value) (w : World) (hn : n ≤ 1000) (hv : Sl w 4 n c v) (h1 : ∀ j, j < n → ∀ f, f < 4 → (c j f).oneCell' = true) :
    Calls Try.prog 25 #[v] w fun e w' => e = .returned (.slice (some ⟨w.heap.size, 0, none⟩) n n) ∧ Rw w' w.heap.size 44 n 4 c ∧ Below w.heap.size w w' ∧ w'.heap.size = w.heap.size + 1 := by
  obtain ⟨W1, hrun, hrw, hb1, hs1⟩ := make_rw eltM w n (by omega)
  obtain ⟨W2, hcp, hrw2, hb2, hs2⟩ := copy_rw (ty := 3) eltM (hv.below hb1) hrw h1
  have HR : Hid (Rw W2 w.heap.size 44 n 4 c) := hrw2
  have HB : Hid (Below w.heap.size w W2) := hb1.trans (hb2 _ (Nat.le_refl _))
  have HS : Hid (W2.heap.size = w.heap.size + 1) := hs2.trans hs1
  obtain ⟨a, cap, rfl, hcap, _, hr⟩ := hv
  clear hr hrw hrw2 hb1 hb2 hs1 hs2 h1
  go_enter Try.func25, Try.ntmps25
  go_wp2_with (at_builtin; refine wpList_copy_run _ rfl _ _ _ _ rfl _ _ rfl rfl hcp ?_)
  go_ret
  exact ⟨rfl, HR.out, HB.out, HS.out⟩
set_option maxHeartbeats 1000000 in
theorem copiedP_any (v : Value) (n : Nat) (c : Nat → Nat → Value) (w : World) (hn : n ≤ 1000) (hv : Sl w 6 n c v) (h1 : ∀ j, j < n → ∀ f, f < 6 → (c j f).oneCell' = true) :
    Calls Try.prog 36 #[v] w fun e w' => e = .returned (.slice (some ⟨w.heap.size, 0, none⟩) n n) ∧ Rw w' w.heap.size 57 n 6 c ∧ Below w.heap.size w w' ∧ w'.heap.size = w.heap.size + 1 := by
  obtain ⟨W1, hrun, hrw, hb1, hs1⟩ := make_rw eltP w n (by omega)
  obtain ⟨W2, hcp, hrw2, hb2, hs2⟩ := copy_rw (ty := 3) eltP (hv.below hb1) hrw h1
  have HR : Hid (Rw W2 w.heap.size 57 n 6 c) := hrw2
  have HB : Hid (Below w.heap.size w W2) := hb1.trans (hb2 _ (Nat.le_refl _))
  have HS : Hid (W2.heap.size = w.heap.size + 1) := hs2.trans hs1
  obtain ⟨a, cap, rfl, hcap, _, hr⟩ := hv
  clear hr hrw hrw2 hb1 hb2 hs1 hs2 h1
  go_enter Try.func36, Try.ntmps36
  go_wp2_with (at_builtin; refine wpList_copy_run _ rfl _ _ _ _ rfl _ _ rfl rfl hcp ?_)
  go_ret
  exact ⟨rfl, HR.out, HB.out, HS.out⟩

end Go.Proofs.Ytkgehbonijpdnaa
