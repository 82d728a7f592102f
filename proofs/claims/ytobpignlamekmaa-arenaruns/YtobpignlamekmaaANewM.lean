/- An arena while New makes it. -/
import Derived.Test.YtobpignlamekmaaANew
namespace Go.Proofs.Ytobpignlamekmaa
open Go.RowKit Go.Sort
set_option maxRecDepth 100000

theorem make_parts (w : World) (n : Nat) (hn : n ≤ 16) : Sem.run Try.prog (Instr.makeSlice 60 (.int .i64 (n : Int)) (.int .i64 (n : Int))) w = .ok (.slice (some ⟨w.heap.size, 0, none⟩) n n) (w.alloc (.cells (madeCells (Value.agg (#[.int .i64 0, .int .i64 0] ++ Array.replicate 256 (.int .u64 0))).cells (n * 258)) 70)) := by
  obtain ⟨i0, hi, hz0, hz1, hz2⟩ := info_parts Try.infoPartition
  have := run_make (P := Try.prog) w 60 70 i0 _ Try.underlying60 hi hz0 .i64 .i64 n n (by omega) (Int.le_refl _) (by rw [hz2]; omega) (by omega)
  rw [hz1] at this
  simpa using this

def encS (h : Sh) : Nat → List Value
  | 0 => []
  | m + 1 => encS h m ++ [.int .i64 (h.pt m : Int), .int .u64 0]
theorem encS_len (h : Sh) (m : Nat) : (encS h m).length = m * 2 := by
  induction m with
  | zero => rfl
  | succ m ih => simp [encS, ih]; omega
theorem encS_at (h : Sh) (m x : Nat) (hx : x < m) : (encS h m)[x * 2]? = some (.int .i64 (h.pt x : Int)) ∧ (encS h m)[x * 2 + 1]? = some (.int .u64 0) := by
  induction m with
  | zero => omega
  | succ m ih =>
    by_cases e : x = m
    · subst e
      simp only [encS]
      rw [List.getElem?_append_right (by rw [encS_len]; omega), List.getElem?_append_right (by rw [encS_len]; omega), encS_len]
      simp
    · have := ih (by omega)
      simp only [encS]
      rw [List.getElem?_append_left (by rw [encS_len]; omega), List.getElem?_append_left (by rw [encS_len]; omega)]
      exact this

structure Nw (W : World) (base p bp : Nat) (h : Sh) (k m : Nat) : Prop where
  kp : ∃ cs, W.heap[p]? = some (.cells cs 64 (0, 0))
  kb : ∃ cs, W.heap[bp]? = some (.cells cs 70 (0, 0))
  c0 : W.cell? ⟨p, 0, none⟩ = some (.slice (some ⟨bp, 0, none⟩) h.P h.P)
  c1 : ∃ sa sc, W.cell? ⟨p, 1, none⟩ = some (.slice sa m sc) ∧ W.ownsRow base 72 2 (.slice sa m sc) m (encS h m)
  c2 : W.cell? ⟨p, 2, none⟩ = some (.pointer none)
  f0 : ∀ j, j < h.P → W.cell? ⟨bp, j * 258, none⟩ = some (.int .i64 ((if j < k then h.fs j else 0 : Nat) : Int))
  f1 : ∀ j, j < h.P → W.cell? ⟨bp, j * 258 + 1, none⟩ = some (.int .i64 ((if j < k then h.sz j else 0 : Nat) : Int))
  g : ∀ j i, j < h.P → i < 256 → W.cell? ⟨bp, j * 258 + 2 + i, none⟩ = some (.int .u64 0)
  b0 : base ≤ p
  b1 : base ≤ bp

section
variable {W : World} {base p bp k m : Nat} {h : Sh}
theorem Nw.ne (a : Nw W base p bp h k m) : p ≠ bp := by
  obtain ⟨x, hx⟩ := a.kp
  obtain ⟨y, hy⟩ := a.kb
  rintro rfl
  rw [hx] at hy
  cases hy
theorem Nw.fp (a : Nw W base p bp h k m) (i : Nat) : W.frozen? ⟨p, i, none⟩ = false := by
  obtain ⟨x, hx⟩ := a.kp
  exact frozen_of_row _ _ i _ _ hx
theorem Nw.fb (a : Nw W base p bp h k m) (i : Nat) : W.frozen? ⟨bp, i, none⟩ = false := by
  obtain ⟨x, hx⟩ := a.kb
  exact frozen_of_row _ _ i _ _ hx
theorem Nw.drew (a : Nw W base p bp h k m) : Nw W.drew base p bp h k m := ⟨a.kp, a.kb, a.c0, a.c1, a.c2, a.f0, a.f1, a.g, a.b0, a.b1⟩
theorem kind_set {W : World} {b : Nat} {T : TypeId} {q : Addr} {v : Value} (hk : ∃ cs, W.heap[b]? = some (.cells cs T (0, 0))) : ∃ cs, (W.setCell q v).heap[b]? = some (.cells cs T (0, 0)) := by
  obtain ⟨cs, hc⟩ := hk
  by_cases e : b = q.block
  · subst e
    refine ⟨if q.spot.isSome then cs else cs.setIfInBounds q.off v, ?_⟩
    simp [World.setCell, Array.getElem?_modify, hc]
  · exact ⟨cs, (Below.heap_setCell _ _ _ _ e).trans hc⟩
/-- the row lies in neither -/
theorem Nw.row (a : Nw W base p bp h k m) {sa : Option Addr} {sc : Nat} (hr : W.ownsRow base 72 2 (.slice sa m sc) m (encS h m)) : Value.ownBlock (.slice sa m sc) ≠ some p ∧ Value.ownBlock (.slice sa m sc) ≠ some bp := by
  obtain ⟨x, hx⟩ := a.kp
  obtain ⟨y, hy⟩ := a.kb
  rcases hr.2 with ⟨e, _⟩ | ⟨g, cap, cur, e, _, hg, _⟩
  · rw [e]; exact ⟨by simp [Value.ownBlock], by simp [Value.ownBlock]⟩
  · rw [e]
    constructor
    · intro e'; simp [Value.ownBlock] at e'; subst e'; rw [hx] at hg; cases hg
    · intro e'; simp [Value.ownBlock] at e'; subst e'; rw [hy] at hg; cases hg
/-- a partition's first slot and size are laid -/
theorem Nw.part (a : Nw W base p bp h k m) (hk : k < h.P) : Nw ((W.setCell ⟨bp, k * 258, none⟩ (.int .i64 (h.fs k : Int))).setCell ⟨bp, k * 258 + 1, none⟩ (.int .i64 (h.sz k : Int))) base p bp h (k + 1) m := by
  have hne := a.ne
  obtain ⟨sa, sc, e1, e2⟩ := a.c1
  have hrow := a.row e2
  refine ⟨kind_set (kind_set a.kp), kind_set (kind_set a.kb), ?_, ⟨sa, sc, ?_, ?_⟩, ?_, ?_, ?_, ?_, a.b0, a.b1⟩
  · rw [cell_set_ne (.inl hne), cell_set_ne (.inl hne)]; exact a.c0
  · rw [cell_set_ne (.inl hne), cell_set_ne (.inl hne)]; exact e1
  · have hx : ∀ (W : World) (i : Nat) (v : Value), W.ownsRow base 72 2 (.slice sa m sc) m (encS h m) → (W.setCell ⟨bp, i, none⟩ v).ownsRow base 72 2 (.slice sa m sc) m (encS h m) := fun W i v hw => by
      refine ⟨hw.1, ?_⟩
      rcases hw.2 with hn | ⟨g, cap, cur, e, hb, hg, rest⟩
      · exact .inl hn
      · refine .inr ⟨g, cap, cur, e, hb, ?_, rest⟩
        refine (Below.heap_setCell _ _ _ _ ?_).trans hg
        rintro rfl
        exact hrow.2 (by rw [e]; rfl)
    exact hx _ _ _ (hx _ _ _ e2)
  · rw [cell_set_ne (.inl hne), cell_set_ne (.inl hne)]; exact a.c2
  · intro j hj
    rw [cell_set_ne (.inr (by omega))]
    by_cases e : j = k
    · subst e; rw [cell_set_eq (a.f0 j hj), if_pos (by omega)]
    · rw [cell_set_ne (.inr (by omega)), a.f0 j hj]
      by_cases e' : j < k
      · rw [if_pos e', if_pos (by omega)]
      · rw [if_neg e', if_neg (by omega)]
  · intro j hj
    by_cases e : j = k
    · subst e
      rw [cell_set_eq (u := .int .i64 ((if j < j then h.sz j else 0 : Nat) : Int)) (by rw [cell_set_ne (.inr (by omega))]; exact a.f1 j hj), if_pos (by omega)]
    · rw [cell_set_ne (.inr (by omega)), cell_set_ne (.inr (by omega)), a.f1 j hj]
      by_cases e' : j < k
      · rw [if_pos e', if_pos (by omega)]
      · rw [if_neg e', if_neg (by omega)]
  · intro j i hj hi
    rw [cell_set_ne (.inr (by omega)), cell_set_ne (.inr (by omega))]; exact a.g j i hj hi
/-- one slot more -/
theorem Nw.more (a : Nw W base p bp h k m) {W' : World} {tmp : Obj} {sa : Option Addr} {sc : Nat} {v' : Value} (e1 : W.cell? ⟨p, 1, none⟩ = some (.slice sa m sc)) (e2 : W.ownsRow base 72 2 (.slice sa m sc) m (encS h m))
    (hown : W'.ownsRow base 72 2 v' (m + 1) (encS h m ++ [.int .i64 (h.pt m : Int), .int .u64 0])) (hgrow : (W.alloc tmp).grownBy W' (Value.ownBlock (.slice sa m sc))) :
    Nw (W'.setCell ⟨p, 1, none⟩ v') base p bp h k (m + 1) ∧ W'.cell? ⟨p, 1, none⟩ = some (.slice sa m sc) ∧ W'.frozen? ⟨p, 1, none⟩ = false ∧ (∃ sa' sc', v' = .slice sa' (m + 1) sc') ∧ W'.cell? ⟨p, 0, none⟩ = some (.slice (some ⟨bp, 0, none⟩) h.P h.P) := by
  have hne := a.ne
  have hrow := a.row e2
  have hlp : p < W.heap.size := cell_lt e1
  have hlb : bp < W.heap.size := by obtain ⟨x, hx⟩ := a.kb; exact (Array.getElem?_eq_some_iff.1 hx).1
  have gp : W'.heap[p]? = W.heap[p]? := (hgrow.block p (by simp; omega) (Ne.symm hrow.1)).trans (Below.heap_alloc _ _ _ hlp)
  have gb : W'.heap[bp]? = W.heap[bp]? := (hgrow.block bp (by simp; omega) (Ne.symm hrow.2)).trans (Below.heap_alloc _ _ _ hlb)
  have cp : ∀ i, W'.cell? ⟨p, i, none⟩ = W.cell? ⟨p, i, none⟩ := fun i => World.cell?_of_block (w := W) (a := ⟨p, i, none⟩) gp
  have cb : ∀ i, W'.cell? ⟨bp, i, none⟩ = W.cell? ⟨bp, i, none⟩ := fun i => World.cell?_of_block (w := W) (a := ⟨bp, i, none⟩) gb
  have kp' : ∃ cs, W'.heap[p]? = some (.cells cs 64 (0, 0)) := by rw [gp]; exact a.kp
  have kb' : ∃ cs, W'.heap[bp]? = some (.cells cs 70 (0, 0)) := by rw [gb]; exact a.kb
  obtain ⟨sa', sc', rfl⟩ : ∃ sa' sc', v' = .slice sa' (m + 1) sc' := by
    rcases hown.2 with ⟨_, e⟩ | ⟨g, cap, cur, e, _⟩
    · omega
    · exact ⟨_, _, e⟩
  refine ⟨⟨kind_set kp', kind_set kb', ?_, ⟨sa', sc', ?_, ?_⟩, ?_, ?_, ?_, ?_, a.b0, a.b1⟩, (cp 1).trans e1, ?_, ⟨sa', sc', rfl⟩, (cp 0).trans a.c0⟩
  · rw [cell_set_ne (.inr (by omega)), cp]; exact a.c0
  · exact cell_set_eq ((cp 1).trans e1)
  · refine ⟨hown.1, ?_⟩
    rcases hown.2 with ⟨_, e⟩ | ⟨g, cap, cur, e, hb, hg, rest⟩
    · omega
    · refine .inr ⟨g, cap, cur, e, hb, ?_, rest⟩
      refine (Below.heap_setCell _ _ _ _ ?_).trans hg
      intro e'
      have e'' : g = p := e'
      rw [e''] at hg
      obtain ⟨x, hx⟩ := kp'
      rw [hx] at hg
      cases hg
  · rw [cell_set_ne (.inr (by omega)), cp]; exact a.c2
  · intro j hj; rw [cell_set_ne (.inl (Ne.symm hne)), cb]; exact a.f0 j hj
  · intro j hj; rw [cell_set_ne (.inl (Ne.symm hne)), cb]; exact a.f1 j hj
  · intro j i hj hi; rw [cell_set_ne (.inl (Ne.symm hne)), cb]; exact a.g j i hj hi
  · obtain ⟨x, hx⟩ := kp'; exact frozen_of_row _ _ 1 _ _ hx
end

theorem below_grown {base : Nat} {w wr w3 : World} {tmp : Obj} {row : Option Nat} (hbel : Below base w wr) (hb : base ≤ wr.heap.size) (hg : (wr.alloc tmp).grownBy w3 row) (hrow : ∀ k, row = some k → base ≤ k) : Below base w w3 := by
  have h1 := hbel.alloc hb tmp
  exact ⟨hg.os.trans h1.os, hg.tape.trans h1.tape, hg.output.trans h1.output, Nat.le_trans h1.size hg.size, fun k hk => (hg.block k (by simp; omega) (fun e => by have := hrow k e.symm; omega)).trans (h1.block k hk)⟩
theorem two_new (w : World) (x y : Value) (t : TypeId) : ∀ j u, [x, y][j]? = some u → (w.alloc (.cells #[x, y] t)).cell? ((⟨w.heap.size, 0, none⟩ : Addr).add j) = some u := by
  intro j u hj
  have hb : (w.alloc (.cells #[x, y] t)).heap[w.heap.size]? = some (.cells #[x, y] t (0, 0)) := World.alloc_heap_new w _
  rw [Addr.add_lit, Nat.zero_add, cell_of_row _ _ j _ t (0, 0) hb]
  match j, hj with
  | 0, hj => exact hj
  | 1, hj => exact hj

theorem nw_start (w : World) (h : Sh) : Nw ((w.alloc (.cells (madeCells (#[.int .i64 0, .int .i64 0] ++ Array.replicate 256 (.int .u64 0)) (h.P * 258)) 70)).alloc (.cells #[.slice (some ⟨w.heap.size, 0, none⟩) h.P h.P, .slice none 0 0, .pointer none] 64)) w.heap.size (w.heap.size + 1) w.heap.size h 0 0 := by
  generalize hA : (#[Value.int .i64 0, .int .i64 0] ++ Array.replicate 256 (Value.int .u64 0) : Array Value) = Z
  have hs : Z.size = 258 := by rw [← hA]; simp
  have z0 : Z[0]? = some (.int .i64 0) := by rw [← hA, Array.getElem?_append_left (by simp)]; rfl
  have z1 : Z[1]? = some (.int .i64 0) := by rw [← hA, Array.getElem?_append_left (by simp)]; rfl
  have z2 : ∀ i, i < 256 → Z[2 + i]? = some (.int .u64 0) := fun i hi => by
    rw [← hA, Array.getElem?_append_right (by simp)]
    simp [hi]
  clear hA
  have e1 : ((w.alloc (.cells (madeCells Z (h.P * 258)) 70)).alloc (.cells #[.slice (some ⟨w.heap.size, 0, none⟩) h.P h.P, .slice none 0 0, .pointer none] 64)).heap[w.heap.size]? = some (.cells (madeCells Z (h.P * 258)) 70 (0, 0)) := by
    rw [Below.heap_alloc _ _ _ (by simp)]; exact World.alloc_heap_new w _
  have e2 : ((w.alloc (.cells (madeCells Z (h.P * 258)) 70)).alloc (.cells #[.slice (some ⟨w.heap.size, 0, none⟩) h.P h.P, .slice none 0 0, .pointer none] 64)).heap[w.heap.size + 1]? = some (.cells #[.slice (some ⟨w.heap.size, 0, none⟩) h.P h.P, .slice none 0 0, .pointer none] 64 (0, 0)) := by
    have := World.alloc_heap_new (w.alloc (.cells (madeCells Z (h.P * 258)) 70)) (.cells #[.slice (some ⟨w.heap.size, 0, none⟩) h.P h.P, .slice none 0 0, .pointer none] 64)
    rwa [show (w.alloc (.cells (madeCells Z (h.P * 258)) 70)).heap.size = w.heap.size + 1 by simp] at this
  generalize (w.alloc (.cells (madeCells Z (h.P * 258)) 70)).alloc _ = W at *
  have c : ∀ b i (zs : Array Value) T, W.heap[b]? = some (.cells zs T (0, 0)) → W.cell? ⟨b, i, none⟩ = zs[i]? := fun b i zs T h => by simp [World.cell?, h]
  refine ⟨⟨_, e2⟩, ⟨_, e1⟩, ?_, ⟨none, 0, ?_, World.ownsRow_nil _ _ _ _⟩, ?_, ?_, ?_, ?_, by omega, Nat.le_refl _⟩
  · rw [c _ _ _ _ e2]; rfl
  · rw [c _ _ _ _ e2]; rfl
  · rw [c _ _ _ _ e2]; rfl
  · intro j hj
    rw [c _ _ _ _ e1, if_neg (by omega)]
    exact made_at (by omega) (by rw [hs, show j * 258 % 258 = 0 by omega]; exact z0)
  · intro j hj
    rw [c _ _ _ _ e1, if_neg (by omega)]
    exact made_at (by omega) (by rw [hs, show (j * 258 + 1) % 258 = 1 by omega]; exact z1)
  · intro j i hj hi
    rw [c _ _ _ _ e1]
    exact made_at (by omega) (by rw [hs, show (j * 258 + 2 + i) % 258 = 2 + i by omega]; exact z2 i hi)
end Go.Proofs.Ytobpignlamekmaa
