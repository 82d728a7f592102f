/- The document's arena while New makes it. -/
import Derived.Test.YtobpignlamekmaaQActs
namespace Go.Proofs.Ytobpignlamekmaa
open Go.RowKit Go.Sort
set_option maxRecDepth 100000

def zer : Nat → List Value
  | 0 => []
  | m + 1 => zer m ++ [.int .u64 0, .int .u64 0, .bool false]
theorem zer_len (m : Nat) : (zer m).length = m * 3 := by
  induction m with
  | zero => rfl
  | succ m ih => simp [zer, ih]; omega
theorem zer_at (m x : Nat) (hx : x < m) : (zer m)[x * 3]? = some (.int .u64 0) ∧ (zer m)[x * 3 + 1]? = some (.int .u64 0) ∧ (zer m)[x * 3 + 2]? = some (.bool false) := by
  induction m with
  | zero => omega
  | succ m ih =>
    by_cases e : x = m
    · subst e
      simp only [zer]
      rw [List.getElem?_append_right (by rw [zer_len]; omega), List.getElem?_append_right (by rw [zer_len]; omega), List.getElem?_append_right (by rw [zer_len]; omega), zer_len]
      simp
    · have := ih (by omega)
      simp only [zer]
      rw [List.getElem?_append_left (by rw [zer_len]; omega), List.getElem?_append_left (by rw [zer_len]; omega), List.getElem?_append_left (by rw [zer_len]; omega)]
      exact this
/-- the numbers of a partition's slots -/
def Lk (h : Sh) (j : Nat) : List Nat := (List.range (h.sz j)).map (h.fs j + ·)

structure Nq (W : World) (base top p bz zc : Nat) (h : Sh) (k m : Nat) : Prop where
  kp : ∃ cs, W.heap[p]? = some (.cells cs 79 (0, 0))
  kz : ∃ cs, W.heap[bz]? = some (.cells cs 3 (0, 0))
  c0 : W.cell? ⟨p, 0, none⟩ = some (.slice (some ⟨bz, 0, none⟩) h.P zc)
  z : ∀ j, j < h.P → W.cell? ⟨bz, j, none⟩ = some (.int .i64 (h.sz j : Int))
  c1 : ∃ a c, W.cell? ⟨p, 1, none⟩ = some (.slice a m c) ∧ W.ownsRow base 81 3 (.slice a m c) m (zer m)
  c2 : ∃ a c vs, W.cell? ⟨p, 2, none⟩ = some (.slice a k c) ∧ W.ownsRow base 22 1 (.slice a k c) k vs ∧ ∀ j, j < k → ∃ v, vs[j]? = some v ∧ W.ownsRow base 3 1 v (Lk h j).length (encL (Lk h j)) ∧ ∀ b, v.ownBlock = some b → b < top
  b0 : base ≤ p ∧ base ≤ bz ∧ bz < top ∧ top ≤ W.heap.size

/-- a row's block is of its type -/
theorem row_kind {W : World} {base e size n : Nat} {v : Value} {xs : List Value} (r : W.ownsRow base e size v n xs) {b : Nat} (hb : v.ownBlock = some b) : ∃ cs, W.heap[b]? = some (.cells cs e (0, 0)) := by
  rcases r.2 with ⟨rfl, _⟩ | ⟨g, cap, cur, rfl, _, hg, _⟩
  · cases hb
  · have e : g = b := Option.some.inj hb
    exact ⟨cur, e ▸ hg⟩
theorem row_apart {W : World} {base e size n : Nat} {v : Value} {xs : List Value} (r : W.ownsRow base e size v n xs) {b : Nat} {T : TypeId} (hk : ∃ cs, W.heap[b]? = some (.cells cs T (0, 0))) (hT : T ≠ e) : some b ≠ v.ownBlock := fun e' => kind_ne hk (row_kind r e'.symm) hT rfl
/-- a row and another one of another kind, when the other one grows -/
theorem row_kept {W W1 : World} {base base' e e' size size' n n' : Nat} {v v' : Value} {xs xs' : List Value} {tmp : Obj} (r : W.ownsRow base e size v n xs) (r' : W.ownsRow base' e' size' v' n' xs') (hT : e ≠ e') (hg : (W.alloc tmp).grownBy W1 v'.ownBlock) : W1.ownsRow base e size v n xs := by
  refine (r.alloc _).kept hg ?_
  by_cases h0 : v.ownBlock = none
  · exact .inl h0
  · obtain ⟨b, hb⟩ := Option.ne_none_iff_exists'.1 h0
    exact .inr (by rw [hb]; exact row_apart r' (row_kind r hb) hT)
theorem blk_grown {W W1 : World} {base e size n b : Nat} {v : Value} {xs : List Value} {tmp : Obj} {T : TypeId} (r : W.ownsRow base e size v n xs) (hk : ∃ cs, W.heap[b]? = some (.cells cs T (0, 0))) (hT : T ≠ e) (hg : (W.alloc tmp).grownBy W1 v.ownBlock) : W1.heap[b]? = W.heap[b]? :=
  (hg.block b (by have := kind_lt hk; simp; omega) (row_apart r hk hT)).trans (Below.heap_alloc _ _ _ (kind_lt hk))
theorem row_set {w : World} {B e size : Nat} {v : Value} {n : Nat} {xs : List Value} {b : Nat} {T : TypeId} (r : w.ownsRow B e size v n xs) (hk : ∃ cs, w.heap[b]? = some (.cells cs T (0, 0))) (hT : T ≠ e) (i : Nat) (u : Value) : (w.setCell ⟨b, i, none⟩ u).ownsRow B e size v n xs := by
  refine ⟨r.1, ?_⟩
  rcases r.2 with hn | ⟨g, cap, cur, e1, hB, hg, rest⟩
  · exact .inl hn
  · refine .inr ⟨g, cap, cur, e1, hB, (Below.heap_setCell _ _ _ _ ?_).trans hg, rest⟩
    intro e2
    have e3 : g = b := e2
    obtain ⟨cs, hc⟩ := hk
    rw [← e3, hg] at hc
    cases hc
    exact hT rfl

section
variable {W W1 : World} {base top p bz zc k m : Nat} {h : Sh}
/-- another row of numbers grows -/
theorem Nq.growL (a : Nq W base top p bz zc h k m) {vl : Value} {n : Nat} {xs : List Value} {tmp : Obj} (r : W.ownsRow top 3 1 vl n xs) (hg : (W.alloc tmp).grownBy W1 vl.ownBlock) : Nq W1 base top p bz zc h k m := by
  have ep := blk_grown r a.kp (by decide) hg
  have hs : W.heap.size ≤ W1.heap.size := by have := hg.size; simp at this; omega
  have low : ∀ b, b < top → W1.heap[b]? = W.heap[b]? := fun b hb => (hg.block b (by have := a.b0.2.2.2; simp; omega) (fun e => by have := (r.lt b e.symm).1; omega)).trans (Below.heap_alloc _ _ _ (by have := a.b0.2.2.2; omega))
  have ez := low bz a.b0.2.2.1
  have cp := fun i => World.cell?_of_block (w := W) (a := ⟨p, i, none⟩) ep
  have cz := fun i => World.cell?_of_block (w := W) (a := ⟨bz, i, none⟩) ez
  obtain ⟨a1, c1, h1, h2⟩ := a.c1
  obtain ⟨a2, c2, vs, h3, h4, h5⟩ := a.c2
  refine ⟨by rw [ep]; exact a.kp, by rw [ez]; exact a.kz, (cp _).trans a.c0, fun j hj => (cz _).trans (a.z j hj), ⟨a1, c1, (cp _).trans h1, row_kept h2 r (by decide) hg⟩, ⟨a2, c2, vs, (cp _).trans h3, row_kept h4 r (by decide) hg, fun j hj => ?_⟩, a.b0.1, a.b0.2.1, a.b0.2.2.1, by have := a.b0.2.2.2; omega⟩
  obtain ⟨v, e1, e2, e3⟩ := h5 j hj
  refine ⟨v, e1, ⟨e2.1, ?_⟩, e3⟩
  rcases e2.2 with hn | ⟨g, cap, cur, e4, hB, hgb, rest⟩
  · exact .inl hn
  · exact .inr ⟨g, cap, cur, e4, hB, (low g (e3 g (by rw [e4]; rfl))).trans hgb, rest⟩
/-- one cell more -/
theorem Nq.growC (a : Nq W base top p bz zc h k m) {a1 : Option Addr} {c1 g' cap' : Nat} {tmp : Obj} (h1 : W.cell? ⟨p, 1, none⟩ = some (.slice a1 m c1)) (r : W.ownsRow base 81 3 (.slice a1 m c1) m (zer m))
    (hown : W1.ownsRow base 81 3 (.slice (some ⟨g', 0, none⟩) (m + 1) cap') (m + 1) (zer m ++ [.int .u64 0, .int .u64 0, .bool false])) (hg : (W.alloc tmp).grownBy W1 (Value.ownBlock (.slice a1 m c1))) :
    Nq (W1.setCell ⟨p, 1, none⟩ (.slice (some ⟨g', 0, none⟩) (m + 1) cap')) base top p bz zc h k (m + 1) ∧ W1.cell? ⟨p, 1, none⟩ = some (.slice a1 m c1) ∧ W1.frozen? ⟨p, 1, none⟩ = false := by
  have ep := blk_grown r a.kp (by decide) hg
  have ez := blk_grown r a.kz (by decide) hg
  have hs : W.heap.size ≤ W1.heap.size := by have := hg.size; simp at this; omega
  have cp := fun i => World.cell?_of_block (w := W) (a := ⟨p, i, none⟩) ep
  have cz := fun i => World.cell?_of_block (w := W) (a := ⟨bz, i, none⟩) ez
  have kp1 : ∃ cs, W1.heap[p]? = some (.cells cs 79 (0, 0)) := by rw [ep]; exact a.kp
  have kz1 : ∃ cs, W1.heap[bz]? = some (.cells cs 3 (0, 0)) := by rw [ez]; exact a.kz
  have hne := kind_ne kz1 kp1 (by decide)
  obtain ⟨a2, c2, vs, h3, h4, h5⟩ := a.c2
  refine ⟨⟨kind_set kp1, kind_set kz1, ?_, ?_, ⟨_, _, cell_set_eq ((cp 1).trans h1), row_set hown kp1 (by decide) _ _⟩, ⟨a2, c2, vs, ?_, row_set (row_kept h4 r (by decide) hg) kp1 (by decide) _ _, fun j hj => ?_⟩, a.b0.1, a.b0.2.1, a.b0.2.2.1, by rw [hs_set]; have := a.b0.2.2.2; omega⟩, (cp 1).trans h1, kind_fz kp1⟩
  · rw [cell_set_ne (.inr (by decide))]; exact (cp 0).trans a.c0
  · intro j hj; rw [cell_set_ne (.inl hne)]; exact (cz j).trans (a.z j hj)
  · rw [cell_set_ne (.inr (by decide))]; exact (cp 2).trans h3
  · obtain ⟨v, e1, e2, e3⟩ := h5 j hj
    exact ⟨v, e1, row_set (row_kept e2 r (by decide) hg) kp1 (by decide) _ _, e3⟩
/-- one row more -/
theorem Nq.growF (a : Nq W base top p bz zc h k m) {a2 : Option Addr} {c2 g' cap' : Nat} {vs : List Value} {vl : Value} {tmp : Obj} (h3 : W.cell? ⟨p, 2, none⟩ = some (.slice a2 k c2)) (h4 : W.ownsRow base 22 1 (.slice a2 k c2) k vs)
    (h5 : ∀ j, j < k → ∃ v, vs[j]? = some v ∧ W.ownsRow base 3 1 v (Lk h j).length (encL (Lk h j)) ∧ ∀ b, v.ownBlock = some b → b < top) (rl : W.ownsRow top 3 1 vl (Lk h k).length (encL (Lk h k)))
    (hown : W1.ownsRow base 22 1 (.slice (some ⟨g', 0, none⟩) (k + 1) cap') (k + 1) (vs ++ [vl])) (hg : (W.alloc tmp).grownBy W1 (Value.ownBlock (.slice a2 k c2))) :
    Nq (W1.setCell ⟨p, 2, none⟩ (.slice (some ⟨g', 0, none⟩) (k + 1) cap')) base W1.heap.size p bz zc h (k + 1) m ∧ W1.cell? ⟨p, 2, none⟩ = some (.slice a2 k c2) ∧ W1.frozen? ⟨p, 2, none⟩ = false := by
  have ep := blk_grown h4 a.kp (by decide) hg
  have ez := blk_grown h4 a.kz (by decide) hg
  have hs : W.heap.size ≤ W1.heap.size := by have := hg.size; simp at this; omega
  have cp := fun i => World.cell?_of_block (w := W) (a := ⟨p, i, none⟩) ep
  have cz := fun i => World.cell?_of_block (w := W) (a := ⟨bz, i, none⟩) ez
  have kp1 : ∃ cs, W1.heap[p]? = some (.cells cs 79 (0, 0)) := by rw [ep]; exact a.kp
  have kz1 : ∃ cs, W1.heap[bz]? = some (.cells cs 3 (0, 0)) := by rw [ez]; exact a.kz
  have hne := kind_ne kz1 kp1 (by decide)
  have hvl : vs.length = k := by have := h4.1; omega
  obtain ⟨a1, c1, h1, h2⟩ := a.c1
  have hbt := a.b0
  refine ⟨⟨kind_set kp1, kind_set kz1, ?_, ?_, ⟨a1, c1, ?_, row_set (row_kept h2 h4 (by decide) hg) kp1 (by decide) _ _⟩, ⟨_, _, vs ++ [vl], cell_set_eq ((cp 2).trans h3), row_set hown kp1 (by decide) _ _, fun j hj => ?_⟩, a.b0.1, a.b0.2.1, by omega, by rw [hs_set]; omega⟩, (cp 2).trans h3, kind_fz kp1⟩
  · rw [cell_set_ne (.inr (by decide))]; exact (cp 0).trans a.c0
  · intro j hj; rw [cell_set_ne (.inl hne)]; exact (cz j).trans (a.z j hj)
  · rw [cell_set_ne (.inr (by decide))]; exact (cp 1).trans h1
  · by_cases e : j = k
    · subst e
      refine ⟨vl, by rw [List.getElem?_append_right (by omega), hvl]; simp, row_set (own_low (row_kept rl h4 (by decide) hg) (by omega)) kp1 (by decide) _ _, fun b hb => ?_⟩
      have := (rl.lt b hb).2
      omega
    · obtain ⟨v, e1, e2, e3⟩ := h5 j (by omega)
      refine ⟨v, by rw [List.getElem?_append_left (by omega)]; exact e1, row_set (row_kept e2 h4 (by decide) hg) kp1 (by decide) _ _, fun b hb => ?_⟩
      have := e3 b hb
      omega
/-- the arena is made -/
theorem Nq.done (a : Nq W base top p bz zc h h.P h.N) (ok : h.Ok) (c : Cont h) (hz : h.P ≤ zc) (hP : 1 ≤ h.P) : ∃ q : Qo, q.p = p ∧ q.B = base ∧ (∀ b, q.cl = some ⟨b, 0, none⟩ → b < W.heap.size) ∧ Qx W q h (qOf h (daN h h.N)) := by
  obtain ⟨a1, c1, h1, h2⟩ := a.c1
  obtain ⟨a2, c2, vs, h3, h4, h5⟩ := a.c2
  have hcells : ∀ {e size n : Nat} {xs : List Value} {a' : Option Addr} {c' : Nat}, W.ownsRow base e size (.slice a' n c') n xs → 0 < n → ∃ g, a' = some ⟨g, 0, none⟩ ∧ base ≤ g ∧ n ≤ c' ∧ (∃ cs, W.heap[g]? = some (.cells cs e (0, 0))) ∧ ∀ i, i < n * size → W.cell? ⟨g, i, none⟩ = xs[i]? := by
    intro e size n xs a' c' r hn
    rcases r.2 with ⟨_, e0⟩ | ⟨g, cap, cur, e1, hb, hg, h6, _, _, htk⟩
    · omega
    · injection e1 with e2 e3 e4
      refine ⟨g, e2, hb, by omega, ⟨cur, hg⟩, fun i hi => ?_⟩
      rw [cell_of_row _ _ i _ _ (0, 0) hg, ← htk, List.getElem?_take_of_lt hi]
      simp
  obtain ⟨bf, rfl, f1, f2, f3, f4⟩ := hcells h4 (by omega)
  obtain ⟨bc, g1, g2, g3, g4, g5⟩ : ∃ bc, (0 < h.N → a1 = some ⟨bc, 0, none⟩) ∧ (∀ b, a1 = some ⟨b, 0, none⟩ → base ≤ b) ∧ h.N ≤ c1 ∧ (0 < h.N → ∃ cs, W.heap[bc]? = some (.cells cs 81 (0, 0))) ∧ ∀ i, i < h.N * 3 → W.cell? ⟨bc, i, none⟩ = (zer h.N)[i]? := by
    by_cases hn : 0 < h.N
    · obtain ⟨bc, e1, e2, e3, e4, e5⟩ := hcells h2 hn
      exact ⟨bc, fun _ => e1, fun b e => by rw [e1] at e; cases e; exact e2, e3, fun _ => e4, e5⟩
    · refine ⟨0, fun h => absurd h hn, fun b e => ?_, by omega, fun h => absurd h hn, fun i hi => by omega⟩
      rcases h2.2 with ⟨e0, _⟩ | ⟨g, cap, cur, e0, hb, _⟩
      · injection e0 with e1; rw [e] at e1; cases e1
      · injection e0 with e1; rw [e] at e1; cases e1; exact hb
  have hfr : ∀ n, n < h.N → (qOf h (daN h h.N)).hd n = false := by
    intro n hn
    show (!decide (n ∈ Rm h h.N (h.pt n))) = false
    have : n ∈ Rm h h.N (h.pt n) := Rm_mem.2 ⟨hn, rfl⟩
    simp [this]
  refine ⟨⟨p, bz, zc, bc, a1, c1, bf, c2, base⟩, rfl, rfl, fun b e => (h2.lt b (by rw [show a1 = some ⟨b, 0, none⟩ from e]; rfl)).2, a.c0, h1, h3, g1, a.z, ?_, ?_, ?_, ?_, f3, g4, a.kp, a.kz, ⟨a.b0.1, a.b0.2.1, f1, g2⟩, ⟨f2, hz, g3⟩, ?_⟩
  · intro n hn; rw [g5 _ (by omega)]; exact (zer_at h.N n hn).1
  · intro n hn; rw [g5 _ (by omega)]; exact (zer_at h.N n hn).2.1
  · intro n hn; rw [g5 _ (by omega), hfr n hn]; exact (zer_at h.N n hn).2.2
  · intro k hk
    obtain ⟨v, e1, e2, _⟩ := h5 k hk
    have er : (qOf h (daN h h.N)).R k = Lk h k := part_range ok c hk
    rw [er]
    exact ⟨v, by rw [f4 k (by omega)]; exact e1, e2⟩
  · intro k hk
    have er : (qOf h (daN h h.N)).R k = Lk h k := part_range ok c hk
    rw [er]
    unfold Lk
    rw [List.length_map, List.length_range]
    have := ok.s256 k hk
    omega
end
end Go.Proofs.Ytobpignlamekmaa
