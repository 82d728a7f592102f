/- AgendaOrders: the row of things, copied and marked. -/
import Derived.Test.YtimmjhegeagofaaEOrd3
import Derived.Test.YtimmjhegeagofaaERow
namespace Go.Proofs.Ytimmjhegeagofaa
open Go.RowKit Go.Sort Go.Shelf
set_option maxRecDepth 100000

/-- the things, marked up to i -/
def EM (f : Nat → Et) (n i : Nat) : List En := (List.range n).map fun j => ⟨(f j).k, if j < i then (j : Int) else (f j).m, j + 1⟩
theorem EM_len (f : Nat → Et) (n i : Nat) : (EM f n i).length = n := by simp [EM]
theorem EM_at {f : Nat → Et} {n i j : Nat} {e : En} (h : (EM f n i)[j]? = some e) : j < n ∧ e = ⟨(f j).k, if j < i then (j : Int) else (f j).m, j + 1⟩ := by
  have hl := (List.getElem?_eq_some_iff.1 h).1
  rw [EM_len] at hl
  refine ⟨hl, ?_⟩
  unfold EM at h
  rw [List.getElem?_map, List.getElem?_range hl] at h
  injection h with h
  exact h.symm
theorem EM_num {f : Nat → Et} {n i : Nat} (hf : ∀ j, j < n → (f j).okk) : Num1 (EM f n i) := fun j e h => by
  obtain ⟨hj, rfl⟩ := EM_at h
  exact ⟨rfl, hf j hj⟩
theorem run_app0 (g : Nat) (a : Option Addr) (cap : Nat) (W : World) : (Builtin.append_ #[43, 43] 43 #[.slice (some ⟨g, 0, none⟩) 0 0, .slice a 0 cap]).run Try.prog W = .ok (.slice (some ⟨g, 0, none⟩) 0 0) W := by
  obtain ⟨i0, hi, hz0, hz1, hz2⟩ := info_parts infoTh
  cases a <;> simp [Builtin.append_, run_underlying Try.underlying43, sizeOf, typeInfo, hi, Builtin.lenOf, Builtin.firstCells, storeCells, loadCells, loadCellsFrom]
/-- what is cut stays a row -/
theorem EtS.cut {w : World} {a : Option Addr} {len cap n : Nat} {f : Nat → Et} (h : EtS w a len cap f) (hn : n ≤ len) : EtS w a n cap f :=
  ⟨fun j hj => h.1 j (by omega), Nat.le_trans hn h.2.1, h.2.2⟩
theorem copy_row (a : Option Addr) (n cap : Nat) (f : Nat → Et) (w : World) (h : EtS w a n cap f) (hn : n ≤ 60) :
    ∃ g cap' w3, (Builtin.append_ #[43, 43] 43 #[.slice (some ⟨w.heap.size, 0, none⟩) 0 0, .slice a n cap]).run Try.prog (w.alloc (.cells #[] 27)) = .ok (.slice (some ⟨g, 0, none⟩) n cap') w3 ∧ n ≤ cap' ∧ cap' ≤ maxLen ∧ Tr w3 (some ⟨g, 0, none⟩) n (EM f n 0) ∧ (∀ j, w3.frozen? ⟨g, j, none⟩ = false) ∧ w.heap.size ≤ g ∧ Below w.heap.size w w3 := by
  have hb1 : Below w.heap.size w (w.alloc (.cells #[] 27)) := (Below.refl _ w).alloc (Nat.le_refl _) _
  have o1 : (w.alloc (.cells #[] 27)).ownsRow w.heap.size 27 2 (.slice (some ⟨w.heap.size, 0, none⟩) 0 0) 0 [] := World.ownsRow_made w #[] 0 (Nat.le_refl _) (Nat.zero_le _) rfl
  by_cases h0 : n = 0
  · subst h0
    refine ⟨w.heap.size, 0, _, run_app0 _ _ _ _, Nat.le_refl _, Nat.zero_le _, ⟨by simp [EM], fun j e hj => by simp [EM] at hj⟩, fun j => frozen_of_row _ _ j _ _ (World.alloc_heap_new w _), Nat.le_refl _, hb1⟩
  · obtain ⟨i0, hi, hz0, hz1, hz2⟩ := info_parts infoTh
    obtain ⟨b, off, rfl, _, _⟩ := h.1 0 (by omega)
    have hnews : ∀ j u, (encT (EM f n 0))[j]? = some u → (w.alloc (.cells #[] 27)).cell? ((⟨b, off, none⟩ : Addr).add j) = some u := fun j u hj => by
      rw [Go.WideShapes.add_plain]
      have hjl := (List.getElem?_eq_some_iff.1 hj).1
      rw [encT_len, EM_len] at hjl
      obtain ⟨e, he⟩ : ∃ e, (EM f n 0)[j / 2]? = some e := ⟨(EM f n 0)[j / 2]'(by rw [EM_len]; omega), List.getElem?_eq_getElem _⟩
      obtain ⟨t1, t2⟩ := encT_at he
      obtain ⟨hq, rfl⟩ := EM_at he
      obtain ⟨b', off', hbo, hat, _⟩ := h.1 (j / 2) hq
      injection hbo with hbo
      injection hbo with hb' ho'
      subst hb' ho'
      obtain ⟨c1, c2⟩ := hat.below hb1
      rcases Nat.mod_two_eq_zero_or_one j with hr | hr
      · rw [show j / 2 * 2 = j by omega] at t1 c1
        rw [hj] at t1; injection t1 with t1; rw [t1]; exact c1
      · rw [show j / 2 * 2 + 1 = j by omega] at t2
        rw [show off + j / 2 * 2 + 1 = off + j by omega] at c2
        rw [hj] at t2; injection t2 with t2; rw [t2]; exact c2
    obtain ⟨v', w3, hrun, hown, hgrow, _, hloc⟩ := run_append_own_at (P := Try.prog) (w := w.alloc (.cells #[] 27)) w.heap.size 43 43 27 i0 (.agg #[.int .i8 0, .int .i64 0]) 2 16 Try.underlying43 hi hz0 hz1 hz2 rfl (by decide) _ 0 [] o1 ⟨b, off, none⟩ n cap (encT (EM f n 0)) (by rw [encT_len, EM_len]) hnews (fun u hu => by obtain ⟨e, _, h⟩ := List.mem_flatMap.1 hu; simp at h; rcases h with rfl | rfl <;> rfl) (by unfold maxLen; omega) (by omega) (by simp)
    rw [Nat.zero_add, List.nil_append] at hown
    rcases hown.2 with ⟨h', h''⟩ | ⟨g, cap', cur, rfl, hgb, hg, h3, h4, h5, h6⟩
    · exact absurd h'' h0
    · refine ⟨g, cap', w3, hrun, h3, h4, tr_own (eown_mono hown (Nat.zero_le _)) (EM_len _ _ _), fun j => frozen_of_row _ _ j _ _ hg, hgb, ?_⟩
      exact hb1.grown hgrow hb1.size (fun k hk => by simp [Value.ownBlock] at hk; omega)
theorem bef_of {a b : En} (h : ¬ bef b a) (hn : a.n ≠ b.n) : bef a b := by unfold bef at *; omega
/-- what is told rises -/
theorem Dr.asc {D T D' : List En} (h : Dr True D T D') : (∀ i a b, T[i]? = some a → T[i + 1]? = some b → bef a b) ∧ ∀ i a, T[i]? = some a → i + 1 = T.length → ∀ y, y ∈ D' → bef a y := by
  refine h.ind (M := fun T D' => (∀ i a b, T[i]? = some a → T[i + 1]? = some b → bef a b) ∧ ∀ i a, T[i]? = some a → i + 1 = T.length → ∀ y, y ∈ D' → bef a y) ⟨fun i a b h => by simp at h, fun i a h => by simp at h⟩ ?_
  · intro T D' e h he hb ih
    refine ⟨fun i a b ha hb' => ?_, fun i a ha hi y hy => ?_⟩
    · have hl := (List.getElem?_eq_some_iff.1 hb').1
      rw [List.length_append, List.length_singleton] at hl
      rw [List.getElem?_append_left (by omega)] at ha
      by_cases hi : i + 1 < T.length
      · rw [List.getElem?_append_left hi] at hb'
        exact ih.1 i a b ha hb'
      · have hi' : i + 1 = T.length := by omega
        rw [hi', List.getElem?_append_right (Nat.le_refl _), Nat.sub_self] at hb'
        simp at hb'
        subst hb'
        exact ih.2 i a ha hi' _ he
    · rw [List.length_append, List.length_singleton] at hi
      have hi' : i = T.length := by omega
      rw [hi', List.getElem?_append_right (Nat.le_refl _), Nat.sub_self] at ha
      simp at ha
      subst ha
      obtain ⟨h1, h2⟩ := mem_drop.1 hy
      exact bef_of ((hb trivial).2 y h1) (fun e => h2 e.symm)
theorem EM_srt {f : Nat → Et} {n i : Nat} : Srt (EM f n i) := by
  unfold Srt EM
  rw [List.pairwise_map]
  exact List.pairwise_lt_range.imp fun h => by simpa using h
/-- two side by side -/
theorem asc_at {f : Nat → Et} {n : Nat} {T : List En} (h : Dr True (EM f n n) T []) {q : Nat} {x y : En} (hx : T[q]? = some x) (hy : T[q + 1]? = some y) : x.k < y.k ∨ (x.k = y.k ∧ x.m < y.m) := by
  have hb := h.asc.1 q x y hx hy
  have hm : ∀ e, e ∈ T → e.m + 1 = (e.n : Int) := fun e he => by
    obtain ⟨j, hj⟩ := List.getElem?_of_mem (h.mem e he)
    obtain ⟨hl, rfl⟩ := EM_at hj
    simp [hl]
  have h1 := hm x (List.mem_of_getElem? hx)
  have h2 := hm y (List.mem_of_getElem? hy)
  unfold bef at hb
  omega
/-- one more is marked -/
theorem mark_tr {W : World} {g n i : Nat} {f : Nat → Et} (t : Tr W (some ⟨g, 0, none⟩) n (EM f n i)) (hi : i < n) : Tr (W.setCell ⟨g, i * 2 + 1, none⟩ (.int .i64 (i : Int))) (some ⟨g, 0, none⟩) n (EM f n (i + 1)) := by
  refine ⟨EM_len _ _ _, fun j e hj => ?_⟩
  obtain ⟨hjn, rfl⟩ := EM_at hj
  obtain ⟨b, off, ha, c1, c2⟩ := t.at_ j ⟨(f j).k, if j < i then (j : Int) else (f j).m, j + 1⟩ (by unfold EM; rw [List.getElem?_map, List.getElem?_range hjn]; rfl)
  injection ha with ha
  injection ha with hb ho
  subst hb ho
  refine ⟨_, _, rfl, (cell_set_ne (.inr (by omega))).trans c1, ?_⟩
  by_cases e : j = i
  · subst e
    rw [Nat.zero_add] at c2 ⊢
    simp only [Nat.lt_succ_self, if_true]
    exact cell_set_eq c2
  · rw [show (if j < i + 1 then (j : Int) else (f j).m) = (if j < i then (j : Int) else (f j).m) by
      by_cases h : j < i
      · rw [if_pos h, if_pos (by omega)]
      · rw [if_neg h, if_neg (by omega)]]
    exact (cell_set_ne (.inr (by omega))).trans c2
end Go.Proofs.Ytimmjhegeagofaa
