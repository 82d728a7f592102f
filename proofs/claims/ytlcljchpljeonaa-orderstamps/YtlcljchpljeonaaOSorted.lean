/- order.Sorted: all stamps, rising, each once. -/
import Derived.Test.YtlcljchpljeonaaOOnce
namespace Go.Proofs.Ytlcljchpljeonaa
open Go.RowKit
open Go.Sort hiding Below
set_option maxRecDepth 100000

theorem Try.infoPair : (Try.prog.info? 58).map (fun i => (i.zero, i.size, i.bytes)) = some (some (.agg #[.int .i64 0, .int .i64 0]), 2, 16) := by kernel_rfl
theorem make_pairs (w : World) (n : Nat) (hn : n ≤ 200000) : Sem.run Try.prog (Instr.makeSlice 60 (.int .i64 (n : Int)) (.int .i64 (n : Int))) w = .ok (.slice (some ⟨w.heap.size, 0, none⟩) n n) (w.alloc (.cells (madeCells #[.int .i64 0, .int .i64 0] (n * 2)) 58)) := by
  obtain ⟨i0, hi, hz0, hz1, hz2⟩ := info_parts Try.infoPair
  have := run_make (P := Try.prog) w 60 58 i0 _ Try.underlying60 hi hz0 .i64 .i64 n n (by omega) (Int.le_refl _) (by rw [hz2]; omega) (by omega)
  rw [hz1] at this
  simpa [Value.cells] using this
/-- a row of pairs of one's own -/
def Prs (W : World) (B n : Nat) (z : Nat → St) : Prop :=
  ∀ j, j < n → (W.cell? ⟨B, j * 2, none⟩ = some (.int .i64 (z j).1) ∧ W.cell? ⟨B, j * 2 + 1, none⟩ = some (.int .i64 (z j).2)) ∧ W.frozen? ⟨B, j * 2, none⟩ = false ∧ W.frozen? ⟨B, j * 2 + 1, none⟩ = false
theorem prs_new (w : World) (n : Nat) (T : TypeId) : Prs (w.alloc (.cells (madeCells #[.int .i64 0, .int .i64 0] (n * 2)) T)) w.heap.size n (fun _ => (0, 0)) := by
  intro j hj
  have hb : (w.alloc (.cells (madeCells #[.int .i64 0, .int .i64 0] (n * 2)) T)).heap[w.heap.size]? = some (.cells (madeCells #[.int .i64 0, .int .i64 0] (n * 2)) T (0, 0)) := heapNew w _
  have h0 : (madeCells #[.int .i64 0, .int .i64 0] (n * 2))[j * 2]? = some (.int .i64 0) := by
    simp [madeCells, show j * 2 < n * 2 by omega]
  have h1 : (madeCells #[.int .i64 0, .int .i64 0] (n * 2))[j * 2 + 1]? = some (.int .i64 0) := by
    simp [madeCells, show j * 2 + 1 < n * 2 by omega, show (j * 2 + 1) % 2 = 1 by omega]
  exact ⟨⟨by rw [cell_of_row _ _ (j * 2) _ _ (0, 0) hb]; exact h0, by rw [cell_of_row _ _ (j * 2 + 1) _ _ (0, 0) hb]; exact h1⟩, frozen_of_row _ _ (j * 2) _ _ hb, frozen_of_row _ _ (j * 2 + 1) _ _ hb⟩
theorem Prs.below {W W' : World} {B n : Nat} {z : Nat → St} (h : Prs W B n z) (hb : Below W.heap.size W W') : Prs W' B n z := fun j hj => by
  obtain ⟨⟨h0, h1⟩, h2, h3⟩ := h j hj
  have hl := cell_lt h0
  exact ⟨⟨(hb.cell (p := ⟨B, j * 2, none⟩) hl).trans h0, (hb.cell (p := ⟨B, j * 2 + 1, none⟩) hl).trans h1⟩, (hb.frozen (p := ⟨B, j * 2, none⟩) hl).trans h2, (hb.frozen (p := ⟨B, j * 2 + 1, none⟩) hl).trans h3⟩
theorem Prs.set {W : World} {B n k : Nat} {z z' : Nat → St} {x1 x2 : Int} (h : Prs W B n z) (hk : k < n) (hz : ∀ i, z' i = if i = k then (x1, x2) else z i) :
    Prs ((W.setCell ⟨B, k * 2, none⟩ (.int .i64 x1)).setCell ⟨B, k * 2 + 1, none⟩ (.int .i64 x2)) B n z' := by
  intro i hi
  obtain ⟨⟨h0, h1⟩, h2, h3⟩ := h i hi
  obtain ⟨⟨g0, g1⟩, _, _⟩ := h k hk
  have n1 : ∀ a b : Nat, a ≠ b → (⟨B, a, none⟩ : Addr) ≠ ⟨B, b, none⟩ := fun a b hne e => hne (by cases e; rfl)
  refine ⟨⟨?_, ?_⟩, by rw [World.frozen?_setCell, World.frozen?_setCell]; exact h2, by rw [World.frozen?_setCell, World.frozen?_setCell]; exact h3⟩
  · rw [World.cell?_setCell_other _ _ _ _ (n1 _ _ (by omega)), hz i]
    by_cases e : i = k
    · subst e
      rw [World.cell?_setCell_same' _ _ _ (by rw [h0]; rfl), if_pos rfl]
    · rw [World.cell?_setCell_other _ _ _ _ (n1 _ _ (by omega)), if_neg e]; exact h0
  · rw [hz i]
    by_cases e : i = k
    · subst e
      rw [World.cell?_setCell_same' _ _ _ (by rw [World.cell?_setCell_other _ _ _ _ (n1 _ _ (by omega)), h1]; rfl), if_pos rfl]
    · rw [World.cell?_setCell_other _ _ _ _ (n1 _ _ (by omega)), World.cell?_setCell_other _ _ _ _ (n1 _ _ (by omega)), if_neg e]; exact h1

theorem Prs.congr {W : World} {B n : Nat} {z z' : Nat → St} (h : Prs W B n z) (hz : ∀ j, j < n → z j = z' j) : Prs W B n z' := fun j hj => by rw [← hz j hj]; exact h j hj
theorem own_lower {w : World} {b b' : Nat} {e : TypeId} {size : Nat} {v : Value} {n : Nat} {xs : List Value} (h : w.ownsRow b e size v n xs) (hb : b' ≤ b) : w.ownsRow b' e size v n xs := by
  refine ⟨h.1, ?_⟩
  rcases h.2 with hn | ⟨g, cap, cur, rfl, hbb, rest⟩
  · exact .inl hn
  · exact .inr ⟨g, cap, cur, rfl, Nat.le_trans hb hbb, rest⟩
theorem below_of_grow {B : Nat} (w : World) (os : Array Obj) (h : B ≤ w.heap.size) : Below B w (grow w os) :=
  ⟨rfl, rfl, rfl, by show w.heap.size ≤ (w.heap ++ os).size; rw [Array.size_append]; omega, fun j hj => by show (w.heap ++ os)[j]? = _; rw [Array.getElem?_append_left (by omega)]⟩
/-- the pairs as an array -/
def arrS (z : Nat → St) (n : Nat) : Array St := ((List.range n).map z).toArray
theorem arrS_size (z : Nat → St) (n : Nat) : (arrS z n).size = n := by simp [arrS]
theorem arrS_at (z : Nat → St) {n i : Nat} (h : i < n) : (arrS z n)[i]! = z i := by simp [arrS, h]
theorem prs_holds {W : World} {B n : Nat} {z : Nat → St} (h : Prs W B n z) : HoldsK encP 2 W B 0 (arrS z n) := by
  intro t ht
  rw [size_flatK, arrS_size] at ht
  rw [get_flatK _ _ _ _ (by rw [arrS_size]; exact ht), arrS_at z (show t / 2 < n by omega)]
  obtain ⟨⟨h0, h1⟩, h2, h3⟩ := h (t / 2) (by omega)
  rcases Nat.mod_two_eq_zero_or_one t with e | e
  · rw [e, Nat.zero_add, show t = t / 2 * 2 by omega]
    refine ⟨?_, ?_⟩
    · rw [show t / 2 * 2 / 2 = t / 2 by omega]; exact h0
    · exact h2
  · rw [e, Nat.zero_add, show t = t / 2 * 2 + 1 by omega]
    refine ⟨?_, ?_⟩
    · rw [show (t / 2 * 2 + 1) / 2 = t / 2 by omega]; exact h1
    · exact h3
theorem holds_sts {W : World} {B : Nat} {d : Array St} (h : HoldsK encP 2 W B 0 d) : Sts W (some ⟨B, 0, none⟩) d.size (fun j => d[j]!) := fun j hj => by
  have h0 := (h.cell hj (c := 0) (by decide)).1
  have h1 := (h.cell hj (c := 1) (by decide)).1
  exact ⟨B, 0, rfl, h0, h1⟩
theorem perm_mem {d d' : Array St} (h : PermIn 0 d.size d d') (x : St) : (∃ j, j < d.size ∧ x = d'[j]!) ↔ ∃ j, j < d.size ∧ x = d[j]! := by
  obtain ⟨hs, _, hp⟩ := h
  have e : ∀ a : Array St, a.size = d.size → ((∃ j, j < d.size ∧ x = a[j]!) ↔ x ∈ a.toList) := by
    intro a ha
    constructor
    · rintro ⟨j, hj, rfl⟩
      rw [getElem!_pos a j (by omega)]
      simp
    · intro hx
      obtain ⟨j, hj, rfl⟩ := List.mem_iff_getElem.1 hx
      refine ⟨j, by simpa [ha] using hj, ?_⟩
      rw [getElem!_pos a j (by simpa using hj)]
      simp
  rw [e d' hs, e d rfl]
  have h1 : d'.extract 0 d.size = d' := by rw [← hs]; simp
  have h2 : d.extract 0 d.size = d := by simp
  rw [h1, h2] at hp
  exact hp.mem_iff

set_option maxHeartbeats 4000000 in
theorem sorted_any (a : Option Addr) (n cap : Nat) (z : Nat → St) (w : World) (hn : n ≤ 100) (hz : Sts w a n z) :
    Calls Try.prog 23 #[.slice a n cap] w fun e w' => ∃ v, e = .returned v ∧ w'.ownsRow w.heap.size 37 2 v (docTo z n).length (encS (docTo z n)) ∧ Below w.heap.size w w' := by
  have hmk := fun w => make_pairs w n (by omega)
  have HZ : Hid (Sts w a n z) := hz
  clear hz
  go_enter Try.func23, Try.ntmps23
  go_wp2
  go_loopw [11] (fun i wr => ∃ k : Nat, k ≤ n ∧ i = .int .i64 k ∧ Hid (Prs wr w.heap.size n (fun j => if j < k then z j else (0, 0))) ∧ Below w.heap.size w wr ∧ Hid (w.heap.size < wr.heap.size)) (fun i _ => n - (intOf i).toNat)
  case atStart => exact ⟨0, by omega, rfl, by show Prs _ _ _ _; simpa using prs_new w n _, (Below.refl _ w).alloc (Nat.le_refl _) _, by show _ < _; simp⟩
  case round =>
    obtain ⟨k, hk, rfl, HP, hb, HSZ⟩ := hrel
    by_cases hlt : k < n
    · obtain ⟨b, off, rfl, c0, c1⟩ := HZ.out.below hb k hlt
      have HP2 : Hid (Prs (wr.alloc (.cells #[.int .i64 (z k).1, .int .i64 (z k).2] 37)) w.heap.size n (fun j => if j < k then z j else (0, 0))) := HP.out.below ((Below.refl _ wr).alloc (Nat.le_refl _) _)
      have hb2 : Below w.heap.size w (wr.alloc (.cells #[.int .i64 (z k).1, .int .i64 (z k).2] 37)) := hb.alloc hb.size _
      obtain ⟨⟨g0, g1⟩, g2, g3⟩ := HP2.out k hlt
      have HS : Hid (∀ i, (if i < k + 1 then z i else (0, 0)) = if i = k then ((z k).1, (z k).2) else (if i < k then z i else (0, 0))) := by
        intro i
        by_cases e : i = k
        · subst e; simp
        · by_cases e2 : i < k
          · rw [if_pos (by omega), if_neg e, if_pos e2]
          · rw [if_neg (by omega), if_neg e, if_neg e2]
      generalize (z k).1 = x1 at *
      generalize (z k).2 = x2 at *
      go_wp2_with fail
      refine ⟨⟨k + 1, by omega, by go_num, HP2.out.set hlt HS.out, (hb2.setCell (p := ⟨w.heap.size, k * 2, none⟩) (Nat.le_refl _) _).setCell (p := ⟨w.heap.size, k * 2 + 1, none⟩) (Nat.le_refl _) _, by show _ < _; have := HSZ.out; simp; omega⟩, by simp [intOf]; omega⟩
    · obtain rfl : k = n := by omega
      have hsz := HSZ.out
      have hH := prs_holds (HP.out.congr (z' := z) fun j hj => if_pos hj)
      have hc := sort_any w.heap.size 0 k (arrS z k) wr hH hsz (by rw [arrS_size]; omega)
      rw [arrS_size] at hc
      have HH : Hid (HoldsK encP 2 wr w.heap.size 0 (arrS z k)) := hH
      clear hH HP
      go_wp2_with fail
      refine hc.mono ?_
      rintro e w2 ⟨rfl, d', m, os, hp, hs, rfl⟩
      have hd' : d'.size = k := by rw [hp.1, arrS_size]
      have hS : Sts (sortWorldK encP 2 wr w.heap.size 0 m d' os) (some ⟨w.heap.size, 0, none⟩) k (fun j => d'[j]!) := by
        have h2 : HoldsK encP 2 (putRowK encP 2 (Go.Sort.ahead wr m) w.heap.size 0 d') w.heap.size 0 d' := holdsK_putRowK encP 2 (Go.Sort.ahead wr m) w.heap.size 0 (arrS z k) d' (holdsK_ahead encP 2 wr m w.heap.size 0 _ HH.out) (by rw [hd', arrS_size])
        have h3 := holds_sts (holdsK_grow encP 2 _ os w.heap.size 0 d' (by simpa [putRowK, putRow, mapBlock, Go.Sort.ahead] using hsz) h2)
        rw [hd'] at h3
        exact h3
      have hb2 : Below w.heap.size w (sortWorldK encP 2 wr w.heap.size 0 m d' os) := by
        have h1 : Below w.heap.size w (putRowK encP 2 (Go.Sort.ahead wr m) w.heap.size 0 d') := Go.Lib.below_putRow hb (Nat.le_refl _)
        exact h1.trans (below_of_grow _ os (by have := h1.size; omega))
      have HD : Hid (onceTo (fun j => d'[j]!) k = docTo z k) := by
        refine once_doc z _ k (fun x => ?_) (fun i j hij hj => ?_)
        · have := perm_mem (d := arrS z k) (d' := d') (by rw [arrS_size]; exact hp) x
          rw [arrS_size] at this
          rw [this]
          constructor
          · rintro ⟨j, hj, rfl⟩; exact ⟨j, hj, arrS_at z hj⟩
          · rintro ⟨j, hj, rfl⟩; exact ⟨j, hj, (arrS_at z hj).symm⟩
        · have := hs i j (Nat.zero_le _) hij hj
          rw [cfS_lt] at this
          simpa using this
      clear hp hs hd' HH hc hb
      generalize sortWorldK encP 2 wr w.heap.size 0 m d' os = W at *
      have ho := once_any w.heap.size k k (fun j => d'[j]!) W hn hS
      rw [HD.out] at ho
      clear HD hS
      go_wp2_with fail
      refine ho.mono ?_
      rintro e w3 ⟨v, rfl, hown, hb3⟩
      go_wp2_with fail
      go_ret
      exact ⟨v, rfl, own_lower hown hb2.size, Below.onto hb2 hb3⟩

end Go.Proofs.Ytlcljchpljeonaa
