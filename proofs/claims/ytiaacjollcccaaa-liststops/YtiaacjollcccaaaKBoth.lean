/- Both lists side by side; the document's New, All, Back. -/
import Derived.Test.YtiaacjollcccaaaKRefU
import Derived.Laws.MakeOwn
namespace Go.Proofs.Ytiaacjollcccaaa
open Go.RowKit

theorem Try.infoRow : (Try.prog.info? 36).map (fun i => (i.zero, i.size, i.bytes)) = some (some (.slice none 0 0), 1, 24) := by kernel_rfl
theorem make_rows (w : World) (n : Nat) (hn : n ≤ 200000) : Sem.run Try.prog (Instr.makeSlice 63 (.int .i64 (n : Int)) (.int .i64 (n : Int))) w = .ok (.slice (some ⟨w.heap.size, 0, none⟩) n n) (w.alloc (.cells (madeCells #[.slice none 0 0] n) 36)) := by
  obtain ⟨i0, hi, hz0, hz1, hz2⟩ := info_parts Try.infoRow
  have := run_make (P := Try.prog) w 63 36 i0 _ Try.underlying63 hi hz0 .i64 .i64 n n (by omega) (Int.le_refl _) (by rw [hz2]; omega) (by omega)
  rw [hz1] at this
  simpa [Value.cells] using this

set_option maxHeartbeats 1000000 in
theorem rnew_k (n m : Nat) (w : World) (hn : n ≤ 65536) (hm : m ≤ 65536) :
    Calls Try.prog 9 #[.int .i64 (n : Int), .int .i64 (m : Int)] w fun e w' => ∃ p b : Nat, e = .returned (.tuple #[.pointer (some ⟨p, 0, none⟩), .int .i64 0]) ∧ Rx w' p b w'.heap.size n m (fun _ => []) ∧ Below w.heap.size w w' ∧ w.heap.size ≤ p ∧ w.heap.size ≤ b := by
  have hmk := fun w => make_rows w m (by omega)
  go_enter Try.func9, Try.ntmps9
  go_wp2_with fail
  have hB : Below w.heap.size w ((w.alloc (.cells (madeCells #[.slice none 0 0] m) 36)).alloc (.cells #[.int .i64 (n : Int), .slice (some ⟨w.heap.size, 0, none⟩) m m] 65)) := ((Below.refl _ w).alloc (Nat.le_refl _) _).alloc (by simp) _
  have e0 : ((w.alloc (.cells (madeCells #[.slice none 0 0] m) 36)).alloc (.cells #[.int .i64 (n : Int), .slice (some ⟨w.heap.size, 0, none⟩) m m] 65)).heap[w.heap.size]? = some (.cells (madeCells #[.slice none 0 0] m) 36) := (Below.heap_alloc _ _ _ (by simp)).trans (World.alloc_heap_new w _)
  have e1 : ((w.alloc (.cells (madeCells #[.slice none 0 0] m) 36)).alloc (.cells #[.int .i64 (n : Int), .slice (some ⟨w.heap.size, 0, none⟩) m m] 65)).heap[w.heap.size + 1]? = some (.cells #[.int .i64 (n : Int), .slice (some ⟨w.heap.size, 0, none⟩) m m] 65) := by
    have := World.alloc_heap_new (w.alloc (.cells (madeCells #[.slice none 0 0] m) 36)) (.cells #[.int .i64 (n : Int), .slice (some ⟨w.heap.size, 0, none⟩) m m] 65)
    rwa [World.size_alloc] at this
  have hs : ((w.alloc (.cells (madeCells #[.slice none 0 0] m) 36)).alloc (.cells #[.int .i64 (n : Int), .slice (some ⟨w.heap.size, 0, none⟩) m m] 65)).heap.size = w.heap.size + 1 + 1 := by simp
  generalize (w.alloc (.cells (madeCells #[.slice none 0 0] m) 36)).alloc (.cells #[.int .i64 (n : Int), .slice (some ⟨w.heap.size, 0, none⟩) m m] 65) = W at *
  have c : ∀ bb i (zs : Array Value) T, W.heap[bb]? = some (.cells zs T) → W.cell? ⟨bb, i, none⟩ = zs[i]? := fun bb i zs T h => by simp [World.cell?, h]
  go_ret2
  refine ⟨w.heap.size + 1, w.heap.size, rfl, ⟨?_, ?_, fun k hk => ?_, fun k => ?_, by omega, by omega, ⟨hn, hm⟩, fun k _ => by simp⟩, hB, by omega, Nat.le_refl _⟩
  · rw [c _ _ _ _ e1]; rfl
  · rw [c _ _ _ _ e1]; rfl
  · refine ⟨.slice none 0 0, ?_, World.ownsRow_nil _ _ _ _⟩
    rw [c _ _ _ _ e0, made_at hk (v := .slice none 0 0) (by rw [show (#[Value.slice none 0 0] : Array Value).size = 1 from rfl, show k % 1 = 0 by omega]; rfl)]
  · simp [World.frozen?, e0]

set_option maxHeartbeats 1000000 in
theorem rnew_bad (x y : Int) (w : World) (h : ¬ (inR 65537 x = true ∧ inR 65537 y = true)) :
    Calls Try.prog 9 #[.int .i64 x, .int .i64 y] w fun e w' => e = .returned (.tuple #[.pointer none, .int .i64 1]) ∧ w' = w := by
  rw [inR_iff, inR_iff] at h
  have HC : Hid (x < 0 ∨ (0 ≤ x ∧ 65536 < x) ∨ (0 ≤ x ∧ x ≤ 65536 ∧ y < 0) ∨ (0 ≤ x ∧ x ≤ 65536 ∧ 0 ≤ y ∧ 65536 < y)) := by show _ ∨ _; omega
  clear h
  rcases HC.out with h1 | ⟨h1, h2⟩ | ⟨h1, h2, h3⟩ | ⟨h1, h2, h3, h4⟩
  all_goals
    clear HC
    go_enter Try.func9, Try.ntmps9
    go_wp2_with fail
    go_ret2
    exact ⟨rfl, rfl⟩

set_option maxHeartbeats 1000000 in
theorem rall_k (p b B n m : Nat) (R : Nat → List Nat) (i : Int) (w : World) (h : Rx w p b B n m R) :
    Calls Try.prog 13 #[.pointer (some ⟨p, 0, none⟩), .int .i64 i] w fun e w' => (∃ v, e = .returned v ∧ w.ownsRow B 3 1 v (rowR m R i).length (encL (rowR m R i))) ∧ w' = w := by
  have h1 := ris_k p b B n m R i w h
  cases hi : inR m i
  · rw [hi] at h1
    have e : rowR m R i = [] := by simp [rowR, hi]
    rw [e]
    clear h
    go_enter Try.func13, Try.ntmps13
    go_wp2_with fail
    refine h1.mono ?_
    rintro e w1 ⟨rfl, e1⟩
    subst e1
    go_wp2_with fail
    go_ret
    exact ⟨⟨_, rfl, World.ownsRow_nil _ _ _ _⟩, rfl⟩
  · rw [hi] at h1
    have hi' := hi
    obtain ⟨k, rfl, hk⟩ := inR_nat hi
    have e : rowR m R k = R k := by simp [rowR, hi']
    rw [e]
    obtain ⟨v, hv, hown⟩ := h.row k hk
    have HV : Hid (w.ownsRow B 3 1 v (R k).length (encL (R k))) := hown
    have c1 := h.c1
    have i3 : (0 : Int) ≤ (k : Int) := by omega
    have i4 : (k : Int) < (m : Int) := by omega
    clear h hown
    go_enter Try.func13, Try.ntmps13
    go_wp2_with fail
    refine h1.mono ?_
    rintro e w1 ⟨rfl, e1⟩
    subst e1
    go_wp2_with fail
    go_ret
    exact ⟨⟨_, rfl, HV.out⟩, rfl⟩

theorem rev_take {l : List Nat} {j : Nat} (hj : j < l.length) : (l.drop j).reverse = (l.drop (j + 1)).reverse ++ [l[j]] := by
  rw [List.drop_eq_getElem_cons hj, List.reverse_cons]
set_option maxHeartbeats 1000000 in
theorem rback_k (p b B n m : Nat) (R : Nat → List Nat) (i : Int) (w : World) (h : Rx w p b B n m R) :
    Calls Try.prog 36 #[.pointer (some ⟨p, 0, none⟩), .int .i64 i] w fun e w' => ∃ v, e = .returned v ∧ w'.ownsRow w.heap.size 3 1 v (rowR m R i).length (encL (rowR m R i).reverse) ∧ Below w.heap.size w w' := by
  obtain ⟨i0, hi0, hz0, hz1, hz2⟩ := info_parts Try.info3
  have h1 := rall_k p b B n m R i w h
  have hl : (rowR m R i).length ≤ 65536 := by
    unfold rowR
    cases hi : inR m i
    · simp
    · obtain ⟨k, rfl, hk⟩ := inR_nat hi
      simpa using h.len k hk
  clear h
  generalize rowR m R i = r at *
  go_enter Try.func36, Try.ntmps36
  go_wp2_with fail
  refine h1.mono ?_
  rintro e w1 ⟨⟨v, rfl, hown⟩, e1⟩
  subst e1
  obtain ⟨a, ca, rfl, ha, _⟩ := cells_of_own hown (k := .i64) (z := atL r) (fun j hj => encL_at2 hj)
  have HA : Hid (Cells w1 .i64 a r.length (atL r)) := ha
  clear ha hown h1
  go_wp2_with fail
  go_loopw [6, 7] (fun u vi wr => ∃ j : Nat, j ≤ r.length ∧ vi = .int .i64 ((j : Int) - 1) ∧ wr.ownsRow w1.heap.size 3 1 u (r.length - j) (encL (r.drop j).reverse) ∧ Below w1.heap.size w1 wr) (fun _ vi _ => (intOf vi + 1).toNat)
  case atStart => exact ⟨r.length, Nat.le_refl _, rfl, by rw [Nat.sub_self, List.drop_length]; exact World.ownsRow_nil _ _ _ _, Below.refl _ _⟩
  case round =>
    obtain ⟨j, hj, rfl, hown, hbel⟩ := hrel
    by_cases hlt : 0 < j
    · obtain ⟨j, rfl⟩ : ∃ q, j = q + 1 := ⟨j - 1, by omega⟩
      have ej : ((j + 1 : Nat) : Int) - 1 = (j : Int) := by omega
      rw [ej]
      obtain ⟨b1, off, rfl, hcell⟩ := HA.out.below hbel j (by omega)
      have e2 : atL r j = ((r[j] : Nat) : Int) := by simp [atL, List.getD, show j < r.length by omega]
      rw [e2] at hcell
      have HM : Hid ((r.drop j).reverse = (r.drop (j + 1)).reverse ++ [r[j]]) := rev_take (by omega)
      have HL : Hid (r.length - j = r.length - (j + 1) + 1) := by show _ = _; omega
      generalize r[j] = y at *
      clear e2 ej
      go_wp2_with (at_builtin; refine wpList_append_own _ rfl _ _ 36 rfl w1.heap.size 3 i0 (.int .i64 0) 1 8 Try.underlying36 hi0 hz0 hz1 hz2 rfl (by decide) _ _ _ rfl (hown.alloc _) ⟨wr.heap.size, 0, none⟩ 1 1 [.int .i64 (y : Int)] rfl rfl (cell_one_new _ _ _) (by simp [Value.oneCell']) (by unfold maxLen; omega) (by omega) (by have := hbel.size; simp; omega) ?_; intro v' w3 hown' hgrow _)
      go_roundw
      case rel =>
        refine ⟨j, by omega, rfl, ?_, ?_⟩
        · rw [HM.out, HL.out, encL_snoc]; exact hown'
        · exact (hbel.alloc hbel.size _).grown hgrow (by have := hbel.size; simp; omega) (own_ge hown)
      case measure => simp [intOf]
    · obtain rfl : j = 0 := by omega
      rw [Nat.sub_zero, List.drop_zero] at hown
      go_wp2_with fail
      go_ret
      exact ⟨_, rfl, hown, hbel⟩

/-- the program's lists and the document's, with the same rows -/
structure Both (w : World) (o : Pl) (p b B n m : Nat) (R : Nat → List Nat) : Prop where
  kv : Kv w o n m R
  rx : Rx w p b B n m R
  ap : ∀ g, o.has g → g ≠ p ∧ g ≠ b ∧ g < B
theorem Both.below {w w' : World} {o : Pl} {p b B n m : Nat} {R : Nat → List Nat} (h : Both w o p b B n m R) (hb : Below w.heap.size w w') : Both w' o p b B n m R := ⟨h.kv.below hb, h.rx.below hb, h.ap⟩
/-- behind an act of the program's and one of the document's -/
theorem Both.acts {w w1 w2 : World} {o : Pl} {p b B n m : Nat} {R R' : Nat → List Nat} (h : Both w o p b B n m R) (k1 : Kv w1 o n m R') (r2 : Rx w2 p b B n m R') (b2 : But (fun y => y = b) w1 w2) : Both w2 o p b B n m R' :=
  ⟨k1.but b2 (fun g hg e => (h.ap g hg).2.1 e), r2, h.ap⟩
theorem Both.mid {w w1 : World} {o : Pl} {p b B n m : Nat} {R : Nat → List Nat} (h : Both w o p b B n m R) (b1 : But o.has w w1) : Rx w1 p b B n m R :=
  h.rx.but b1 (fun hp => (h.ap p hp).1 rfl) (fun hb => (h.ap b hb).2.1 rfl) (fun g hg => (h.ap g hg).2.2)

end Go.Proofs.Ytiaacjollcccaaa
