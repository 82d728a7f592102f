/- Both stand alike. -/
import Derived.Test.YtiaacjollcccaaaKDo
namespace Go.Proofs.Ytiaacjollcccaaa
open Go.RowKit

theorem lenR_row (m : Nat) (R : Nat → List Nat) (i : Int) : lenR m R i = ((rowR m R i).length : Int) := by
  unfold lenR rowR
  cases inR m i <;> simp
theorem Both.short {w : World} {o : Pl} {p b B n m : Nat} {R : Nat → List Nat} (h : Both w o p b B n m R) (i : Int) : (rowR m R i).length ≤ n := by
  unfold rowR
  cases hi : inR m i
  · simp
  · obtain ⟨k, rfl, hk⟩ := inR_nat hi
    simpa using (h.kv.len hk).1
theorem own_stay {w w' : World} {b : Nat} {e : TypeId} {size : Nat} {v : Value} {n : Nat} {xs : List Value} (h : w.ownsRow b e size v n xs) (hb : Below w.heap.size w w') : w'.ownsRow b e size v n xs :=
  own_but (S := fun _ => False) h (But.of hb) (fun _ h => h.elim)

set_option maxRecDepth 100000 in
set_option maxHeartbeats 4000000 in
theorem like_k (o : Pl) (p b B n m : Nat) (R : Nat → List Nat) (w : World) (h : Both w o p b B n m R) (hn : n < 80) :
    Calls Try.prog 12 #[o.ptr, .pointer (some ⟨p, 0, none⟩)] w fun e w' => e = .returned (.bool true) ∧ Below w.heap.size w w' := by
  have HH : Hid (Both w o p b B n m R) := h
  have hm : m ≤ 65536 := h.rx.bd.2
  clear h
  go_enter Try.func12, Try.ntmps12
  go_wp2_with fail
  go_loopw [5] (fun vi wr => ∃ j : Nat, j ≤ m + 2 ∧ vi = .int .i64 ((j : Int) - 1) ∧ Below w.heap.size w wr) (fun vi _ => m + 3 - (intOf vi + 1).toNat)
  case atStart => exact ⟨0, by omega, rfl, Below.refl _ _⟩
  case round =>
    obtain ⟨j, hj, rfl, hbel⟩ := hrel
    have HB : Hid (Both wr o p b B n m R) := HH.out.below hbel
    by_cases hlt : j < m + 2
    · obtain ⟨i, hi⟩ : ∃ i : Int, i = (j : Int) - 1 := ⟨_, rfl⟩
      have hi1 : -1 ≤ i := by omega
      have hi2 : i ≤ (m : Int) := by omega
      have HI : Hid (i = (j : Int) - 1) := hi
      rw [← hi]
      clear hi
      have hsh := HB.out.short i
      have ht := told_k o n m R i wr HB.out.kv hn
      have c1 := HB.out.rx.c1
      go_wp2_with fail
      refine ht.mono ?_
      rintro e w2 ⟨v1, rfl, ho1, hb2⟩
      have HB2 : Hid (Both w2 o p b B n m R) := HB.out.below hb2
      have HO1 : Hid (w2.ownsRow wr.heap.size 3 1 v1 (rowR m R i).length (encL (rowR m R i))) := ho1
      have ha := rall_k p b B n m R i w2 HB2.out.rx
      clear ho1 ht c1
      go_wp2_with fail
      refine ha.mono ?_
      rintro e w3 ⟨⟨v2, rfl, ho2⟩, e1⟩
      subst e1
      have hs := rsame5_own HO1.out ho2 (by omega)
      clear ha ho2
      go_wp2_with fail
      refine hs.mono ?_
      rintro e w4 ⟨rfl, hb4⟩
      have HB4 : Hid (Both w4 o p b B n m R) := HB2.out.below hb4
      have B4 : Below w.heap.size w w4 := Below.onto (Below.onto hbel hb2) hb4
      clear hs hb4 hb2 HO1
      go_wp2_with fail
      refine (back_k _ _ _).mono ?_
      rintro e w5 ⟨rfl, hw5⟩
      have hcall := restBack_k o n m R i w4 w5 HB4.out.kv hn hw5
      have hb5 := (boxes3 hw5).1
      have HB5 : Hid (Both w5 o p b B n m R) := HB4.out.below hb5
      have B5 : Below w.heap.size w w5 := Below.onto B4 hb5
      clear hw5 hb5
      go_wp2_with fail
      refine hcall.mono ?_
      rintro e w6 ⟨v3, rfl, ho3, hb6⟩
      have HB6 : Hid (Both w6 o p b B n m R) := HB5.out.below hb6
      have B6 : Below w.heap.size w w6 := Below.onto B5 hb6
      have HO3 : Hid (w6.ownsRow w5.heap.size 3 1 v3 (rowR m R i).length (encL (rowR m R i).reverse)) := ho3
      have hk := rback_k p b B n m R i w6 HB6.out.rx
      clear ho3 hb6 hcall
      go_wp2_with fail
      refine hk.mono ?_
      rintro e w7 ⟨v4, rfl, ho4, hb7⟩
      have HB7 : Hid (Both w7 o p b B n m R) := HB6.out.below hb7
      have B7 : Below w.heap.size w w7 := Below.onto B6 hb7
      have hs2 := rsame5_own (l := (rowR m R i).reverse) (w := w7) (v1 := v3) (v2 := v4) (by rw [List.length_reverse]; exact own_stay HO3.out hb7) (by rw [List.length_reverse]; exact ho4) (by rw [List.length_reverse]; omega)
      clear ho4 hb7 hk
      go_wp2_with fail
      refine hs2.mono ?_
      rintro e w8 ⟨rfl, hb8⟩
      have HB8 : Hid (Both w8 o p b B n m R) := HB7.out.below hb8
      have B8 : Below w.heap.size w w8 := Below.onto B7 hb8
      have hl := klen_k o n m R i w8 HB8.out.kv
      rw [lenR_row] at hl
      have ha2 := rall_k p b B n m R i w8 HB8.out.rx
      clear hs2 hb8
      go_wp2_with fail
      refine hl.mono ?_
      rintro e w9 ⟨rfl, e1⟩
      subst e1
      go_wp2_with fail
      refine ha2.mono ?_
      rintro e w9 ⟨⟨v5, rfl, ho5⟩, e1⟩
      subst e1
      obtain ⟨a5, c5, rfl, _, _⟩ := cells_of_own ho5 (k := .i64) (z := atL (rowR m R i)) (fun j hj => encL_at2 hj)
      clear ho5 hl ha2
      go_wp2_with fail
      go_roundw
      case rel => exact ⟨j + 1, by omega, by rw [HI.out]; go_num, B8⟩
      case measure => have := HI.out; simp [intOf]; omega
    · obtain rfl : j = m + 2 := by omega
      have c0 := HB.out.rx.c0
      have c1 := HB.out.rx.c1
      have ej : ((m + 2 : Nat) : Int) - 1 = (m : Int) + 1 := by omega
      rw [ej]
      clear ej
      go_wp2_with fail
      go_loopw [6] (fun vi wr => ∃ j : Nat, j ≤ n + 2 ∧ vi = .int .i64 ((j : Int) - 1) ∧ Below w.heap.size w wr) (fun vi _ => n + 3 - (intOf vi + 1).toNat)
      case atStart => exact ⟨0, by omega, rfl, hbel⟩
      case round =>
        clear c0 c1
        obtain ⟨j, hj, rfl, hbel2⟩ := hrel
        have HB2 : Hid (Both wr o p b B n m R) := HH.out.below hbel2
        have c0 := HB2.out.rx.c0
        by_cases hlt2 : j < n + 2
        · obtain ⟨i, hi⟩ : ∃ i : Int, i = (j : Int) - 1 := ⟨_, rfl⟩
          have hi1 : -1 ≤ i := by omega
          have hi2 : i ≤ (n : Int) := by omega
          have HI : Hid (i = (j : Int) - 1) := hi
          rw [← hi]
          clear hi
          have ho := of_k o n m R i wr HB2.out.kv
          go_wp2_with fail
          refine ho.mono ?_
          rintro e w2 ⟨rfl, hb2⟩
          have hbw : Below wr.heap.size wr w2 := hb2.below (Nat.le_refl _) (fun _ h => h.elim)
          have ho2 := rof_k p b B n m R i w2 (HB2.out.below hbw).rx
          have B2 : Below w.heap.size w w2 := Below.onto hbel2 hbw
          clear ho hb2 hbw c0
          go_wp2_with fail
          refine ho2.mono ?_
          rintro e w3 ⟨rfl, e1⟩
          subst e1
          clear ho2
          go_wp2_with fail
          go_roundw
          case rel => exact ⟨j + 1, by omega, by rw [HI.out]; go_num, B2⟩
          case measure => have := HI.out; simp [intOf]; omega
        · obtain rfl : j = n + 2 := by omega
          have ej : ((n + 2 : Nat) : Int) - 1 = (n : Int) + 1 := by omega
          rw [ej]
          clear ej
          go_wp2_with fail
          go_ret
          exact ⟨rfl, hbel2⟩

end Go.Proofs.Ytiaacjollcccaaa
