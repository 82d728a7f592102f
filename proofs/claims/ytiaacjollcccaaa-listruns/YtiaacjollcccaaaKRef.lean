/- The document's lists: rows. -/
import Derived.Test.YtiaacjollcccaaaKAlive
namespace Go.Proofs.Ytiaacjollcccaaa
open Go.RowKit

/-- the document's lists in memory: the rows lie from block B on -/
structure Rx (w : World) (p b B n m : Nat) (R : Nat → List Nat) : Prop where
  c0 : w.cell? ⟨p, 0, none⟩ = some (.int .i64 (n : Int))
  c1 : w.cell? ⟨p, 1, none⟩ = some (.slice (some ⟨b, 0, none⟩) m m)
  row : ∀ k, k < m → ∃ v, w.cell? ⟨b, k, none⟩ = some v ∧ w.ownsRow B 3 1 v (R k).length (encL (R k))
  fz : ∀ k, w.frozen? ⟨b, k, none⟩ = false
  ne : p ≠ b
  lt : p < B ∧ b < B ∧ B ≤ w.heap.size
  bd : n ≤ 65536 ∧ m ≤ 65536
  len : ∀ k, k < m → (R k).length ≤ 65536
theorem Rx.blt {w : World} {p b B n m : Nat} {R : Nat → List Nat} (h : Rx w p b B n m R) : p < w.heap.size ∧ b < w.heap.size := ⟨Nat.lt_of_lt_of_le h.lt.1 h.lt.2.2, Nat.lt_of_lt_of_le h.lt.2.1 h.lt.2.2⟩
theorem Rx.but {w w' : World} {p b B n m : Nat} {R : Nat → List Nat} {S : Nat → Prop} (h : Rx w p b B n m R) (hb : But S w w') (hp : ¬ S p) (hq : ¬ S b) (hS : ∀ g, S g → g < B) : Rx w' p b B n m R := by
  obtain ⟨b1, b2⟩ := h.blt
  refine ⟨hb.cell h.c0 hp, hb.cell h.c1 hp, fun k hk => ?_, fun k => ?_, h.ne, ⟨h.lt.1, h.lt.2.1, Nat.le_trans h.lt.2.2 hb.size⟩, h.bd, h.len⟩
  · obtain ⟨v, h1, h2⟩ := h.row k hk
    exact ⟨v, hb.cell h1 hq, own_but h2 hb hS⟩
  · exact (World.frozen?_of_block (w := w) (a := ⟨b, k, none⟩) (hb.block b b2 hq)).trans (h.fz k)
theorem Rx.below {w w' : World} {p b B n m : Nat} {R : Nat → List Nat} (h : Rx w p b B n m R) (hb : Below w.heap.size w w') : Rx w' p b B n m R :=
  h.but (S := fun _ => False) (But.of hb) id id (fun _ h => h.elim)

set_option maxHeartbeats 1000000 in
theorem ris_k (p b B n m : Nat) (R : Nat → List Nat) (i : Int) (w : World) (h : Rx w p b B n m R) :
    Calls Try.prog 38 #[.pointer (some ⟨p, 0, none⟩), .int .i64 i] w fun e w' => e = .returned (.bool (inR m i)) ∧ w' = w := by
  have c1 := h.c1
  clear h
  by_cases h0 : 0 ≤ i
  · have e : inR m i = decide (i < m) := by simp [inR, h0]
    rw [e]
    go_enter Try.func38, Try.ntmps38
    go_wp2_with fail
    go_ret
    exact ⟨rfl, rfl⟩
  · have e : inR m i = false := by simp [inR, h0]
    rw [e]
    go_enter Try.func38, Try.ntmps38
    go_wp2_with fail
    go_ret
    exact ⟨rfl, rfl⟩
set_option maxHeartbeats 1000000 in
theorem rnode_k (p b B n m : Nat) (R : Nat → List Nat) (i : Int) (w : World) (h : Rx w p b B n m R) :
    Calls Try.prog 54 #[.pointer (some ⟨p, 0, none⟩), .int .i64 i] w fun e w' => e = .returned (.bool (inR n i)) ∧ w' = w := by
  have c1 := h.c0
  clear h
  by_cases h0 : 0 ≤ i
  · have e : inR n i = decide (i < n) := by simp [inR, h0]
    rw [e]
    go_enter Try.func54, Try.ntmps54
    go_wp2_with fail
    go_ret
    exact ⟨rfl, rfl⟩
  · have e : inR n i = false := by simp [inR, h0]
    rw [e]
    go_enter Try.func54, Try.ntmps54
    go_wp2_with fail
    go_ret
    exact ⟨rfl, rfl⟩

/-- where x is, or -1 -/
def atI (R : Nat → List Nat) (m x : Nat) : Int := match whr R m x with | some k => (k : Int) | none => -1
theorem whr_first {R : Nat → List Nat} {m x k : Nat} (hk : k < m) (h : x ∈ R k) (hno : ∀ j, j < k → x ∉ R j) : whr R m x = some k := by
  cases hw : whr R m x with
  | none => exact absurd h (whr_none hw k hk)
  | some j =>
    obtain ⟨h1, h2⟩ := whr_some hw
    by_cases hjk : j < k
    · exact absurd h2 (hno j hjk)
    · by_cases e : j = k
      · rw [e]
      · exfalso
        have hlt : k < j := by omega
        unfold whr at hw
        rw [List.find?_eq_some_iff_append] at hw
        obtain ⟨_, us, bs, e1, e2⟩ := hw
        have hj : j = us.length := by
          have : (List.range m)[us.length]? = some j := by rw [e1]; simp
          grind
        have : k ∈ us := by
          have : us = (List.range m).take us.length := by rw [e1]; simp
          rw [this, ← hj, List.take_range]
          simp; omega
        have := e2 k this
        simp at this
        exact this h

set_option maxHeartbeats 2000000 in
theorem rat_k (p b B n m x : Nat) (R : Nat → List Nat) (w : World) (h : Rx w p b B n m R) :
    Calls Try.prog 55 #[.pointer (some ⟨p, 0, none⟩), .int .i64 (x : Int)] w fun e w' => e = .returned (.int .i64 (atI R m x)) ∧ w' = w := by
  have c1 := h.c1
  have HR : Hid (∀ k, k < m → ∃ a cap, w.cell? ⟨b, k, none⟩ = some (.slice a (R k).length cap) ∧ Cells w .i64 a (R k).length (atL (R k))) := fun k hk => by
    obtain ⟨v, h1, h2⟩ := h.row k hk
    obtain ⟨a, ca, rfl, ha, _⟩ := cells_of_own h2 (k := .i64) (z := atL (R k)) (fun j hj => encL_at2 hj)
    exact ⟨a, ca, h1, ha⟩
  have hm := h.bd.2
  have HL : Hid (∀ k, k < m → (R k).length ≤ 65536) := h.len
  clear h
  go_enter Try.func55, Try.ntmps55
  go_wp2_with fail
  go_loop [5] (fun v => ∃ i : Nat, i ≤ m ∧ v = .int .i64 i ∧ Hid (∀ j, j < i → x ∉ R j)) (fun v => m - (intOf v).toNat)
  case atStart => exact ⟨0, by omega, rfl, fun j hj => absurd hj (by omega)⟩
  case round =>
    obtain ⟨i, hi, rfl, hno⟩ := hrel
    by_cases hlt : i < m
    · obtain ⟨a, cap, hc, hcells⟩ := HR.out i hlt
      have HC : Hid (Cells w .i64 a (R i).length (atL (R i))) := hcells
      have hl := HL.out i hlt
      clear hcells
      go_wp2_with fail
      go_loop [6] (fun v => ∃ k : Nat, k ≤ (R i).length ∧ v = .int .i64 k ∧ Hid (∀ q, q < k → atL (R i) q ≠ (x : Int))) (fun v => (R i).length - (intOf v).toNat)
      case atStart => exact ⟨0, by omega, rfl, fun j hj => absurd hj (by omega)⟩
      case round =>
        obtain ⟨k, hk, rfl, hq⟩ := hrel
        by_cases hkl : k < (R i).length
        · obtain ⟨b1, off, rfl, hcell⟩ := HC.out k hkl
          by_cases he : atL (R i) k = (x : Int)
          · rw [he] at hcell
            have HE : Hid (atI R m x = (i : Int)) := by
              have hx : x ∈ R i := by
                have h1 : ((R i).getD k 0 : Nat) = x := by unfold atL at he; omega
                rw [← h1]
                simp [List.getD, hkl]
              unfold atI; show (match whr R m x with | some k => (k : Int) | none => -1) = _
              rw [whr_first hlt hx hno.out]
            clear he
            go_wp2_with fail
            go_ret
            exact ⟨ret_int HE.out.symm, rfl⟩
          · have hb : (atL (R i) k == (x : Int)) = false := by simpa using he
            have HE : Hid (atL (R i) k ≠ (x : Int)) := he
            clear he
            go_wp2_with fail
            go_round
            case rel =>
              refine ⟨k + 1, by omega, by go_num, fun q hq' => ?_⟩
              by_cases e : q = k
              · rw [e]; exact HE.out
              · exact hq.out q (by omega)
            case measure => simp [intOf]; omega
        · obtain rfl : k = (R i).length := by omega
          have HN : Hid (∀ j, j < i + 1 → x ∉ R j) := fun j hj hm' => by
            by_cases e : j = i
            · subst e
              obtain ⟨q, hq1, hq2⟩ := List.getElem_of_mem hm'
              exact hq.out q hq1 (by simp [atL, List.getD, hq1, hq2])
            · exact hno.out j (by omega) hm'
          go_wp2_with fail
          go_round
          case rel => exact ⟨i + 1, by omega, by go_num, HN.out⟩
          case measure => simp [intOf]; omega
    · obtain rfl : i = m := by omega
      have HE : Hid (atI R i x = -1) := by
        unfold atI; show (match whr R i x with | some k => (k : Int) | none => -1) = _
        rw [whr_none_of hno.out]
      go_wp2_with fail
      go_ret
      exact ⟨ret_int HE.out.symm, rfl⟩

end Go.Proofs.Ytiaacjollcccaaa
