/- The document's queue: messages, lane. -/
import Derived.Test.YtkgehbonijpdnaaUOwn
namespace Go.Proofs.Ytkgehbonijpdnaa
open Go.RowKit
set_option maxRecDepth 100000

set_option maxHeartbeats 1000000 in
theorem rmessages_any (vl vm : Value) (Q : Qu) (V : Nat → Value) (i : Int) (w : World) (ho : OkQ Q) (hq : QIs w vl vm Q V) : Calls Try.prog 31 #[quV vl vm, .int .i64 i] w fun e w' => e = .returned (.int .i64 (cnt Q.ms i : Int)) ∧ Below w.heap.size w w' := by
  have hm := ho.nm
  obtain ⟨la, lc, rfl, _, _, hlr⟩ := hq.l
  obtain ⟨ma, mc, rfl, _, _, hmr⟩ := hq.m
  obtain ⟨k1, b1, s1⟩ := alloc1 w [.slice la Q.ls.length lc, .slice ma Q.ms.length mc] 30
  have K1 : Hid (Blk _ _ _ _) := k1
  have B1 : Hid (Below _ _ _) := b1
  have HQ1 : Hid (QIs _ _ _ Q V) := hq.below b1
  clear hlr hmr hq ho k1 b1 s1
  go_enter Try.func31, Try.ntmps31
  go_wp2_with fail
  generalize w.alloc (.cells #[.slice la Q.ls.length lc, .slice ma Q.ms.length mc] 30) = w1 at *
  go_loop [5, 6] (fun t i' => ∃ k : Nat, k ≤ Q.ms.length ∧ i' = .int .i64 k ∧ t = .int .i64 (cnt (Q.ms.take k) i : Int)) (fun _ i' => Q.ms.length - (intOf i').toNat)
  case atStart => exact ⟨0, Nat.zero_le _, rfl, rfl⟩
  case round =>
    obtain ⟨k, hk, rfl, rfl⟩ := hrel
    obtain ⟨p0, p1⟩ := K1.out.bx.two
    by_cases hlt : k < Q.ms.length
    · obtain ⟨b, off, _, e0, h0, h1, h2, h3⟩ := HQ1.out.msg hlt
      cases e0
      have HC : Hid (_ = _) := cnt_take Q.ms k hlt i
      have hcb : cnt (Q.ms.take k) i ≤ 1000 := Nat.le_trans (cnt_le _ _) (by rw [List.length_take]; omega)
      obtain ⟨x, hx⟩ : ∃ x, x = (atM Q.ms k).ln := ⟨_, rfl⟩
      rw [← hx] at h0 HC
      obtain ⟨c, hc⟩ : ∃ c, c = cnt (Q.ms.take k) i := ⟨_, rfl⟩
      rw [← hc] at HC hcb ⊢
      have HCC : Hid (c = cnt (Q.ms.take k) i) := hc
      clear hx hc h1 h2 h3
      by_cases he : x = i
      · have he1 : (x == i) = true := by simp [he]
        have HC2 : Hid (cnt (Q.ms.take (k + 1)) i = c + 1) := by show _ = _; rw [HC.out, if_pos he]
        clear he HC
        go_wp2_with fail
        go_round
        case rel => exact ⟨k + 1, by omega, by go_num, by rw [HC2.out]; go_num⟩
        case measure => simp [intOf]; omega
      · have he1 : (x == i) = false := by simp [he]
        have HC2 : Hid (cnt (Q.ms.take (k + 1)) i = c) := by show _ = _; rw [HC.out, if_neg he]; rfl
        clear he HC
        go_wp2_with fail
        go_round
        case rel => exact ⟨k + 1, by omega, by go_num, by rw [HC2.out]⟩
        case measure => simp [intOf]; omega
    · obtain rfl : k = Q.ms.length := by omega
      rw [List.take_length]
      go_wp2_with fail
      go_ret
      exact ⟨rfl, B1.out⟩
/-- claims that rise, read one by one -/
def upto (nx : Int) (l : List Int) (k : Nat) : Prop := ∀ j, j < k → 0 ≤ atI l j ∧ atI l j < nx ∧ (0 < j → atI l (j - 1) < atI l j)
theorem ris_iff (nx : Int) : ∀ (l : List Int) (lo : Int), ris nx lo l = true ↔ ∀ j, j < l.length → lo ≤ atI l j ∧ atI l j < nx ∧ (0 < j → atI l (j - 1) < atI l j)
  | [], lo => by simp [ris]
  | x :: xs, lo => by
    rw [ris, Bool.and_eq_true, win_iff, ris_iff nx xs (x + 1)]
    constructor
    · rintro ⟨⟨h1, h2⟩, h3⟩ j hj
      cases j with
      | zero => exact ⟨h1, by show x < nx; omega, fun h => absurd h (by omega)⟩
      | succ j =>
        have h4 := h3 j (by simpa using hj)
        refine ⟨?_, h4.2.1, fun _ => ?_⟩
        · have : x + 1 ≤ atI xs j := h4.1
          show lo ≤ atI xs j
          omega
        · cases j with
          | zero => show x < atI xs 0; have : x + 1 ≤ atI xs 0 := h4.1; omega
          | succ j => exact h4.2.2 (by omega)
    · intro h
      have h0 := h 0 (by simp)
      have hx1 : lo ≤ x := h0.1
      have hx2 : x < nx := h0.2.1
      refine ⟨⟨hx1, by omega⟩, fun j hj => ?_⟩
      have h4 := h (j + 1) (by simpa using hj)
      have key : ∀ j, j < xs.length → x + 1 ≤ atI xs j := by
        intro j
        induction j with
        | zero => intro hj; have : x < atI xs 0 := (h 1 (by simpa using hj)).2.2 (by omega); omega
        | succ j ih => intro hj; have h5 := ih (by omega); have : atI xs j < atI xs (j + 1) := (h (j + 2) (by simp; omega)).2.2 (by omega); omega
      refine ⟨key j hj, h4.2.1, fun hj0 => ?_⟩
      cases j with
      | zero => exact absurd hj0 (by omega)
      | succ j => exact h4.2.2 (by omega)
theorem ris_upto {nx : Int} {l : List Int} : ris nx 0 l = true ↔ upto nx l l.length := ris_iff nx l 0

end Go.Proofs.Ytkgehbonijpdnaa
