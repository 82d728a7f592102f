/- What the document's own answers come to (lists, ranks, checks), and bits.Check. -/
import Derived.Test.YtlfmkgfhopbegaaMem
namespace Go.Proofs.Ytlfmkgfhopbegaa
open Go.RowKit

theorem rlist_any (s : Int) (w : World) (hs0 : 0 ≤ s) (hs1 : s < 18446744073709551616) :
    Calls Try.prog 11 #[.int .u64 s] w fun e w' => ∃ a cap, e = .returned (.slice a (mems s).length cap) ∧ Cells w' .i64 a (mems s).length (memAt s) ∧ Below w.heap.size w w' := by
  refine (rlist_own s w hs0 hs1).mono ?_
  rintro e w' ⟨v, rfl, hown, hbel⟩
  obtain ⟨a, cap, rfl, hc, _⟩ := cells_of_own hown (encL_at s)
  exact ⟨a, cap, rfl, hc, hbel⟩

set_option maxHeartbeats 1000000 in
theorem rof_any (a : Option Addr) (n cap : Nat) (z : Nat → Int) (w : World) (hn : n < 9223372036854775807) (hc : Cells w .i64 a n z) :
    Calls Try.prog 10 #[.slice a n cap] w fun e w' => (((∀ j, j < n → 0 ≤ z j ∧ z j < 64) ∧ e = .returned (.tuple #[.int .u64 (ofSet z n), .int .i64 0])) ∨ ((∃ j, j < n ∧ (z j < 0 ∨ 64 ≤ z j)) ∧ e = .returned (.tuple #[.int .u64 0, .int .i64 10]))) ∧ w' = w := by
  have HC : Hid (Cells w .i64 a n z) := hc
  clear hc
  go_enter Try.func10, Try.ntmps10
  go_wp2
  go_loop [4, 5] (fun s i => ∃ k : Nat, k ≤ n ∧ i = .int .i64 k ∧ s = .int .u64 (ofSet z k) ∧ Hid (∀ j, j < k → 0 ≤ z j ∧ z j < 64)) (fun _ i => n - (intOf i).toNat)
  case atStart => exact ⟨0, by omega, rfl, rfl, fun j hj => absurd hj (by omega)⟩
  case round =>
    obtain ⟨k, hk, rfl, rfl, hall⟩ := hrel
    have hs0 := ofSet_nonneg z k
    have hs1 := ofSet_lt z k hall.out
    by_cases hlt : k < n
    · obtain ⟨b, off, rfl, hcell⟩ := HC.out k hlt
      by_cases hg : 0 ≤ z k ∧ z k < 64
      · obtain ⟨hg0, hg1⟩ := hg
        obtain ⟨q, hq⟩ := Int.eq_ofNat_of_zero_le hg0
        have HQ : Hid (z k = (q : Int)) := hq
        rw [hq] at hcell hg0 hg1
        clear hq
        go_wp2_with (go_at_call 38; refine (with_any _ _ _ hs0 hs1 (by omega)).mono ?_; rintro e w' ⟨rfl, rfl⟩)
        go_round
        case rel =>
          refine ⟨k + 1, by omega, by go_num, ?_, ?_⟩
          · show _ = Value.int .u64 (setI (ofSet z k) (z k).toNat)
            rw [HQ.out, Int.toNat_natCast]
          · intro j hj
            by_cases e : j = k
            · subst e; rw [HQ.out]; exact ⟨hg0, hg1⟩
            · exact hall.out j (by omega)
        case measure => simp [intOf]; omega
      · have hb : z k < 0 ∨ 64 ≤ z k := by omega
        clear hg
        have HB : Hid (z k < 0 ∨ 64 ≤ z k) := hb
        rcases hb with hb | hb
        · go_wp2
          go_ret2
          exact ⟨.inr ⟨⟨k, hlt, HB.out⟩, rfl⟩, rfl⟩
        · have h0 : 0 ≤ z k := by omega
          go_wp2
          go_ret2
          exact ⟨.inr ⟨⟨k, hlt, HB.out⟩, rfl⟩, rfl⟩
    · obtain rfl : k = n := by omega
      go_wp2
      go_ret2
      exact ⟨.inl ⟨hall.out, rfl⟩, rfl⟩

set_option maxHeartbeats 1000000 in
theorem rrank_any (s i : Int) (w : World) (hs0 : 0 ≤ s) (hs1 : s < 18446744073709551616) :
    Calls Try.prog 23 #[.int .u64 s, .int .i64 i] w fun e w' => e = .returned (.int .i64 (rankI s i)) ∧ w' = w := by
  go_enter Try.func23, Try.ntmps23
  go_wp2
  go_loop [5, 6] (fun n k => ∃ j : Nat, j ≤ min i.toNat 64 ∧ k = .int .i64 j ∧ n = .int .i64 (memsTo s j).length) (fun _ k => 64 - (intOf k).toNat)
  case atStart => exact ⟨0, by omega, rfl, rfl⟩
  case round =>
    obtain ⟨j, hj, rfl, rfl⟩ := hrel
    have hle := memsTo_le s j
    by_cases hlt : j < 64
    · by_cases hji : (j : Int) < i
      · cases hb : tb s j
        · have HM : Hid (memsTo s (j + 1) = memsTo s j) := memsTo_miss s j hb
          have hh := fun w => rhas_at s j w hs0 hs1 hlt false hb
          clear hb
          go_wp2_with (go_at_call 15; refine (hh _).mono ?_; rintro e w' ⟨rfl, rfl⟩)
          go_round
          case rel => exact ⟨j + 1, by omega, by go_num, by rw [HM.out]⟩
          case measure => simp [intOf]; omega
        · have HM : Hid (memsTo s (j + 1) = memsTo s j ++ [j]) := memsTo_hit s j hb
          have hh := fun w => rhas_at s j w hs0 hs1 hlt true hb
          clear hb
          go_wp2_with (go_at_call 15; refine (hh _).mono ?_; rintro e w' ⟨rfl, rfl⟩)
          go_round
          case rel => exact ⟨j + 1, by omega, by go_num, by rw [HM.out, List.length_append]; go_num⟩
          case measure => simp [intOf]; omega
      · go_wp2
        go_ret
        exact ⟨ret_int (by unfold rankI; rw [show min i.toNat 64 = j by omega]), rfl⟩
    · obtain rfl : j = 64 := by omega
      go_wp2
      go_ret
      exact ⟨ret_int (by unfold rankI; rw [show min i.toNat 64 = 64 by omega]), rfl⟩

def nthB (s k : Int) : Bool := decide (0 ≤ k) && decide (k < ((mems s).length : Int))
def nthI (s k : Int) : Int := if nthB s k then memAt s k.toNat else 0
set_option maxHeartbeats 1000000 in
theorem rnth_any (s k : Int) (w : World) (hs0 : 0 ≤ s) (hs1 : s < 18446744073709551616) :
    Calls Try.prog 20 #[.int .u64 s, .int .i64 k] w fun e w' => e = .returned (.tuple #[.int .i64 (nthI s k), .bool (nthB s k)]) ∧ Below w.heap.size w w' := by
  by_cases h0 : k < 0
  · have hb : nthB s k = false := by simp [nthB]; omega
    have hi : nthI s k = 0 := by simp [nthI, hb]
    rw [hb, hi]
    clear hb hi
    go_enter Try.func20, Try.ntmps20
    go_wp2_with (go_at_call 11; refine (rlist_any _ _ hs0 hs1).mono ?_; rintro e w' ⟨a, cap, rfl, hc, hbel⟩)
    go_ret2
    exact ⟨rfl, by assumption⟩
  · obtain ⟨q, rfl⟩ := Int.eq_ofNat_of_zero_le (show 0 ≤ k by omega)
    have hle : (mems s).length ≤ 64 := memsTo_le s 64
    by_cases h1 : q < (mems s).length
    · have hb : nthB s q = true := by simp [nthB, h1]
      have hi : nthI s q = memAt s q := by simp [nthI, hb]
      rw [hb, hi]
      clear hb hi
      go_enter Try.func20, Try.ntmps20
      go_wp2_with (go_at_call 11; refine (rlist_any _ _ hs0 hs1).mono ?_; rintro e w' ⟨a, cap, rfl, hc, hbel⟩; obtain ⟨b, off, rfl, hcell⟩ := hc q h1; have HC : Hid (Cells w' .i64 (some ⟨b, off, none⟩) (mems s).length (memAt s)) := hc; clear hc)
      go_ret2
      exact ⟨rfl, by assumption⟩
    · have hb : nthB s q = false := by simp [nthB]; omega
      have hi : nthI s q = 0 := by simp [nthI, hb]
      rw [hb, hi]
      clear hb hi
      go_enter Try.func20, Try.ntmps20
      go_wp2_with (go_at_call 11; refine (rlist_any _ _ hs0 hs1).mono ?_; rintro e w' ⟨a, cap, rfl, hc, hbel⟩)
      go_ret2
      exact ⟨rfl, by assumption⟩

end Go.Proofs.Ytlfmkgfhopbegaa
