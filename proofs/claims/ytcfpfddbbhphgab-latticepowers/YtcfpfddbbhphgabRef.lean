/- What the document's own answers come to (lists, ranks, checks), and bits.Check. -/
import Derived.Test.YtcfpfddbbhphgabMem
namespace Go.Proofs.Ytcfpfddbbhphgab
open Go.RowKit

theorem rlist_any (s : Int) (w : World) (hs0 : 0 ≤ s) (hs1 : s < 18446744073709551616) :
    Calls Try.prog 35 #[.int .u64 s] w fun e w' => ∃ a cap, e = .returned (.slice a (mems s).length cap) ∧ Cells w' .i64 a (mems s).length (memAt s) ∧ Below w.heap.size w w' := by
  refine (rlist_own s w hs0 hs1).mono ?_
  rintro e w' ⟨v, rfl, hown, hbel⟩
  obtain ⟨a, cap, rfl, hc, _⟩ := cells_of_own hown (encL_at s)
  exact ⟨a, cap, rfl, hc, hbel⟩

def nthB (s k : Int) : Bool := decide (0 ≤ k) && decide (k < ((mems s).length : Int))
def nthI (s k : Int) : Int := if nthB s k then memAt s k.toNat else 0
set_option maxHeartbeats 1000000 in
theorem rnth_any (s k : Int) (w : World) (hs0 : 0 ≤ s) (hs1 : s < 18446744073709551616) :
    Calls Try.prog 24 #[.int .u64 s, .int .i64 k] w fun e w' => e = .returned (.tuple #[.int .i64 (nthI s k), .bool (nthB s k)]) ∧ Below w.heap.size w w' := by
  by_cases h0 : k < 0
  · have hb : nthB s k = false := by simp [nthB]; omega
    have hi : nthI s k = 0 := by simp [nthI, hb]
    rw [hb, hi]
    clear hb hi
    go_enter Try.func24, Try.ntmps24
    go_wp2_with (go_at_call 35; refine (rlist_any _ _ hs0 hs1).mono ?_; rintro e w' ⟨a, cap, rfl, hc, hbel⟩)
    go_ret2
    exact ⟨rfl, by assumption⟩
  · obtain ⟨q, rfl⟩ := Int.eq_ofNat_of_zero_le (show 0 ≤ k by omega)
    have hle : (mems s).length ≤ 64 := memsTo_le s 64
    by_cases h1 : q < (mems s).length
    · have hb : nthB s q = true := by simp [nthB, h1]
      have hi : nthI s q = memAt s q := by simp [nthI, hb]
      rw [hb, hi]
      clear hb hi
      go_enter Try.func24, Try.ntmps24
      go_wp2_with (go_at_call 35; refine (rlist_any _ _ hs0 hs1).mono ?_; rintro e w' ⟨a, cap, rfl, hc, hbel⟩; obtain ⟨b, off, rfl, hcell⟩ := hc q h1; have HC : Hid (Cells w' .i64 (some ⟨b, off, none⟩) (mems s).length (memAt s)) := hc; clear hc)
      go_ret2
      exact ⟨rfl, by assumption⟩
    · have hb : nthB s q = false := by simp [nthB]; omega
      have hi : nthI s q = 0 := by simp [nthI, hb]
      rw [hb, hi]
      clear hb hi
      go_enter Try.func24, Try.ntmps24
      go_wp2_with (go_at_call 35; refine (rlist_any _ _ hs0 hs1).mono ?_; rintro e w' ⟨a, cap, rfl, hc, hbel⟩)
      go_ret2
      exact ⟨rfl, by assumption⟩

end Go.Proofs.Ytcfpfddbbhphgab
