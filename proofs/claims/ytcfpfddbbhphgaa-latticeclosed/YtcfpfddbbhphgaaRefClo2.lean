/- The document's own Closure; both Reach. -/
import Derived.Test.YtcfpfddbbhphgaaRefClo
import Derived.Test.YtcfpfddbbhphgaaUn
namespace Go.Proofs.Ytcfpfddbbhphgaa
open Go.RowKit Go.Shelf

def cloUpto (n : Nat) (z : Nat → Int) (k : Nat) : Nat → Int := fun j => if j < k then clo n z j else 0
theorem cloUpto_succ (n : Nat) (z : Nat → Int) (k : Nat) : upd (cloUpto n z k) k (clo n z k) = cloUpto n z (k + 1) := by
  funext j
  unfold upd cloUpto
  by_cases e : j = k
  · subst e; simp
  · by_cases h : j < k
    · simp [e, h, show j < k + 1 by omega]
    · simp [e, h, show ¬ j < k + 1 by omega]
/-- one row of the document's closure -/
theorem reach_row (a : Option Addr) (n cap : Nat) (z : Nat → Int) (w : World) (hn : n ≤ 64) (hc : Cells w .u64 a n z) (hz : ∀ j, j < n → 0 ≤ z j ∧ z j < 18446744073709551616) {k : Nat} (hk : k < n) :
    Calls Try.prog 58 #[.slice a n cap, .int .u64 (setI 0 k)] w fun e w' => e = .returned (.int .u64 (clo n z k)) ∧ Below w.heap.size w w' := by
  refine (reach_any a n cap z (setI 0 k) w hn hc hz (setI_nonneg _ _) (setI_lt (by decide) (by omega))).mono ?_
  rintro e w' ⟨r, rfl, hr0, hr, hb⟩
  exact ⟨ret_int (reach_clo hn hz hk hr0 hr), hb⟩

set_option maxHeartbeats 1000000 in
theorem rclosure_bad (a : Option Addr) (n cap : Nat) (z : Nat → Int) (w : World) (hn : n < 9223372036854775807) (hc : Cells w .u64 a n z) (hz : ∀ j, j < n → 0 ≤ z j ∧ z j < 18446744073709551616) (hk : chkI n z ≠ 0) :
    Calls Try.prog 34 #[.slice a n cap] w fun e w' => e = .returned (.tuple #[.slice none 0 0, .int .i64 (chkI n z)]) ∧ Below w.heap.size w w' := by
  have hchk := rcheck_any a n cap z w hn hc hz
  have hne : (chkI n z != 0) = true := by simp [hk]
  generalize chkI n z = c at *
  clear hk hc hz
  go_enter Try.func34, Try.ntmps34
  go_wp2_with fail
  refine hchk.mono ?_
  rintro e w' ⟨rfl, hb⟩
  go_wp2_with fail
  go_ret2
  exact ⟨rfl, hb⟩

set_option maxRecDepth 100000 in
set_option maxHeartbeats 4000000 in
theorem rclosure_ok (a : Option Addr) (n cap : Nat) (z : Nat → Int) (w : World) (hc : Cells w .u64 a n z) (hz : ∀ j, j < n → 0 ≤ z j ∧ z j < 18446744073709551616) (hk : chkI n z = 0) :
    Calls Try.prog 34 #[.slice a n cap] w fun e w' => ∃ g, e = .returned (.tuple #[.slice (some ⟨g, 0, none⟩) n n, .int .i64 0]) ∧ Out w' w.heap.size g n (clo n z) ∧ Below w.heap.size w w' := by
  obtain ⟨i0, hi, hz0, hz1, hz2⟩ := info_parts Try.info23
  have HZ : Hid (∀ j, j < n → 0 ≤ z j ∧ z j < 18446744073709551616) := hz
  have hn := (chk_ok hk).1
  have hchk := rcheck_any a n cap z w (by omega) hc HZ.out
  rw [hk] at hchk
  have HC : Hid (Cells w .u64 a n z) := hc
  clear hc hz hk
  go_enter Try.func34, Try.ntmps34
  go_wp2_with fail
  refine hchk.mono ?_
  rintro e w1 ⟨rfl, hb1⟩
  go_wp2_with (at_make; refine wpList_make_full _ rfl _ _ 22 rfl w1.heap.size 34 i0 (.int .u64 0) 1 Try.underlying22 hi hz0 hz1 .i64 .i64 _ _ n rfl rfl rfl rfl (by rw [hz2]; omega) (by unfold maxLen; omega) (Nat.le_refl _) ?_; intro w2 hown hgrow)
  rw [made_zero] at hown
  have hb2 : Below w1.heap.size w1 w2 := (Below.refl _ w1).grown hgrow (Nat.le_refl _) (fun k e => by cases e)
  have h0 : Out w2 w.heap.size w1.heap.size n (cloUpto n z 0) := Out.congr (own_mono hown hb1.size) (fun j _ => by simp [cloUpto])
  have hbw : Below w.heap.size w w2 := Below.onto hb1 hb2
  have hgw := hb1.size
  clear hown hgrow hb1 hb2
  generalize w1.heap.size = g at *
  go_loopw [6] (fun i wr => ∃ k : Nat, k ≤ n ∧ i = .int .i64 k ∧ Out wr w.heap.size g n (cloUpto n z k) ∧ Below w.heap.size w wr) (fun i _ => n - (intOf i).toNat)
  case atStart => exact ⟨0, Nat.zero_le _, rfl, h0, hbw⟩
  case round =>
    clear h0 hbw
    obtain ⟨k, hk, rfl, ho, hbel⟩ := hrel
    by_cases hlt : k < n
    · have hwith := fun w => with_any 0 k w (by decide) (by decide) (by omega)
      have hcs := HC.out.below hbel
      have hreach := fun w' h => reach_row a n cap z w' hn h HZ.out hlt
      have HU : Hid (upd (cloUpto n z k) k (clo n z k) = cloUpto n z (k + 1)) := cloUpto_succ n z k
      generalize clo n z k = R at *
      go_wp2_with fail
      refine (hwith _).mono ?_
      rintro e w3 ⟨rfl, hw⟩
      subst hw
      go_wp2_with fail
      refine (hreach _ hcs).mono ?_
      rintro e w4 ⟨rfl, h4⟩
      have ho4 := ho.below h4
      have hof := ho4.frozen k
      have hoc := ho4.cell hlt
      have hb4 := Below.onto hbel h4
      clear h4 ho hbel hcs hreach
      go_wp2_with fail
      go_roundw
      case rel => exact ⟨k + 1, by omega, by go_num, by rw [← HU.out]; exact ho4.set k _, hb4.setCell (p := ⟨g, k, none⟩) hgw _⟩
      case measure => simp [intOf]; omega
    · obtain rfl : k = n := by omega
      have HF : Hid (Out wr w.heap.size g k (clo k z)) := ho.congr (fun j hj => by simp [cloUpto, hj])
      go_wp2
      go_ret2
      exact ⟨g, rfl, HF.out, hbel⟩
theorem rclosure_un (a : Option Addr) (n cap : Nat) (z : Nat → Int) (w : World) (hn : n < 9223372036854775807) (hc : Cells w .u64 a n z) (hz : ∀ j, j < n → 0 ≤ z j ∧ z j < 18446744073709551616) :
    Calls Try.prog 34 #[.slice a n cap] w (Gives w (chkI n z) n (clo n z)) := by
  by_cases h : chkI n z = 0
  · rw [h]; exact (rclosure_ok a n cap z w hc hz h).mono fun e w' ⟨g, he, ho, hb⟩ => gives_own he ho hb
  · exact (rclosure_bad a n cap z w hn hc hz h).mono fun e w' ⟨he, hb⟩ => gives_bad h he hb

/-- Reach's error and its set -/
def reachE (n : Nat) (z : Nat → Int) (i : Int) : Int := if chkI n z = 0 then (if 0 ≤ i ∧ i < (n : Int) then 0 else 5) else chkI n z
def reachV (n : Nat) (z : Nat → Int) (i : Int) : Int := if reachE n z i = 0 then clo n z i.toNat else 0
theorem reach_bad {n : Nat} {z : Nat → Int} {i : Int} (h : chkI n z ≠ 0) : reachE n z i = chkI n z ∧ reachV n z i = 0 := by simp [reachE, reachV, h]
theorem reach_out {n : Nat} {z : Nat → Int} {i : Int} (h : chkI n z = 0) (hi : i < 0 ∨ (n : Int) ≤ i) : reachE n z i = 5 ∧ reachV n z i = 0 := by
  have : ¬ (0 ≤ i ∧ i < (n : Int)) := by omega
  simp [reachE, reachV, h, this]
theorem reach_in {n : Nat} {z : Nat → Int} {k : Nat} (h : chkI n z = 0) (hk : k < n) : reachE n z k = 0 ∧ reachV n z k = clo n z k := by
  simp [reachE, reachV, h, hk]

end Go.Proofs.Ytcfpfddbbhphgaa
