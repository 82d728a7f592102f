/- arena.New. -/
import Derived.Test.YtobpignlamekmaaAShape
import Derived.Test.YtobpignlamekmaaAFree
import Derived.Laws.MakeOwn
namespace Go.Proofs.Ytobpignlamekmaa
open Go.RowKit Go.Sort
set_option maxRecDepth 100000

set_option maxHeartbeats 2000000 in
theorem amay_any (a : Option Addr) (n cap : Nat) (z : Nat → Int) (w : World) (hn : n < 9223372036854775807) (hc : Cells w .i64 a n z) :
    Calls Try.prog 26 #[.slice a n cap] w fun e w' => e = .returned (.bool (mayQ n z)) ∧ w' = w := by
  have HC : Hid (Cells w .i64 a n z) := hc
  clear hc
  go_enter Try.func26, Try.ntmps26
  go_wp2_with fail
  go_loopw [7] (fun i wr => ∃ k : Nat, k ≤ n ∧ i = .int .i64 k ∧ wr = w ∧ Hid (∀ j, j < k → inR 257 (z j) = true)) (fun i _ => n - (intOf i).toNat)
  case atStart => exact ⟨0, by omega, rfl, rfl, fun j hj => absurd hj (by omega)⟩
  case round =>
    obtain ⟨k, hk, rfl, rfl, hall⟩ := hrel
    by_cases hlt : k < n
    · obtain ⟨b, off, rfl, hcell⟩ := HC.out k hlt
      have hb := abelow_any (z k) 257 wr
      cases hh : inR 257 (z k)
      · rw [hh] at hb
        have hR : mayQ n z = false := by
          cases hm : mayQ n z
          · rfl
          · have := (mayQ_iff.1 hm).2.2 k hlt
            have h2 : inR 257 (z k) = true := inR_iff.2 (by omega)
            rw [hh] at h2; cases h2
        go_wp2_with fail
        refine hb.mono ?_
        rintro e w2 ⟨rfl, e2⟩
        subst e2
        go_wp2_with fail
        go_ret
        exact ⟨ret_bool hR.symm, rfl⟩
      · rw [hh] at hb
        have H2 : Hid (∀ j, j < k + 1 → inR 257 (z j) = true) := fun j hj => by
          by_cases e : j = k
          · subst e; exact hh
          · exact hall.out j (by omega)
        go_wp2_with fail
        refine hb.mono ?_
        rintro e w2 ⟨rfl, e2⟩
        subst e2
        go_wp2_with fail
        go_roundw
        case rel => exact ⟨k + 1, by omega, by go_num, trivial, H2.out⟩
        case measure => simp [intOf]; omega
    · obtain rfl : k = n := by omega
      have HR : Hid (mayQ k z = (decide (1 ≤ k) && decide (k ≤ 16))) := by
        have : ((List.range k).all fun j => inR 257 (z j)) = true := by
          simp only [List.all_eq_true, List.mem_range]
          exact hall.out
        show mayQ k z = _
        simp [mayQ, this]
      by_cases h1 : 1 ≤ k
      · go_wp2_with fail
        go_ret
        exact ⟨ret_bool (by rw [HR.out]; by_cases h2 : k ≤ 16 <;> simp [h1, h2] <;> omega), rfl⟩
      · go_wp2_with fail
        go_ret
        exact ⟨ret_bool (by rw [HR.out]; simp [h1]), rfl⟩

set_option maxHeartbeats 1000000 in
theorem anew_bad (a : Option Addr) (n cap : Nat) (z : Nat → Int) (w : World) (hn : n < 9223372036854775807) (hc : Cells w .i64 a n z) (hq : mayQ n z = false) :
    Calls Try.prog 10 #[.slice a n cap] w fun e w' => e = .returned (.tuple #[.pointer none, .int .i64 60]) ∧ w' = w := by
  have hm := amay_any a n cap z w hn hc
  rw [hq] at hm
  clear hc hq
  go_enter Try.func10, Try.ntmps10
  go_wp2_with fail
  refine hm.mono ?_
  rintro e w2 ⟨rfl, e2⟩
  subst e2
  go_wp2_with fail
  go_ret2
  exact ⟨rfl, rfl⟩

theorem Try.infoPartition : (Try.prog.info? 70).map (fun i => (i.zero, i.size, i.bytes)) = some (some (.agg (#[.int .i64 0, .int .i64 0] ++ Array.replicate 256 (.int .u64 0))), 258, 2064) := by kernel_rfl
theorem Try.infoSlot : (Try.prog.info? 72).map (fun i => (i.zero, i.size, i.bytes)) = some (some (.agg #[.int .i64 0, .int .u64 0]), 2, 16) := by kernel_rfl
end Go.Proofs.Ytobpignlamekmaa
