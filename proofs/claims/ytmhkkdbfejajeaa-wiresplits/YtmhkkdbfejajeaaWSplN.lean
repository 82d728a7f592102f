/- wire.Split at any bytes. -/
import Derived.Test.YtmhkkdbfejajeaaWSpl
namespace Go.Proofs.Ytmhkkdbfejajeaa
open Go.RowKit

set_option maxHeartbeats 4000000 in
theorem split_nil (m : Int) (z : Nat → Int) (w : World) :
    Calls Try.prog 19 #[.slice none 0 0, .int .i64 m] w fun e w' => ∃ v, e = .returned v ∧ PRow w' v (cnt 0 m) 0 z ∧ Below w.heap.size w w' := by
  obtain ⟨i0, hi, hz0, hz1, hz2⟩ := info_parts Try.infoSl
  have hq : cnt 0 m = 0 := by unfold cnt; omega
  obtain ⟨M, hM⟩ : ∃ M : Nat, M = m.toNat := ⟨_, rfl⟩
  have hmx : ∀ W ts t, (Builtin.max_ ts t #[.int .i64 m, .int .i64 0]).run Try.prog W = .ok (.int .i64 (M : Int)) W := fun W ts t => by
    rw [run_max_int2, show (if (0 : Int) > m then (0 : Int) else m) = (M : Int) by split <;> omega]
  have hmi : ∀ W ts t, (Builtin.min_ ts t #[.int .i64 (M : Int), .int .i64 0]).run Try.prog W = .ok (.int .i64 0) W := fun W ts t => by
    rw [run_min_int2, show (if (0 : Int) < (M : Int) then (0 : Int) else (M : Int)) = 0 by split <;> omega]
  rw [hq]
  clear hq hM
  go_enter Try.func19, Try.ntmps19
  go_wp2_with fail
  refine (clone_nil _).mono ?_
  rintro e w1 ⟨v1, rfl, hown1, hb1⟩
  obtain ⟨ra, rc, rfl, _, _⟩ := cells_of_own hown1 (encB_at 0 _)
  clear hown1 hmx hmi
  go_wp2_with (at_make; refine wpList_make_own _ rfl _ _ 49 rfl w1.heap.size 27 i0 (.slice none 0 0) 1 Try.underlying49 hi hz0 hz1 .i64 .i64 _ 0 rfl rfl rfl (by rw [hz2]; omega) (by unfold maxLen; omega) (Nat.le_refl _) ?_; intro w2 hown2 hgrow2)
  have hB2 : Below w1.heap.size w1 w2 := Below.grow (Below.refl _ w1) hgrow2 (fun k e => by cases e)
  go_loopw [6, 7] (fun r v wr => r = .slice ra 0 rc ∧ v = .slice (some ⟨w1.heap.size, 0, none⟩) 0 0 ∧ wr = w2) (fun r _ _ => lenV r)
  case atStart => exact ⟨rfl, rfl, rfl⟩
  case round =>
    obtain ⟨rfl, rfl, rfl⟩ := hrel
    go_wp2_with fail
    go_ret
    exact ⟨_, rfl, ⟨_, _, rfl, fun i hi => absurd hi (by omega)⟩, Below.onto hb1 hB2⟩

set_option maxHeartbeats 4000000 in
theorem split_zero (x : Addr) (cap : Nat) (m : Int) (z : Nat → Int) (w : World) :
    Calls Try.prog 19 #[.slice (some x) 0 cap, .int .i64 m] w fun e w' => ∃ v, e = .returned v ∧ PRow w' v (cnt 0 m) 0 z ∧ Below w.heap.size w w' := by
  obtain ⟨i0, hi, hz0, hz1, hz2⟩ := info_parts Try.infoSl
  have hq : cnt 0 m = 0 := by unfold cnt; omega
  obtain ⟨M, hM⟩ : ∃ M : Nat, M = m.toNat := ⟨_, rfl⟩
  have hmx : ∀ W ts t, (Builtin.max_ ts t #[.int .i64 m, .int .i64 0]).run Try.prog W = .ok (.int .i64 (M : Int)) W := fun W ts t => by
    rw [run_max_int2, show (if (0 : Int) > m then (0 : Int) else m) = (M : Int) by split <;> omega]
  have hmi : ∀ W ts t, (Builtin.min_ ts t #[.int .i64 (M : Int), .int .i64 0]).run Try.prog W = .ok (.int .i64 0) W := fun W ts t => by
    rw [run_min_int2, show (if (0 : Int) < (M : Int) then (0 : Int) else (M : Int)) = 0 by split <;> omega]
  rw [hq]
  clear hq hM
  go_enter Try.func19, Try.ntmps19
  go_wp2_with fail
  refine (clone_zero x cap _).mono ?_
  rintro e w1 ⟨v1, rfl, hown1, hb1⟩
  obtain ⟨ra, rc, rfl, _, _⟩ := cells_of_own hown1 (encB_at 0 _)
  clear hown1 hmx hmi
  go_wp2_with (at_make; refine wpList_make_own _ rfl _ _ 49 rfl w1.heap.size 27 i0 (.slice none 0 0) 1 Try.underlying49 hi hz0 hz1 .i64 .i64 _ 0 rfl rfl rfl (by rw [hz2]; omega) (by unfold maxLen; omega) (Nat.le_refl _) ?_; intro w2 hown2 hgrow2)
  have hB2 : Below w1.heap.size w1 w2 := Below.grow (Below.refl _ w1) hgrow2 (fun k e => by cases e)
  go_loopw [6, 7] (fun r v wr => r = .slice ra 0 rc ∧ v = .slice (some ⟨w1.heap.size, 0, none⟩) 0 0 ∧ wr = w2) (fun r _ _ => lenV r)
  case atStart => exact ⟨rfl, rfl, rfl⟩
  case round =>
    obtain ⟨rfl, rfl, rfl⟩ := hrel
    go_wp2_with fail
    go_ret
    exact ⟨_, rfl, ⟨_, _, rfl, fun i hi => absurd hi (by omega)⟩, Below.onto hb1 hB2⟩

theorem split_any (a : Option Addr) (n cap : Nat) (m : Int) (z : Nat → Int) (w : World) (hn : n ≤ 400) (hcap : n ≤ cap) (ha : a = none → n = 0 ∧ cap = 0) (hc : Cells w .u8 a n z) :
    Calls Try.prog 19 #[.slice a n cap, .int .i64 m] w fun e w' => ∃ v, e = .returned v ∧ PRow w' v (cnt n m) n z ∧ Below w.heap.size w w' := by
  cases a with
  | none =>
    obtain ⟨rfl, rfl⟩ := ha rfl
    exact split_nil m z w
  | some x =>
    by_cases h0 : 0 < n
    · obtain ⟨b, off, e⟩ := cells_some hc h0
      cases e
      exact split_some b off n cap m z w hn hcap hc
    · obtain rfl : n = 0 := by omega
      exact split_zero x cap m z w

end Go.Proofs.Ytmhkkdbfejajeaa
