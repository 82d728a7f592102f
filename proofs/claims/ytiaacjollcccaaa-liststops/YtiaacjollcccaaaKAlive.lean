/- The example, which each statement asks besides. -/
import Derived.Test.YtiaacjollcccaaaKTold
import Derived.Test.YtiaacjollcccaaaKTake
namespace Go.Proofs.Ytiaacjollcccaaa
open Go.RowKit

set_option maxHeartbeats 1000000 in
theorem rsame5_true (a b : Option Addr) (n ca cb : Nat) (z y : Nat → Int) (w : World) (hn : n < 9223372036854775807) (ha : Cells w .i64 a n z) (hb : Cells w .i64 b n y) (he : ∀ j, j < n → z j = y j) :
    Calls Try.prog 17 #[.slice a n ca, .slice b n cb] w fun e w' => e = .returned (.bool true) ∧ Below w.heap.size w w' := by
  have HA : Hid (Cells w .i64 a n z) := ha
  have HB : Hid (Cells w .i64 b n y) := hb
  have HE : Hid (∀ j, j < n → z j = y j) := he
  clear ha hb he
  go_enter Try.func17, Try.ntmps17
  go_wp2
  go_loopw [5] (fun i wr => ∃ k : Nat, k ≤ n ∧ i = .int .i64 k ∧ Below w.heap.size w wr) (fun i _ => n - (intOf i).toNat)
  case atStart => exact ⟨0, by omega, rfl, Below.refl _ _⟩
  case round =>
    obtain ⟨k, hk, rfl, hbel⟩ := hrel
    by_cases hlt : k < n
    · obtain ⟨b1, o1, rfl, hc1⟩ := HA.out.below hbel k hlt
      obtain ⟨b2, o2, rfl, hc2⟩ := HB.out.below hbel k hlt
      rw [← HE.out k hlt] at hc2
      go_wp2
      go_quiet (fail)
      go_wp2
      go_roundw
      case rel => exact ⟨k + 1, by omega, by go_num, below_drewN hbel nq⟩
      case measure => simp [intOf]; omega
    · obtain rfl : k = n := by omega
      go_wp2
      go_ret
      exact ⟨rfl, hbel⟩

/-- two rows of one's own that hold the same -/
theorem rsame5_own {w : World} {b1 b2 : Nat} {v1 v2 : Value} {l : List Nat} (h1 : w.ownsRow b1 3 1 v1 l.length (encL l)) (h2 : w.ownsRow b2 3 1 v2 l.length (encL l)) (hl : l.length ≤ 100000) :
    Calls Try.prog 17 #[v1, v2] w fun e w' => e = .returned (.bool true) ∧ Below w.heap.size w w' := by
  obtain ⟨a, ca, rfl, ha, _⟩ := cells_of_own h1 (k := .i64) (z := atL l) (fun j hj => encL_at2 hj)
  obtain ⟨b, cb, rfl, hb, _⟩ := cells_of_own h2 (k := .i64) (z := atL l) (fun j hj => encL_at2 hj)
  exact rsame5_true a b l.length ca cb _ _ w (by omega) ha hb fun _ _ => rfl

def aR1 : Nat → List Nat := pushR 4 1 (fun _ => []) false 0 3
def aR2 : Nat → List Nat := pushR 4 1 aR1 true 0 1
def aR3 : Nat → List Nat := moveR 4 1 aR2 0 3
def aR4 : Nat → List Nat := pushR 4 1 aR3 false 0 2
theorem aE1 : pushE 4 1 (fun _ => []) 0 3 = 0 := by decide
theorem aE2 : pushE 4 1 aR1 0 1 = 0 := by decide
theorem aE3 : mayE 4 1 0 3 = 0 := by decide
theorem aE4 : pushE 4 1 aR3 0 2 = 0 := by decide
theorem aRow : rowR 1 aR4 0 = [1, 3, 2] := by decide
theorem aPopI : popI 1 aR4 0 = 1 := by decide
theorem aPopB : popB 1 aR4 0 = true := by decide
theorem lit3 (w : World) (x y z : Nat) : (w.alloc (.cells #[.int .i64 (x : Int), .int .i64 (y : Int), .int .i64 (z : Int)] 3)).ownsRow w.heap.size 3 1 (.slice (some ⟨w.heap.size, 0, none⟩) 3 3) 3 (encL [x, y, z]) :=
  ⟨by simp [encL], .inr ⟨w.heap.size, 3, _, rfl, Nat.le_refl _, World.alloc_heap_new w _, Nat.le_refl _, by decide, rfl, rfl⟩⟩

set_option maxHeartbeats 2000000 in
theorem alive_k (w : World) : Calls Try.prog 10 #[] w fun e w' => e = .returned (.bool true) ∧ Below w.heap.size w w' := by
  have hnew := new_k 4 1 w (by omega) (by omega)
  go_enter Try.func10, Try.ntmps10
  go_wp2_with fail
  refine hnew.mono ?_
  rintro e w1 ⟨o, rfl, hk1, hb1, ho⟩
  have HO : Hid (∀ b, o.has b → w.heap.size ≤ b) := ho
  have HK1 : Hid (Kv w1 o 4 1 fun _ => []) := hk1
  have hp := push_k o 4 1 _ 0 3 w1 HK1.out
  rw [aE1] at hp
  clear ho hk1 hnew
  go_wp2_with fail
  refine hp.mono ?_
  rintro e w2 ⟨rfl, hk2, hb2⟩
  have HK2 : Hid (Kv w2 o 4 1 aR1) := hk2
  have B2 := hb1.trans (hb2.below hb1.size HO.out)
  have hp2 := pushFront_k o 4 1 aR1 0 1 w2 HK2.out
  rw [aE2] at hp2
  clear hk2 hp hb2
  go_wp2_with fail
  refine hp2.mono ?_
  rintro e w3 ⟨rfl, hk3, hb3⟩
  have HK3 : Hid (Kv w3 o 4 1 aR2) := hk3
  have B3 := B2.trans (hb3.below B2.size HO.out)
  have hp3 := move_k o 4 1 aR2 0 3 w3 HK3.out
  rw [aE3] at hp3
  clear hk3 hp2 hb3
  go_wp2_with fail
  refine hp3.mono ?_
  rintro e w4 ⟨rfl, hk4, hb4⟩
  have HK4 : Hid (Kv w4 o 4 1 aR3) := hk4
  have B4 := B3.trans (hb4.below B3.size HO.out)
  have hp4 := push_k o 4 1 aR3 0 2 w4 HK4.out
  rw [aE4] at hp4
  clear hk4 hp3 hb4
  go_wp2_with fail
  refine hp4.mono ?_
  rintro e w5 ⟨rfl, hk5, hb5⟩
  have HK5 : Hid (Kv w5 o 4 1 aR4) := hk5
  have B5 := B4.trans (hb5.below B4.size HO.out)
  have ht := told_k o 4 1 aR4 0 w5 HK5.out (by omega)
  rw [aRow] at ht
  clear hk5 hp4 hb5
  go_wp2_with fail
  refine ht.mono ?_
  rintro e w6 ⟨v, rfl, hown, hb6⟩
  have HV : Hid (w6.ownsRow w5.heap.size 3 1 v 3 (encL [1, 3, 2])) := hown
  have HK6 : Hid (Kv w6 o 4 1 aR4) := HK5.out.below hb6
  have B6 := Below.onto B5 hb6
  have hpop := pop_k o 4 1 aR4 0 w6 HK6.out
  rw [aPopI, aPopB] at hpop
  have HL : Hid (∀ g, o.has g → g < w5.heap.size) := HK5.out.lt
  clear hown ht
  go_wp2_with fail
  refine hpop.mono ?_
  rintro e w7 ⟨rfl, hk7, hb7⟩
  have HV7 : Hid (w7.ownsRow w5.heap.size 3 1 v 3 (encL [1, 3, 2])) := own_but HV.out hb7 HL.out
  have B7 := B6.trans (hb7.below B6.size HO.out)
  have HV8 : Hid ((w7.alloc (.cells #[.int .i64 ((1 : Nat) : Int), .int .i64 ((3 : Nat) : Int), .int .i64 ((2 : Nat) : Int)] 3)).ownsRow w5.heap.size 3 1 v 3 (encL [1, 3, 2])) := HV7.out.alloc _
  have hs := rsame5_own HV8.out (lit3 w7 1 3 2) (by decide)
  have B8 := B7.alloc B7.size (.cells #[.int .i64 ((1 : Nat) : Int), .int .i64 ((3 : Nat) : Int), .int .i64 ((2 : Nat) : Int)] 3)
  clear hk7 hb7 hpop
  go_wp2_with fail
  refine hs.mono ?_
  rintro e w8 ⟨rfl, hb8⟩
  have B9 := B8.trans (hb8.mono B8.size)
  go_wp2_with fail
  go_ret
  exact ⟨rfl, B9⟩

end Go.Proofs.Ytiaacjollcccaaa
