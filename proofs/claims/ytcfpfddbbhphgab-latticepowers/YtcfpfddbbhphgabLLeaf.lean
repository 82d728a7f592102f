/- The small functions of package lattice. -/
import Derived.Test.YtcfpfddbbhphgabLMath
import Derived.Test.YtcfpfddbbhphgabUn
import Derived.Deep.RegionWith
namespace Go.Proofs.Ytcfpfddbbhphgab
open Go.RowKit Go.Shelf

/-! An operation of a region is fetched before it is taken apart: else the walk takes every kind of call apart. -/
theorem wp_at (P : Program) (l : List Oper) (i : Nat) (h : i < l.toArray.size) (a : Act) (w : World) (K : Act → World → Prop) (Q : Exit → Act → World → Prop) : Oper.wp P (l.toArray[i]'h) a w K Q = Oper.wp P (l[i]'h) a w K Q := rfl
theorem wp_succ (P : Program) (x : Oper) (l : List Oper) (i : Nat) (h : i + 1 < (x :: l).length) (a : Act) (w : World) (K : Act → World → Prop) (Q : Exit → Act → World → Prop) : Oper.wp P ((x :: l)[i + 1]'h) a w K Q = Oper.wp P (l[i]'(Nat.lt_of_succ_lt_succ h)) a w K Q := rfl
theorem wp_zero (P : Program) (x : Oper) (l : List Oper) (h : 0 < (x :: l).length) (a : Act) (w : World) (K : Act → World → Prop) (Q : Exit → Act → World → Prop) : Oper.wp P ((x :: l)[0]'h) a w K Q = Oper.wp P x a w K Q := rfl
theorem wpIn_at (F : Fence) (n : Nat) (P : Program) (l : List Oper) (i : Nat) (h : i < l.toArray.size) (a : Act) (w : World) (K : Act → World → Prop) (Q : Exit → Act → World → Prop) : Oper.wpIn F n P (l.toArray[i]'h) a w K Q = Oper.wpIn F n P (l[i]'h) a w K Q := rfl
theorem wpIn_succ (F : Fence) (n : Nat) (P : Program) (x : Oper) (l : List Oper) (i : Nat) (h : i + 1 < (x :: l).length) (a : Act) (w : World) (K : Act → World → Prop) (Q : Exit → Act → World → Prop) : Oper.wpIn F n P ((x :: l)[i + 1]'h) a w K Q = Oper.wpIn F n P (l[i]'(Nat.lt_of_succ_lt_succ h)) a w K Q := rfl
theorem wpIn_zero (F : Fence) (n : Nat) (P : Program) (x : Oper) (l : List Oper) (h : 0 < (x :: l).length) (a : Act) (w : World) (K : Act → World → Prop) (Q : Exit → Act → World → Prop) : Oper.wpIn F n P ((x :: l)[0]'h) a w K Q = Oper.wpIn F n P x a w K Q := rfl
attribute [local go_sem ↓] wp_at wp_succ wp_zero wpIn_at wpIn_succ wpIn_zero

theorem keeps_below {W W' : World} (h : Below W.heap.size W W') : KeepsOthers W W' :=
  ⟨h.size, fun k _ hk _ => (h.block k (Array.getElem?_eq_some_iff.1 hk).1).trans hk⟩

/-- block B holds a policy: its flows, and these turned around -/
def PBox (W : World) (B : Nat) (u d : Value) : Prop := W.cell? ⟨B, 0, none⟩ = some u ∧ W.cell? ⟨B, 1, none⟩ = some d
theorem PBox.lt {W : World} {B : Nat} {u d : Value} (h : PBox W B u d) : B < W.heap.size := cell_lt h.1
theorem PBox.below {W W' : World} {B : Nat} {u d : Value} (h : PBox W B u d) (hb : Below W.heap.size W W') : PBox W' B u d :=
  ⟨(hb.cell (p := ⟨B, 0, none⟩) h.lt).trans h.1, (hb.cell (p := ⟨B, 1, none⟩) h.lt).trans h.2⟩
theorem pbox_new (w : World) (u d : Value) (t : TypeId) : PBox (w.alloc (.cells #[u, d] t)) w.heap.size u d := by
  have hb : (w.alloc (.cells #[u, d] t)).heap[w.heap.size]? = some (.cells #[u, d] t (0, 0)) := World.alloc_heap_new w _
  exact ⟨by rw [cell_of_row _ _ 0 _ t (0, 0) hb]; rfl, by rw [cell_of_row _ _ 1 _ t (0, 0) hb]; rfl⟩
theorem pbox_frozen (w : World) (u d : Value) (t : TypeId) (w' : World) (hb : Below (w.alloc (.cells #[u, d] t)).heap.size (w.alloc (.cells #[u, d] t)) w') : w'.frozen? ⟨w.heap.size, 0, none⟩ = false ∧ w'.frozen? ⟨w.heap.size, 1, none⟩ = false := by
  have h : (w.alloc (.cells #[u, d] t)).heap[w.heap.size]? = some (.cells #[u, d] t (0, 0)) := World.alloc_heap_new w _
  have h' : w'.heap[w.heap.size]? = some (.cells #[u, d] t (0, 0)) := (hb.block _ (by simp)).trans h
  exact ⟨frozen_of_row _ _ 0 _ _ h', frozen_of_row _ _ 1 _ _ h'⟩
theorem PBox.drew {W : World} {B : Nat} {u d : Value} (h : PBox W B u d) : PBox W.drew B u d := h

set_option maxHeartbeats 400000 in
theorem few2_any (a : Option Addr) (n cap : Nat) (w : World) (hcap : n ≤ cap) (ha : a = none → n = 0) :
    Calls Try.prog 7 #[.slice a n cap] w fun e w' => e = .returned (.slice a (min n 17) cap) ∧ w' = w := by
  by_cases h : 17 < n
  · rw [show min n 17 = 17 by omega]
    cases a with
    | none => exact absurd (ha rfl) (by omega)
    | some ad =>
      clear ha
      go_enter Try.func7, Try.ntmps7
      go_wp2
      go_ret
      exact ⟨rfl, rfl⟩
  · rw [show min n 17 = n by omega]
    clear ha
    go_enter Try.func7, Try.ntmps7
    go_wp2
    go_ret
    exact ⟨rfl, rfl⟩

set_option maxHeartbeats 400000 in
theorem above_at (ua da : Option Addr) (n m uc dc : Nat) (z : Nat → Int) (k : Nat) (w : World) (hk : k < n) (hc : Cells w .u64 ua n z) :
    Calls Try.prog 33 #[.agg #[.slice ua n uc, .slice da m dc], .int .i64 k] w fun e w' => e = .returned (.int .u64 (z k)) ∧ Below w.heap.size w w' := by
  obtain ⟨b, off, rfl, hcell⟩ := hc k hk
  have hcell2 := Lib.cell?_alloc_some (.cells #[.slice (some ⟨b, off, none⟩) n uc, .slice da m dc] 51) hcell
  clear hc hcell
  go_enter Try.func33, Try.ntmps33
  go_wp2
  go_ret
  exact ⟨rfl, (Below.refl _ w).alloc (Nat.le_refl _) _⟩
set_option maxHeartbeats 400000 in
theorem under_at (ua da : Option Addr) (n m uc dc : Nat) (y : Nat → Int) (k : Nat) (w : World) (hk : k < m) (hc : Cells w .u64 da m y) :
    Calls Try.prog 34 #[.agg #[.slice ua n uc, .slice da m dc], .int .i64 k] w fun e w' => e = .returned (.int .u64 (y k)) ∧ Below w.heap.size w w' := by
  obtain ⟨b, off, rfl, hcell⟩ := hc k hk
  have hcell2 := Lib.cell?_alloc_some (.cells #[.slice ua n uc, .slice (some ⟨b, off, none⟩) m dc] 51) hcell
  clear hc hcell
  go_enter Try.func34, Try.ntmps34
  go_wp2
  go_ret
  exact ⟨rfl, (Below.refl _ w).alloc (Nat.le_refl _) _⟩

def isB (n : Nat) (a : Int) : Bool := decide (0 ≤ a) && decide (a < n)
set_option maxHeartbeats 400000 in
theorem is_any (ua da : Option Addr) (n m uc dc : Nat) (a : Int) (w : World) :
    Calls Try.prog 36 #[.agg #[.slice ua n uc, .slice da m dc], .int .i64 a] w fun e w' => e = .returned (.bool (isB n a)) ∧ Below w.heap.size w w' := by
  by_cases h : 0 ≤ a
  · go_enter Try.func36, Try.ntmps36
    go_wp2
    go_ret
    exact ⟨ret_bool (by simp [isB, h]), (Below.refl _ w).alloc (Nat.le_refl _) _⟩
  · have h' : a < 0 := by omega
    clear h
    go_enter Try.func36, Try.ntmps36
    go_wp2
    go_ret
    exact ⟨ret_bool (by simp [isB]; omega), (Below.refl _ w).alloc (Nat.le_refl _) _⟩
set_option maxHeartbeats 1000000 in
theorem lbelow_at (ua da : Option Addr) (n uc dc : Nat) (z y : Nat → Int) (k : Nat) (w : World) (hk : k < n) (hc : Cells w .u64 ua n z) (hd : Cells w .u64 da n y) (hz : Bds n z) (hy : Bds n y) :
    Calls Try.prog 27 #[.agg #[.slice ua n uc, .slice da n dc], .int .i64 k] w fun e w' => e = .returned (.int .u64 (anI (y k) (z k))) ∧ Below w.heap.size w w' := by
  have HC : Hid (Cells w .u64 ua n z) := hc
  have HD : Hid (Cells w .u64 da n y) := hd
  obtain ⟨h0, h1⟩ := hz k hk
  obtain ⟨g0, g1⟩ := hy k hk
  have HE : Hid (bits .andNot .u64 (y k) (z k) = anI (y k) (z k)) := an_eq g0 g1 h0 h1
  clear hc hd hz hy
  have hB : Below w.heap.size w (w.alloc (.cells #[.slice ua n uc, .slice da n dc] 51)).drew := ((Below.refl _ w).alloc (Nat.le_refl _) _).drew
  have hP : PBox (w.alloc (.cells #[.slice ua n uc, .slice da n dc] 51)).drew w.heap.size (.slice ua n uc) (.slice da n dc) := (pbox_new w _ _ _).drew
  go_enter Try.func27, Try.ntmps27
  go_wp2_with fail
  go_region_with (first
    | (go_at_call 34; refine (under_at ua da n n uc dc y k _ hk (HD.out.below hB)).mono ?_; rintro e w1 ⟨rfl, hb1⟩; obtain ⟨hp1, hp2⟩ := hP.below hb1)
    | (go_at_call 33; refine (above_at ua da n n uc dc z k _ hk (HC.out.below (Below.onto hB hb1))).mono ?_; rintro e w2 ⟨rfl, hb2⟩))
  all_goals go_wp2
  all_goals go_ret
  all_goals exact ⟨ret_int HE.out, Below.onto (Below.onto hB hb1) hb2⟩

set_option maxHeartbeats 400000 in
theorem equal_true (a b : Option Addr) (n ca cb : Nat) (z y : Nat → Int) (w : World) (hn : n < 9223372036854775807) (ha : Cells w .u64 a n z) (hb : Cells w .u64 b n y) (he : ∀ j, j < n → z j = y j) :
    Calls Try.prog 29 #[.slice a n ca, .slice b n cb] w fun e w' => e = .returned (.bool true) ∧ Below w.heap.size w w' := by
  have HA : Hid (Cells w .u64 a n z) := ha
  have HB : Hid (Cells w .u64 b n y) := hb
  have HE : Hid (∀ j, j < n → z j = y j) := he
  clear ha hb he
  go_enter Try.func29, Try.ntmps29
  go_wp2
  go_loopw [13] (fun i wr => ∃ k : Nat, k ≤ n ∧ i = .int .i64 k ∧ Below w.heap.size w wr) (fun i _ => n - (intOf i).toNat)
  case atStart => exact ⟨0, by omega, rfl, Below.refl _ _⟩
  case round =>
    obtain ⟨k, hk, rfl, hbel⟩ := hrel
    by_cases hlt : k < n
    · obtain ⟨b1, o1, rfl, hc1⟩ := HA.out.below hbel k hlt
      obtain ⟨b2, o2, rfl, hc2⟩ := HB.out.below hbel k hlt
      rw [← HE.out k hlt] at hc2
      go_wp2
      go_quiet (fail)
      go_wp2
      go_roundw
      case rel => exact ⟨k + 1, by omega, by go_num, below_drewN hbel nq⟩
      case measure => simp [intOf]; omega
    · obtain rfl : k = n := by omega
      go_wp2
      go_ret
      exact ⟨rfl, hbel⟩
set_option maxHeartbeats 400000 in
theorem equal_false (a b : Option Addr) (n ca cb : Nat) (z y : Nat → Int) (w : World) (hn : n < 9223372036854775807) (ha : Cells w .u64 a n z) (hb : Cells w .u64 b n y) (he : ∃ j, j < n ∧ z j ≠ y j) :
    Calls Try.prog 29 #[.slice a n ca, .slice b n cb] w fun e w' => e = .returned (.bool false) ∧ Below w.heap.size w w' := by
  have HA : Hid (Cells w .u64 a n z) := ha
  have HB : Hid (Cells w .u64 b n y) := hb
  have HE : Hid (∃ j, j < n ∧ z j ≠ y j) := he
  clear ha hb he
  go_enter Try.func29, Try.ntmps29
  go_wp2
  go_loopw [13] (fun i wr => ∃ k : Nat, k ≤ n ∧ i = .int .i64 k ∧ Hid (∀ j, j < k → z j = y j) ∧ Below w.heap.size w wr) (fun i _ => n - (intOf i).toNat)
  case atStart => exact ⟨0, by omega, rfl, fun j hj => absurd hj (by omega), Below.refl _ _⟩
  case round =>
    obtain ⟨k, hk, rfl, hall, hbel⟩ := hrel
    by_cases hlt : k < n
    · obtain ⟨b1, o1, rfl, hc1⟩ := HA.out.below hbel k hlt
      obtain ⟨b2, o2, rfl, hc2⟩ := HB.out.below hbel k hlt
      by_cases hkk : z k = y k
      · have HK : Hid (z k = y k) := hkk
        rw [← hkk] at hc2
        clear hkk
        go_wp2
        go_quiet (fail)
        go_wp2
        go_roundw
        case rel =>
          refine ⟨k + 1, by omega, by go_num, fun j hj => ?_, below_drewN hbel nq⟩
          by_cases e : j = k
          · subst e; exact HK.out
          · exact hall.out j (by omega)
        case measure => simp [intOf]; omega
      · have hne : (z k != y k) = true := by simp [hkk]
        clear hkk
        go_wp2
        go_quiet (fail)
        go_wp2
        go_ret
        exact ⟨rfl, below_drewN hbel nq⟩
    · exfalso
      obtain ⟨j, hj, hne⟩ := HE.out
      exact hne (hall.out j (by omega))

/-! ### closed, Check -/
set_option maxHeartbeats 400000 in
theorem closed_un (a : Option Addr) (n cap : Nat) (z : Nat → Int) (w : World) (hn : n < 9223372036854775807) (hc : Cells w .u64 a n z) (hz : Bds n z) :
    Calls Try.prog 28 #[.slice a n cap] w (Gives w (shpE n z) n (clo n z)) := by
  by_cases h1 : 16 < n
  · have e : shpE n z = 3 := by simp [shpE, h1]
    rw [e]
    clear hc hz e
    go_enter Try.func28, Try.ntmps28
    go_wp2
    go_ret2
    exact gives_bad (by decide) rfl (Below.refl _ _)
  · by_cases h2 : n = 0
    · have e : shpE n z = 1 := by simp [shpE, h2]
      rw [e]
      subst h2
      clear hc hz e
      go_enter Try.func28, Try.ntmps28
      go_wp2
      go_ret2
      exact gives_bad (by decide) rfl (Below.refl _ _)
    · have hcl := closure_un a n cap z w hn hc hz
      have e : shpE n z = chkI n z := shpE_of (by omega) (by omega)
      rw [e]
      have hne : ((n : Int) == 0) = false := by simp; omega
      generalize chkI n z = c at *
      clear hc hz e
      go_enter Try.func28, Try.ntmps28
      go_wp2_with fail
      refine hcl.mono ?_
      rintro e w1 ⟨v, cv, rfl, hv, hb⟩
      go_wp2_with fail
      go_ret2
      exact ⟨v, cv, rfl, hv, hb⟩

set_option maxHeartbeats 400000 in
theorem check2_un (a : Option Addr) (n cap : Nat) (z : Nat → Int) (w : World) (hn : n < 9223372036854775807) (hc : Cells w .u64 a n z) (hz : Bds n z) :
    Calls Try.prog 19 #[.slice a n cap] w fun e w' => e = .returned (.int .i64 (polE n z)) ∧ Below w.heap.size w w' := by
  have hcl := closed_un a n cap z w hn hc hz
  have HC : Hid (Cells w .u64 a n z) := hc
  clear hc
  by_cases h1 : shpE n z = 0
  · obtain ⟨h3, h4, h5⟩ := shpE_ok h1
    rw [h1] at hcl
    have hl : lenIf 0 n = n := by simp [lenIf]
    cases hp : polB n z
    · have e : polE n z = 20 := by simp [polE, h1, hp]
      rw [e]
      have HN : Hid (∃ j, j < n ∧ clo n z j ≠ z j) := by
        refine Classical.byContradiction fun hh => ?_
        have : polB n z = true := polB_iff.2 fun j hj => Classical.byContradiction fun h => hh ⟨j, hj, h⟩
        rw [hp] at this; cases this
      clear hz h1 h5 hp e
      go_enter Try.func19, Try.ntmps19
      go_wp2_with fail
      refine hcl.mono ?_
      rintro e w1 ⟨v, cv, rfl, hv, hb⟩
      rw [hl] at hv
      rw [hl]
      have HV : Hid (Cells w1 .u64 v n (clo n z)) := hv
      clear hv hcl
      go_wp2_with fail
      refine (equal_false v a n cv cap _ _ _ hn HV.out (HC.out.below hb) HN.out).mono ?_
      rintro e w2 ⟨rfl, hb2⟩
      go_wp2_with fail
      go_ret
      exact ⟨rfl, Below.onto hb hb2⟩
    · have e : polE n z = 0 := by simp [polE, h1, hp]
      rw [e]
      have HN : Hid (∀ j, j < n → clo n z j = z j) := polB_iff.1 hp
      clear hz h1 h5 hp e
      go_enter Try.func19, Try.ntmps19
      go_wp2_with fail
      refine hcl.mono ?_
      rintro e w1 ⟨v, cv, rfl, hv, hb⟩
      rw [hl] at hv
      rw [hl]
      have HV : Hid (Cells w1 .u64 v n (clo n z)) := hv
      clear hv hcl
      go_wp2_with fail
      refine (equal_true v a n cv cap _ _ _ hn HV.out (HC.out.below hb) HN.out).mono ?_
      rintro e w2 ⟨rfl, hb2⟩
      go_wp2_with fail
      go_ret
      exact ⟨rfl, Below.onto hb hb2⟩
  · have e : polE n z = shpE n z := by simp [polE, h1]
    rw [e]
    have hne : (shpE n z != 0) = true := by simp [h1]
    generalize shpE n z = c at *
    clear h1 hz e
    go_enter Try.func19, Try.ntmps19
    go_wp2_with fail
    refine hcl.mono ?_
    rintro e w1 ⟨v, cv, rfl, hv, hb⟩
    go_wp2_with fail
    go_ret
    exact ⟨rfl, hb⟩

end Go.Proofs.Ytcfpfddbbhphgab
