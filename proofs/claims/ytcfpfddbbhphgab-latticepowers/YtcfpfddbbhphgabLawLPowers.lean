/- PROVED: for all k, a, b and all rows f, g the statement LatticePowers returns true: the subsets are a lattice, whose joins are the union and meets the intersection, and a product of lattices is one (P2.8). No condition. -/
import Derived.Test.YtcfpfddbbhphgabRows
import Derived.Test.YtcfpfddbbhphgabLPowM
import Derived.Test.YtcfpfddbbhphgabLProdU
import Derived.Test.YtcfpfddbbhphgabLRefL
import Derived.Test.YtcfpfddbbhphgabLAwake
import Derived.Test.YtcfpfddbbhphgabRow
import Derived.ProofKit
import Derived.ShutString
import Derived.ChangeOld
namespace Go.Proofs.Ytcfpfddbbhphgab.latticePowers
open Go.ChangeShapes Go.WideShapes Go.ChangeAt Go.RowKit

theorem own : ownKnob Try.prog.godebug = none := by kernel_rfl
theorem laidOut : laidOutB Try.prog = true := by kernel_rfl


theorem lat_whole {n : Nat} {z : Nat → Int} {x y : Nat} (hk : polE n z = 0) (h : LatE n z x y true) : Whole n z := by
  rcases h with ⟨h, _⟩ | ⟨_, ⟨_, _, _, h⟩ | ⟨h, _⟩⟩
  · exact absurd hk h
  · exact h
  · cases h
theorem lat_true {n : Nat} {z : Nat → Int} {x y : Nat} {ok : Bool} (h : LatE n z x y ok) (hk : polE n z = 0) (hw : Whole n z) : true = ok := by
  rcases h with ⟨h, _⟩ | ⟨_, ⟨h, _⟩ | ⟨_, h1, h2, h3, _⟩⟩
  · exact absurd hk h
  · exact h.symm
  · rw [hw x y h1 h2] at h3; cases h3
theorem or_i64 : ∀ a b : Fin 16, bits .or .i64 (a.1 : Int) (b.1 : Int) = ((a.1 ||| b.1 : Nat) : Int) := by decide +kernel
theorem and_i64 : ∀ a b : Fin 16, bits .and .i64 (a.1 : Int) (b.1 : Int) = ((a.1 &&& b.1 : Nat) : Int) := by decide +kernel
theorem or_16 : ∀ a b : Fin 16, a.1 ||| b.1 < 16 := by decide +kernel
theorem and_16 : ∀ a b : Fin 16, a.1 &&& b.1 < 16 := by decide +kernel

set_option maxRecDepth 100000 in
set_option maxHeartbeats 16000000 in
theorem walk_no (k s t : Int) (a b : Option Addr) (la ca lb cb n m : Nat) (z y : Nat → Int) (w : World) (hn17 : n ≤ 17) (hm17 : m ≤ 17)
    (hfa : ∀ w, Calls Try.prog 7 #[.slice a la ca] w fun e w' => e = .returned (.slice a n ca) ∧ w' = w)
    (hfb : ∀ w, Calls Try.prog 7 #[.slice b lb cb] w fun e w' => e = .returned (.slice b m cb) ∧ w' = w)
    (ha : Cells w .u64 a n z) (hb : Cells w .u64 b m y) (hz : Bds n z) (hy : Bds m y) (hk : k < 0 ∨ 4 < k) :
    Calls Try.prog 4 #[.int .i64 k, .int .i64 s, .int .i64 t, .slice a la ca, .slice b lb cb] w fun e w' => e = .returned (.bool true) ∧ Below w.heap.size w w' := by
  have hlf := fun w' h => lattice_un a n ca z w' (by omega) h hz
  have hlg := fun w' h => lattice_un b m cb y w' (by omega) h hy
  have hpr := fun w' h h' => product_un a b n m ca cb z y w' (by omega) (by omega) h h' hz hy
  have HA : Hid (Cells w .u64 a n z) := ha
  have HB : Hid (Cells w .u64 b m y) := hb
  have HZ : Hid (Bds n z) := hz
  have HY : Hid (Bds m y) := hy
  clear ha hb hz hy
  have hpw := fun w' => power_bad k hk w'
  clear hk
  go_enter Try.func4, Try.ntmps4
  go_wp2_with fail
  refine (awake_any _).mono ?_
  rintro e w0 ⟨rfl, b0⟩
  go_wp2_with fail
  refine (hfa _).mono ?_
  rintro e w1 ⟨rfl, e1⟩
  subst e1
  go_wp2_with fail
  refine (hfb _).mono ?_
  rintro e w1 ⟨rfl, e1⟩
  subst e1
  go_wp2_with fail
  refine (hpw _).mono ?_
  rintro e w2 ⟨rfl, e2⟩
  subst e2
  have hbW := b0
  clear hpw hfa hfb b0
  go_wp2_with fail
  refine (hlf _ (HA.out.below hbW)).mono ?_
  rintro e w5 ⟨x1, y1, ok1, rfl, hl1, b5⟩
  have hb5' := Below.onto hbW b5
  have hb5 := hb5'.alloc hb5'.size (.cells #[.int .i64 x1, .int .i64 y1] 26)
  have HL1 : Hid (LatE n z x1 y1 ok1) := hl1
  clear hl1 b5 hb5' hbW
  go_wp2_with fail
  refine (hlg _ (HB.out.below hb5)).mono ?_
  rintro e w6 ⟨x2, y2, ok2, rfl, hl2, b6⟩
  have hb6' := Below.onto hb5 b6
  have hb6 := hb6'.alloc hb6'.size (.cells #[.int .i64 x2, .int .i64 y2] 26)
  have HL2 : Hid (LatE m y x2 y2 ok2) := hl2
  clear hl2 b6 hb6' hb5
  go_wp2_with fail
  refine (hpr _ (HA.out.below hb6) (HB.out.below hb6)).mono ?_
  rintro e w7 ⟨v, cv, rfl, hv, b7⟩
  have HV : Hid (Cells w7 .u64 v (lenIf (prdE n m z y) (n * m)) (prod n m z y)) := hv
  have hb7 := Below.onto hb6 b7
  clear hv b7 hb6
  by_cases hk1 : polE n z = 0
  · by_cases hk2 : polE m y = 0
    · rw [hk1, hk2]
      cases ok1
      · go_wp2_with fail
        go_ret
        exact ⟨rfl, hb7⟩
      cases ok2
      · go_wp2_with fail
        go_ret
        exact ⟨rfl, hb7⟩
      by_cases hk3 : prdE n m z y = 0
      · obtain ⟨_, _, hnm⟩ := prdE_ok hk3
        have hPz := pol_of HZ.out hk1
        have hPy := pol_of HY.out hk2
        have hWq := prod_whole hPz hPy hnm (lat_whole hk1 HL1.out) (lat_whole hk2 HL2.out)
        have hPq := prod_pol hPz hPy hnm
        have hl0 : lenIf 0 (n * m) = n * m := by simp [lenIf]
        rw [hk3, hl0]
        rw [hk3, hl0] at HV
        have hlq := fun w' h => lattice_un v (n * m) cv (prod n m z y) w' (by omega) h hPq.bds
        have hpe := hPq.ok
        have HWq : Hid (Whole (n * m) (prod n m z y)) := hWq
        have HPe : Hid (polE (n * m) (prod n m z y) = 0) := hpe
        have hmul : (n : Int) * (m : Int) = ((n * m : Nat) : Int) := by simp
        clear hWq hPq hPz hPy hl0 hpe hk3 hlf hlg hpr
        generalize prod n m z y = G at *
        generalize n * m = q at *
        go_wp2_with fail
        refine (hlq _ HV.out).mono ?_
        rintro e w8 ⟨x3, y3, ok3, rfl, hl3, b8⟩
        obtain rfl := lat_true hl3 HPe.out HWq.out
        rw [HPe.out]
        have hb8' := Below.onto hb7 b8
        have hb8 := hb8'.alloc hb8'.size (.cells #[.int .i64 x3, .int .i64 y3] 26)
        clear hl3 b8 hb8' hb7 hlq
        go_wp2_with fail
        go_ret
        exact ⟨rfl, hb8⟩
      · have hne : (prdE n m z y != 0) = true := by simp [hk3]
        clear hlf hlg hpr
        generalize prdE n m z y = c at *
        go_wp2_with fail
        go_ret
        exact ⟨rfl, hb7⟩
    · have hne : (polE m y != 0) = true := by simp [hk2]
      rw [hk1]
      clear hlf hlg hpr
      generalize polE m y = c at *
      go_wp2_with fail
      go_ret
      exact ⟨rfl, hb7⟩
  · have hne : (polE n z != 0) = true := by simp [hk1]
    clear hlf hlg hpr
    generalize polE n z = c at *
    go_wp2_with fail
    go_ret
    exact ⟨rfl, hb7⟩

set_option maxRecDepth 100000 in
set_option maxHeartbeats 16000000 in
theorem walk_in (k s t : Nat) (a b : Option Addr) (la ca lb cb n m : Nat) (z y : Nat → Int) (w : World) (hn17 : n ≤ 17) (hm17 : m ≤ 17)
    (hfa : ∀ w, Calls Try.prog 7 #[.slice a la ca] w fun e w' => e = .returned (.slice a n ca) ∧ w' = w)
    (hfb : ∀ w, Calls Try.prog 7 #[.slice b lb cb] w fun e w' => e = .returned (.slice b m cb) ∧ w' = w)
    (ha : Cells w .u64 a n z) (hb : Cells w .u64 b m y) (hz : Bds n z) (hy : Bds m y) (hk : k ≤ 4) (hs : s < 2 ^ k) (ht : t < 2 ^ k) :
    Calls Try.prog 4 #[.int .i64 k, .int .i64 s, .int .i64 t, .slice a la ca, .slice b lb cb] w fun e w' => e = .returned (.bool true) ∧ Below w.heap.size w w' := by
  have hlf := fun w' h => lattice_un a n ca z w' (by omega) h hz
  have hlg := fun w' h => lattice_un b m cb y w' (by omega) h hy
  have hpr := fun w' h h' => product_un a b n m ca cb z y w' (by omega) (by omega) h h' hz hy
  have HA : Hid (Cells w .u64 a n z) := ha
  have HB : Hid (Cells w .u64 b m y) := hb
  have HZ : Hid (Bds n z) := hz
  have HY : Hid (Bds m y) := hy
  clear ha hb hz hy
  have hpw := fun w' => power_ok k hk w'
  have hP := pw_pol hk
  have hN16 := hP.le
  have i1 : isB (2 ^ k) (s : Int) = true := by rw [isB_nat]; simp [hs]
  have i2 : isB (2 ^ k) (t : Int) = true := by rw [isB_nat]; simp [ht]
  have hak : askE (2 ^ k) (pw (2 ^ k)) s t = 0 := by simp [askE, hP.ok, i1, i2]
  have ej : jnV (2 ^ k) (pw (2 ^ k)) s t = ((2 ^ (s ||| t) : Nat) : Int) := by
    simp only [jnV, hak, if_true, Int.toNat_natCast]; exact pw_jn hk hs ht
  have em : mtV (2 ^ k) (pw (2 ^ k)) s t = ((2 ^ (s &&& t) : Nat) : Int) := by
    simp only [mtV, hak, if_true, Int.toNat_natCast]; exact pw_mt hk hs ht
  have hjo := fun p cp w' h => joins_un p (2 ^ k) cp (pw (2 ^ k)) s t w' (by omega) h hP.bds
  rw [hak, ej] at hjo
  have hme := fun p cp w' h => meets_un p (2 ^ k) cp (pw (2 ^ k)) s t w' (by omega) h hP.bds
  rw [hak, em] at hme
  have hla := fun p cp w' h => lattice_un p (2 ^ k) cp (pw (2 ^ k)) w' (by omega) h hP.bds
  have HWp : Hid (Whole (2 ^ k) (pw (2 ^ k))) := pw_whole hk
  have HPe : Hid (polE (2 ^ k) (pw (2 ^ k)) = 0) := hP.ok
  have hor := or_i64 ⟨s, by omega⟩ ⟨t, by omega⟩
  have hand := and_i64 ⟨s, by omega⟩ ⟨t, by omega⟩
  have ho16 := or_16 ⟨s, by omega⟩ ⟨t, by omega⟩
  have ha16 := and_16 ⟨s, by omega⟩ ⟨t, by omega⟩
  dsimp only at hor hand ho16 ha16
  have hw1 := wrap_pw (show s ||| t < 64 by omega)
  have hw2 := wrap_pw (show s &&& t < 64 by omega)
  generalize ((2 ^ (s ||| t) : Nat) : Int) = J at *
  generalize ((2 ^ (s &&& t) : Nat) : Int) = M at *
  generalize s ||| t = so at *
  generalize s &&& t = sa at *
  have hl0 : lenIf 0 (2 ^ k) = 2 ^ k := by simp [lenIf]
  have HGv : Hid (∀ w e w', Gives w 0 (2 ^ k) (pw (2 ^ k)) e w' → ∃ p cp, e = .returned (.tuple #[.slice p (2 ^ k) cp, .int .i64 0]) ∧ Cells w' .u64 p (2 ^ k) (pw (2 ^ k)) ∧ Below w.heap.size w w') := fun w e w' h => by
    obtain ⟨p, cp, he, hc, hb⟩ := h
    rw [hl0] at he hc
    exact ⟨p, cp, he, hc, hb⟩
  clear hP i1 i2 hak ej em hl0
  generalize pw (2 ^ k) = P at *
  generalize 2 ^ k = N at *
  go_enter Try.func4, Try.ntmps4
  go_wp2_with fail
  refine (awake_any _).mono ?_
  rintro e w0 ⟨rfl, b0⟩
  go_wp2_with fail
  refine (hfa _).mono ?_
  rintro e w1 ⟨rfl, e1⟩
  subst e1
  go_wp2_with fail
  refine (hfb _).mono ?_
  rintro e w1 ⟨rfl, e1⟩
  subst e1
  go_wp2_with fail
  refine (hpw _).mono ?_
  rintro e w2 h2
  obtain ⟨p, cp, rfl, hpc, b2⟩ := HGv.out _ _ _ h2
  have hb2 := Below.onto b0 b2
  have HPc : Hid (Cells w2 .u64 p N P) := hpc
  clear h2 HGv hpw hfa hfb b0 b2 hpc
  go_wp2_with fail
  refine (hjo _ _ _ HPc.out).mono ?_
  rintro e w3 ⟨rfl, b3⟩
  have hb3 := Below.onto hb2 b3
  have HPc3 : Hid (Cells w3 .u64 p N P) := HPc.out.below b3
  clear hjo b3 hb2 HPc
  go_wp2_with fail
  refine (hme _ _ _ HPc3.out).mono ?_
  rintro e w4 ⟨rfl, b4⟩
  have hb4 := Below.onto hb3 b4
  have HPc4 : Hid (Cells w4 .u64 p N P) := HPc3.out.below b4
  clear hme b4 hb3 HPc3
  go_wp2_with fail
  refine (hla _ _ _ HPc4.out).mono ?_
  rintro e w9 ⟨x9, y9, ok9, rfl, hl9, b9⟩
  obtain rfl := lat_true hl9 HPe.out HWp.out
  rw [HPe.out]
  have hb9' := Below.onto hb4 b9
  have hbW := hb9'.alloc hb9'.size (.cells #[.int .i64 x9, .int .i64 y9] 26)
  clear hla b9 hb9' hb4 HPc4 hl9 HPe HWp
  go_wp2_with fail
  refine (hlf _ (HA.out.below hbW)).mono ?_
  rintro e w5 ⟨x1, y1, ok1, rfl, hl1, b5⟩
  have hb5' := Below.onto hbW b5
  have hb5 := hb5'.alloc hb5'.size (.cells #[.int .i64 x1, .int .i64 y1] 26)
  have HL1 : Hid (LatE n z x1 y1 ok1) := hl1
  clear hl1 b5 hb5' hbW
  go_wp2_with fail
  refine (hlg _ (HB.out.below hb5)).mono ?_
  rintro e w6 ⟨x2, y2, ok2, rfl, hl2, b6⟩
  have hb6' := Below.onto hb5 b6
  have hb6 := hb6'.alloc hb6'.size (.cells #[.int .i64 x2, .int .i64 y2] 26)
  have HL2 : Hid (LatE m y x2 y2 ok2) := hl2
  clear hl2 b6 hb6' hb5
  go_wp2_with fail
  refine (hpr _ (HA.out.below hb6) (HB.out.below hb6)).mono ?_
  rintro e w7 ⟨v, cv, rfl, hv, b7⟩
  have HV : Hid (Cells w7 .u64 v (lenIf (prdE n m z y) (n * m)) (prod n m z y)) := hv
  have hb7 := Below.onto hb6 b7
  clear hv b7 hb6
  by_cases hk1 : polE n z = 0
  · by_cases hk2 : polE m y = 0
    · rw [hk1, hk2]
      cases ok1
      · go_wp2_with fail
        go_ret
        exact ⟨rfl, hb7⟩
      cases ok2
      · go_wp2_with fail
        go_ret
        exact ⟨rfl, hb7⟩
      by_cases hk3 : prdE n m z y = 0
      · obtain ⟨_, _, hnm⟩ := prdE_ok hk3
        have hPz := pol_of HZ.out hk1
        have hPy := pol_of HY.out hk2
        have hWq := prod_whole hPz hPy hnm (lat_whole hk1 HL1.out) (lat_whole hk2 HL2.out)
        have hPq := prod_pol hPz hPy hnm
        have hl0 : lenIf 0 (n * m) = n * m := by simp [lenIf]
        rw [hk3, hl0]
        rw [hk3, hl0] at HV
        have hlq := fun w' h => lattice_un v (n * m) cv (prod n m z y) w' (by omega) h hPq.bds
        have hpe := hPq.ok
        have HWq : Hid (Whole (n * m) (prod n m z y)) := hWq
        have HPe : Hid (polE (n * m) (prod n m z y) = 0) := hpe
        have hmul : (n : Int) * (m : Int) = ((n * m : Nat) : Int) := by simp
        clear hWq hPq hPz hPy hl0 hpe hk3 hlf hlg hpr
        generalize prod n m z y = G at *
        generalize n * m = q at *
        go_wp2_with fail
        refine (hlq _ HV.out).mono ?_
        rintro e w8 ⟨x3, y3, ok3, rfl, hl3, b8⟩
        obtain rfl := lat_true hl3 HPe.out HWq.out
        rw [HPe.out]
        have hb8' := Below.onto hb7 b8
        have hb8 := hb8'.alloc hb8'.size (.cells #[.int .i64 x3, .int .i64 y3] 26)
        clear hl3 b8 hb8' hb7 hlq
        go_wp2_with fail
        go_ret
        exact ⟨rfl, hb8⟩
      · have hne : (prdE n m z y != 0) = true := by simp [hk3]
        clear hlf hlg hpr
        generalize prdE n m z y = c at *
        go_wp2_with fail
        go_ret
        exact ⟨rfl, hb7⟩
    · have hne : (polE m y != 0) = true := by simp [hk2]
      rw [hk1]
      clear hlf hlg hpr
      generalize polE m y = c at *
      go_wp2_with fail
      go_ret
      exact ⟨rfl, hb7⟩
  · have hne : (polE n z != 0) = true := by simp [hk1]
    clear hlf hlg hpr
    generalize polE n z = c at *
    go_wp2_with fail
    go_ret
    exact ⟨rfl, hb7⟩

set_option maxRecDepth 100000 in
set_option maxHeartbeats 16000000 in
theorem walk_out (k : Nat) (s t : Int) (a b : Option Addr) (la ca lb cb n m : Nat) (z y : Nat → Int) (w : World) (hn17 : n ≤ 17) (hm17 : m ≤ 17)
    (hfa : ∀ w, Calls Try.prog 7 #[.slice a la ca] w fun e w' => e = .returned (.slice a n ca) ∧ w' = w)
    (hfb : ∀ w, Calls Try.prog 7 #[.slice b lb cb] w fun e w' => e = .returned (.slice b m cb) ∧ w' = w)
    (ha : Cells w .u64 a n z) (hb : Cells w .u64 b m y) (hz : Bds n z) (hy : Bds m y) (hk : k ≤ 4) (hst : s < 0 ∨ (0 ≤ s ∧ t < 0) ∨ (0 ≤ s ∧ 0 ≤ t ∧ ((2 ^ k : Nat) : Int) ≤ s) ∨ (0 ≤ s ∧ 0 ≤ t ∧ s < ((2 ^ k : Nat) : Int) ∧ ((2 ^ k : Nat) : Int) ≤ t)) :
    Calls Try.prog 4 #[.int .i64 k, .int .i64 s, .int .i64 t, .slice a la ca, .slice b lb cb] w fun e w' => e = .returned (.bool true) ∧ Below w.heap.size w w' := by
  have hlf := fun w' h => lattice_un a n ca z w' (by omega) h hz
  have hlg := fun w' h => lattice_un b m cb y w' (by omega) h hy
  have hpr := fun w' h h' => product_un a b n m ca cb z y w' (by omega) (by omega) h h' hz hy
  have HA : Hid (Cells w .u64 a n z) := ha
  have HB : Hid (Cells w .u64 b m y) := hb
  have HZ : Hid (Bds n z) := hz
  have HY : Hid (Bds m y) := hy
  clear ha hb hz hy
  have hpw := fun w' => power_ok k hk w'
  have hN16 := (pw_pol hk).le
  have hl0 : lenIf 0 (2 ^ k) = 2 ^ k := by simp [lenIf]
  have HGv : Hid (∀ w e w', Gives w 0 (2 ^ k) (pw (2 ^ k)) e w' → ∃ p cp, e = .returned (.tuple #[.slice p (2 ^ k) cp, .int .i64 0]) ∧ Below w.heap.size w w') := fun w e w' h => by
    obtain ⟨p, cp, he, hc, hb⟩ := h
    rw [hl0] at he
    exact ⟨p, cp, he, hb⟩
  clear hl0
  generalize pw (2 ^ k) = P at *
  generalize 2 ^ k = N at *
  have HST : Hid (s < 0 ∨ (0 ≤ s ∧ t < 0) ∨ (0 ≤ s ∧ 0 ≤ t ∧ (N : Int) ≤ s) ∨ (0 ≤ s ∧ 0 ≤ t ∧ s < (N : Int) ∧ (N : Int) ≤ t)) := hst
  clear hst
  go_enter Try.func4, Try.ntmps4
  go_wp2_with fail
  refine (awake_any _).mono ?_
  rintro e w0 ⟨rfl, b0⟩
  go_wp2_with fail
  refine (hfa _).mono ?_
  rintro e w1 ⟨rfl, e1⟩
  subst e1
  go_wp2_with fail
  refine (hfb _).mono ?_
  rintro e w1 ⟨rfl, e1⟩
  subst e1
  go_wp2_with fail
  refine (hpw _).mono ?_
  rintro e w2 h2
  obtain ⟨p, cp, rfl, b2⟩ := HGv.out _ _ _ h2
  have hbW := Below.onto b0 b2
  clear h2 HGv hpw hfa hfb b0 b2
  rcases HST.out with h | ⟨h1, h⟩ | ⟨h1, h2, h⟩ | ⟨h1, h2, h3, h⟩
  · go_wp2_with fail
    refine (hlf _ (HA.out.below hbW)).mono ?_
    rintro e w5 ⟨x1, y1, ok1, rfl, hl1, b5⟩
    have hb5' := Below.onto hbW b5
    have hb5 := hb5'.alloc hb5'.size (.cells #[.int .i64 x1, .int .i64 y1] 26)
    have HL1 : Hid (LatE n z x1 y1 ok1) := hl1
    clear hl1 b5 hb5' hbW
    go_wp2_with fail
    refine (hlg _ (HB.out.below hb5)).mono ?_
    rintro e w6 ⟨x2, y2, ok2, rfl, hl2, b6⟩
    have hb6' := Below.onto hb5 b6
    have hb6 := hb6'.alloc hb6'.size (.cells #[.int .i64 x2, .int .i64 y2] 26)
    have HL2 : Hid (LatE m y x2 y2 ok2) := hl2
    clear hl2 b6 hb6' hb5
    go_wp2_with fail
    refine (hpr _ (HA.out.below hb6) (HB.out.below hb6)).mono ?_
    rintro e w7 ⟨v, cv, rfl, hv, b7⟩
    have HV : Hid (Cells w7 .u64 v (lenIf (prdE n m z y) (n * m)) (prod n m z y)) := hv
    have hb7 := Below.onto hb6 b7
    clear hv b7 hb6
    by_cases hk1 : polE n z = 0
    · by_cases hk2 : polE m y = 0
      · rw [hk1, hk2]
        cases ok1
        · go_wp2_with fail
          go_ret
          exact ⟨rfl, hb7⟩
        cases ok2
        · go_wp2_with fail
          go_ret
          exact ⟨rfl, hb7⟩
        by_cases hk3 : prdE n m z y = 0
        · obtain ⟨_, _, hnm⟩ := prdE_ok hk3
          have hPz := pol_of HZ.out hk1
          have hPy := pol_of HY.out hk2
          have hWq := prod_whole hPz hPy hnm (lat_whole hk1 HL1.out) (lat_whole hk2 HL2.out)
          have hPq := prod_pol hPz hPy hnm
          have hl0 : lenIf 0 (n * m) = n * m := by simp [lenIf]
          rw [hk3, hl0]
          rw [hk3, hl0] at HV
          have hlq := fun w' h => lattice_un v (n * m) cv (prod n m z y) w' (by omega) h hPq.bds
          have hpe := hPq.ok
          have HWq : Hid (Whole (n * m) (prod n m z y)) := hWq
          have HPe : Hid (polE (n * m) (prod n m z y) = 0) := hpe
          have hmul : (n : Int) * (m : Int) = ((n * m : Nat) : Int) := by simp
          clear hWq hPq hPz hPy hl0 hpe hk3 hlf hlg hpr
          generalize prod n m z y = G at *
          generalize n * m = q at *
          go_wp2_with fail
          refine (hlq _ HV.out).mono ?_
          rintro e w8 ⟨x3, y3, ok3, rfl, hl3, b8⟩
          obtain rfl := lat_true hl3 HPe.out HWq.out
          rw [HPe.out]
          have hb8' := Below.onto hb7 b8
          have hb8 := hb8'.alloc hb8'.size (.cells #[.int .i64 x3, .int .i64 y3] 26)
          clear hl3 b8 hb8' hb7 hlq
          go_wp2_with fail
          go_ret
          exact ⟨rfl, hb8⟩
        · have hne : (prdE n m z y != 0) = true := by simp [hk3]
          clear hlf hlg hpr
          generalize prdE n m z y = c at *
          go_wp2_with fail
          go_ret
          exact ⟨rfl, hb7⟩
      · have hne : (polE m y != 0) = true := by simp [hk2]
        rw [hk1]
        clear hlf hlg hpr
        generalize polE m y = c at *
        go_wp2_with fail
        go_ret
        exact ⟨rfl, hb7⟩
    · have hne : (polE n z != 0) = true := by simp [hk1]
      clear hlf hlg hpr
      generalize polE n z = c at *
      go_wp2_with fail
      go_ret
      exact ⟨rfl, hb7⟩
  · go_wp2_with fail
    refine (hlf _ (HA.out.below hbW)).mono ?_
    rintro e w5 ⟨x1, y1, ok1, rfl, hl1, b5⟩
    have hb5' := Below.onto hbW b5
    have hb5 := hb5'.alloc hb5'.size (.cells #[.int .i64 x1, .int .i64 y1] 26)
    have HL1 : Hid (LatE n z x1 y1 ok1) := hl1
    clear hl1 b5 hb5' hbW
    go_wp2_with fail
    refine (hlg _ (HB.out.below hb5)).mono ?_
    rintro e w6 ⟨x2, y2, ok2, rfl, hl2, b6⟩
    have hb6' := Below.onto hb5 b6
    have hb6 := hb6'.alloc hb6'.size (.cells #[.int .i64 x2, .int .i64 y2] 26)
    have HL2 : Hid (LatE m y x2 y2 ok2) := hl2
    clear hl2 b6 hb6' hb5
    go_wp2_with fail
    refine (hpr _ (HA.out.below hb6) (HB.out.below hb6)).mono ?_
    rintro e w7 ⟨v, cv, rfl, hv, b7⟩
    have HV : Hid (Cells w7 .u64 v (lenIf (prdE n m z y) (n * m)) (prod n m z y)) := hv
    have hb7 := Below.onto hb6 b7
    clear hv b7 hb6
    by_cases hk1 : polE n z = 0
    · by_cases hk2 : polE m y = 0
      · rw [hk1, hk2]
        cases ok1
        · go_wp2_with fail
          go_ret
          exact ⟨rfl, hb7⟩
        cases ok2
        · go_wp2_with fail
          go_ret
          exact ⟨rfl, hb7⟩
        by_cases hk3 : prdE n m z y = 0
        · obtain ⟨_, _, hnm⟩ := prdE_ok hk3
          have hPz := pol_of HZ.out hk1
          have hPy := pol_of HY.out hk2
          have hWq := prod_whole hPz hPy hnm (lat_whole hk1 HL1.out) (lat_whole hk2 HL2.out)
          have hPq := prod_pol hPz hPy hnm
          have hl0 : lenIf 0 (n * m) = n * m := by simp [lenIf]
          rw [hk3, hl0]
          rw [hk3, hl0] at HV
          have hlq := fun w' h => lattice_un v (n * m) cv (prod n m z y) w' (by omega) h hPq.bds
          have hpe := hPq.ok
          have HWq : Hid (Whole (n * m) (prod n m z y)) := hWq
          have HPe : Hid (polE (n * m) (prod n m z y) = 0) := hpe
          have hmul : (n : Int) * (m : Int) = ((n * m : Nat) : Int) := by simp
          clear hWq hPq hPz hPy hl0 hpe hk3 hlf hlg hpr
          generalize prod n m z y = G at *
          generalize n * m = q at *
          go_wp2_with fail
          refine (hlq _ HV.out).mono ?_
          rintro e w8 ⟨x3, y3, ok3, rfl, hl3, b8⟩
          obtain rfl := lat_true hl3 HPe.out HWq.out
          rw [HPe.out]
          have hb8' := Below.onto hb7 b8
          have hb8 := hb8'.alloc hb8'.size (.cells #[.int .i64 x3, .int .i64 y3] 26)
          clear hl3 b8 hb8' hb7 hlq
          go_wp2_with fail
          go_ret
          exact ⟨rfl, hb8⟩
        · have hne : (prdE n m z y != 0) = true := by simp [hk3]
          clear hlf hlg hpr
          generalize prdE n m z y = c at *
          go_wp2_with fail
          go_ret
          exact ⟨rfl, hb7⟩
      · have hne : (polE m y != 0) = true := by simp [hk2]
        rw [hk1]
        clear hlf hlg hpr
        generalize polE m y = c at *
        go_wp2_with fail
        go_ret
        exact ⟨rfl, hb7⟩
    · have hne : (polE n z != 0) = true := by simp [hk1]
      clear hlf hlg hpr
      generalize polE n z = c at *
      go_wp2_with fail
      go_ret
      exact ⟨rfl, hb7⟩
  · go_wp2_with fail
    refine (hlf _ (HA.out.below hbW)).mono ?_
    rintro e w5 ⟨x1, y1, ok1, rfl, hl1, b5⟩
    have hb5' := Below.onto hbW b5
    have hb5 := hb5'.alloc hb5'.size (.cells #[.int .i64 x1, .int .i64 y1] 26)
    have HL1 : Hid (LatE n z x1 y1 ok1) := hl1
    clear hl1 b5 hb5' hbW
    go_wp2_with fail
    refine (hlg _ (HB.out.below hb5)).mono ?_
    rintro e w6 ⟨x2, y2, ok2, rfl, hl2, b6⟩
    have hb6' := Below.onto hb5 b6
    have hb6 := hb6'.alloc hb6'.size (.cells #[.int .i64 x2, .int .i64 y2] 26)
    have HL2 : Hid (LatE m y x2 y2 ok2) := hl2
    clear hl2 b6 hb6' hb5
    go_wp2_with fail
    refine (hpr _ (HA.out.below hb6) (HB.out.below hb6)).mono ?_
    rintro e w7 ⟨v, cv, rfl, hv, b7⟩
    have HV : Hid (Cells w7 .u64 v (lenIf (prdE n m z y) (n * m)) (prod n m z y)) := hv
    have hb7 := Below.onto hb6 b7
    clear hv b7 hb6
    by_cases hk1 : polE n z = 0
    · by_cases hk2 : polE m y = 0
      · rw [hk1, hk2]
        cases ok1
        · go_wp2_with fail
          go_ret
          exact ⟨rfl, hb7⟩
        cases ok2
        · go_wp2_with fail
          go_ret
          exact ⟨rfl, hb7⟩
        by_cases hk3 : prdE n m z y = 0
        · obtain ⟨_, _, hnm⟩ := prdE_ok hk3
          have hPz := pol_of HZ.out hk1
          have hPy := pol_of HY.out hk2
          have hWq := prod_whole hPz hPy hnm (lat_whole hk1 HL1.out) (lat_whole hk2 HL2.out)
          have hPq := prod_pol hPz hPy hnm
          have hl0 : lenIf 0 (n * m) = n * m := by simp [lenIf]
          rw [hk3, hl0]
          rw [hk3, hl0] at HV
          have hlq := fun w' h => lattice_un v (n * m) cv (prod n m z y) w' (by omega) h hPq.bds
          have hpe := hPq.ok
          have HWq : Hid (Whole (n * m) (prod n m z y)) := hWq
          have HPe : Hid (polE (n * m) (prod n m z y) = 0) := hpe
          have hmul : (n : Int) * (m : Int) = ((n * m : Nat) : Int) := by simp
          clear hWq hPq hPz hPy hl0 hpe hk3 hlf hlg hpr
          generalize prod n m z y = G at *
          generalize n * m = q at *
          go_wp2_with fail
          refine (hlq _ HV.out).mono ?_
          rintro e w8 ⟨x3, y3, ok3, rfl, hl3, b8⟩
          obtain rfl := lat_true hl3 HPe.out HWq.out
          rw [HPe.out]
          have hb8' := Below.onto hb7 b8
          have hb8 := hb8'.alloc hb8'.size (.cells #[.int .i64 x3, .int .i64 y3] 26)
          clear hl3 b8 hb8' hb7 hlq
          go_wp2_with fail
          go_ret
          exact ⟨rfl, hb8⟩
        · have hne : (prdE n m z y != 0) = true := by simp [hk3]
          clear hlf hlg hpr
          generalize prdE n m z y = c at *
          go_wp2_with fail
          go_ret
          exact ⟨rfl, hb7⟩
      · have hne : (polE m y != 0) = true := by simp [hk2]
        rw [hk1]
        clear hlf hlg hpr
        generalize polE m y = c at *
        go_wp2_with fail
        go_ret
        exact ⟨rfl, hb7⟩
    · have hne : (polE n z != 0) = true := by simp [hk1]
      clear hlf hlg hpr
      generalize polE n z = c at *
      go_wp2_with fail
      go_ret
      exact ⟨rfl, hb7⟩
  · go_wp2_with fail
    refine (hlf _ (HA.out.below hbW)).mono ?_
    rintro e w5 ⟨x1, y1, ok1, rfl, hl1, b5⟩
    have hb5' := Below.onto hbW b5
    have hb5 := hb5'.alloc hb5'.size (.cells #[.int .i64 x1, .int .i64 y1] 26)
    have HL1 : Hid (LatE n z x1 y1 ok1) := hl1
    clear hl1 b5 hb5' hbW
    go_wp2_with fail
    refine (hlg _ (HB.out.below hb5)).mono ?_
    rintro e w6 ⟨x2, y2, ok2, rfl, hl2, b6⟩
    have hb6' := Below.onto hb5 b6
    have hb6 := hb6'.alloc hb6'.size (.cells #[.int .i64 x2, .int .i64 y2] 26)
    have HL2 : Hid (LatE m y x2 y2 ok2) := hl2
    clear hl2 b6 hb6' hb5
    go_wp2_with fail
    refine (hpr _ (HA.out.below hb6) (HB.out.below hb6)).mono ?_
    rintro e w7 ⟨v, cv, rfl, hv, b7⟩
    have HV : Hid (Cells w7 .u64 v (lenIf (prdE n m z y) (n * m)) (prod n m z y)) := hv
    have hb7 := Below.onto hb6 b7
    clear hv b7 hb6
    by_cases hk1 : polE n z = 0
    · by_cases hk2 : polE m y = 0
      · rw [hk1, hk2]
        cases ok1
        · go_wp2_with fail
          go_ret
          exact ⟨rfl, hb7⟩
        cases ok2
        · go_wp2_with fail
          go_ret
          exact ⟨rfl, hb7⟩
        by_cases hk3 : prdE n m z y = 0
        · obtain ⟨_, _, hnm⟩ := prdE_ok hk3
          have hPz := pol_of HZ.out hk1
          have hPy := pol_of HY.out hk2
          have hWq := prod_whole hPz hPy hnm (lat_whole hk1 HL1.out) (lat_whole hk2 HL2.out)
          have hPq := prod_pol hPz hPy hnm
          have hl0 : lenIf 0 (n * m) = n * m := by simp [lenIf]
          rw [hk3, hl0]
          rw [hk3, hl0] at HV
          have hlq := fun w' h => lattice_un v (n * m) cv (prod n m z y) w' (by omega) h hPq.bds
          have hpe := hPq.ok
          have HWq : Hid (Whole (n * m) (prod n m z y)) := hWq
          have HPe : Hid (polE (n * m) (prod n m z y) = 0) := hpe
          have hmul : (n : Int) * (m : Int) = ((n * m : Nat) : Int) := by simp
          clear hWq hPq hPz hPy hl0 hpe hk3 hlf hlg hpr
          generalize prod n m z y = G at *
          generalize n * m = q at *
          go_wp2_with fail
          refine (hlq _ HV.out).mono ?_
          rintro e w8 ⟨x3, y3, ok3, rfl, hl3, b8⟩
          obtain rfl := lat_true hl3 HPe.out HWq.out
          rw [HPe.out]
          have hb8' := Below.onto hb7 b8
          have hb8 := hb8'.alloc hb8'.size (.cells #[.int .i64 x3, .int .i64 y3] 26)
          clear hl3 b8 hb8' hb7 hlq
          go_wp2_with fail
          go_ret
          exact ⟨rfl, hb8⟩
        · have hne : (prdE n m z y != 0) = true := by simp [hk3]
          clear hlf hlg hpr
          generalize prdE n m z y = c at *
          go_wp2_with fail
          go_ret
          exact ⟨rfl, hb7⟩
      · have hne : (polE m y != 0) = true := by simp [hk2]
        rw [hk1]
        clear hlf hlg hpr
        generalize polE m y = c at *
        go_wp2_with fail
        go_ret
        exact ⟨rfl, hb7⟩
    · have hne : (polE n z != 0) = true := by simp [hk1]
      clear hlf hlg hpr
      generalize polE n z = c at *
      go_wp2_with fail
      go_ret
      exact ⟨rfl, hb7⟩

theorem walk (k s t : Int) (a b : Option Addr) (la ca lb cb : Nat) (z y : Nat → Int) (w : World) (ra : IsRow .u64 w a la ca z) (rb : IsRow .u64 w b lb cb y) :
    Calls Try.prog 4 #[.int .i64 k, .int .i64 s, .int .i64 t, .slice a la ca, .slice b lb cb] w fun e w' => e = .returned (.bool true) ∧ Below w.heap.size w w' := by
  have hz : Bds (min la 17) z := fun j hj => ra.u64 j (by omega)
  have hy : Bds (min lb 17) y := fun j hj => rb.u64 j (by omega)
  have hfa := fun w => few2_any a la ca w ra.2.2.1 ra.2.1
  have hfb := fun w => few2_any b lb cb w rb.2.2.1 rb.2.1
  have ha : Cells w .u64 a (min la 17) z := ra.1.mono (by omega)
  have hb : Cells w .u64 b (min lb 17) y := rb.1.mono (by omega)
  by_cases hk : k < 0 ∨ 4 < k
  · exact walk_no k s t a b la ca lb cb _ _ z y w (by omega) (by omega) hfa hfb ha hb hz hy hk
  · obtain ⟨k', rfl⟩ := Int.eq_ofNat_of_zero_le (show 0 ≤ k by omega)
    have hk' : k' ≤ 4 := by omega
    by_cases hst : 0 ≤ s ∧ 0 ≤ t ∧ s < ((2 ^ k' : Nat) : Int) ∧ t < ((2 ^ k' : Nat) : Int)
    · obtain ⟨h1, h2, h3, h4⟩ := hst
      obtain ⟨s', rfl⟩ := Int.eq_ofNat_of_zero_le h1
      obtain ⟨t', rfl⟩ := Int.eq_ofNat_of_zero_le h2
      exact walk_in k' s' t' a b la ca lb cb _ _ z y w (by omega) (by omega) hfa hfb ha hb hz hy hk' (Int.ofNat_lt.1 h3) (Int.ofNat_lt.1 h4)
    · refine walk_out k' s t a b la ca lb cb _ _ z y w (by omega) (by omega) hfa hfb ha hb hz hy hk' ?_
      generalize ((2 ^ k' : Nat) : Int) = N at *
      omega

set_option maxRecDepth 100000 in
theorem lifted (os : Os) (started : os.Started) (H : Type) (enc : TypeId × Value → H) :
    ReturnsInHanded {} Try.checked os 4 .any (Rows.latticePowersSpec.pre6 enc Try.prog Try.f4 Rows.latticePowersRow.domain false) (Rows.latticePowersSpec.post enc Try.prog Try.f4 false true false false) := by
  refine returnsInHanded_of_change (C := Try.checked) own started (by kernel_rfl) Try.func4
    (ChangeSpec.witness6 (enc := enc) (C := Try.checked) false ⟨#[], #[.int .i64 0, .int .i64 0, .int .i64 0, .slice none 0 0, .slice none 0 0], []⟩ 8 (by kernel_rfl) (by kernel_rfl) (by kernel_rfl) (by kernel_rfl)) ?_
  intro W base args ds gs before hval0 hW hcnd _
  have hval : ∀ (j : Nat) t v, Try.f4.params[j]? = some t → args[j]? = some v → Value.okWide Try.prog W .any base t v := hval0
  have hW' := hW
  obtain ⟨p, q, hA0, hV, rfl, hfz, hnd⟩ := hW
  have hA : DataW.TrodAll enc Try.prog W 0 (fun _ => true) true Try.f4.params.toList args.toList ds p := hA0
  rw [Try.params4] at hA hval
  obtain ⟨v0, vs0, d0, ds0, p0, q0, hargs, rfl, rfl, h0, r0⟩ := trodAll_cons hA
  obtain ⟨v1, vs1, d1, ds1, p1, q1, rfl, rfl, rfl, h1, r1⟩ := trodAll_cons r0
  obtain ⟨v2, vs2, d2, ds2, p2, q2, rfl, rfl, rfl, h2, r2⟩ := trodAll_cons r1
  obtain ⟨v3, vs3, d3, ds3, p3, q3, rfl, rfl, rfl, h3, r3⟩ := trodAll_cons r2
  obtain ⟨v4, vs4, d4, ds4, p4, q4, rfl, rfl, rfl, h4, r4⟩ := trodAll_cons r3
  obtain ⟨rfl, rfl, rfl⟩ := trodAll_nil r4
  obtain rfl : args = #[v0, v1, v2, v3, v4] := by cases args; simp_all
  obtain ⟨rfl, rfl⟩ := trodVars_none hV
  obtain ⟨a0, rfl, rfl, rfl, w0⟩ := open_int Try.underlying3 (hval 0 3 v0 rfl rfl) h0
  obtain ⟨a1, rfl, rfl, rfl, w1⟩ := open_int Try.underlying3 (hval 1 3 v1 rfl rfl) h1
  obtain ⟨a2, rfl, rfl, rfl, w2⟩ := open_int Try.underlying3 (hval 2 3 v2 rfl rfl) h2
  obtain ⟨a3, len3, cap3, rfl⟩ := okWide_slice Try.underlying22 (hval 3 22 v3 rfl rfl)
  have k3 := h3
  have lt3 : ∀ x ∈ p3, x.block < W.heap.size := by obtain ⟨m, hm⟩ := k3; exact DataW.trod_lt m _ _ _ hm
  obtain ⟨z3, w3⟩ : ∃ z, IsRow .u64 W a3 len3 cap3 z := by
    obtain ⟨fuel, hf⟩ := h3
    rcases open_ints Try.underlying22 Try.underlying35 (by kernel_rfl) hf with ⟨hcs, _⟩ | ⟨x, l, c, zs, hcs, _, hl, hm, hz, _, hcell, hwz⟩
    · simp [Value.cells] at hcs
      obtain ⟨rfl, rfl, rfl⟩ := hcs
      exact ⟨_, isRow_nil _ _⟩
    · simp [Value.cells] at hcs
      obtain ⟨rfl, rfl, rfl⟩ := hcs
      exact ⟨_, isRow_some hl hm (by simpa using hz) hcell hwz⟩
  obtain ⟨a4, len4, cap4, rfl⟩ := okWide_slice Try.underlying22 (hval 4 22 v4 rfl rfl)
  have k4 := h4
  have lt4 : ∀ x ∈ p4, x.block < W.heap.size := by obtain ⟨m, hm⟩ := k4; exact DataW.trod_lt m _ _ _ hm
  obtain ⟨z4, w4⟩ : ∃ z, IsRow .u64 W a4 len4 cap4 z := by
    obtain ⟨fuel, hf⟩ := h4
    rcases open_ints Try.underlying22 Try.underlying35 (by kernel_rfl) hf with ⟨hcs, _⟩ | ⟨x, l, c, zs, hcs, _, hl, hm, hz, _, hcell, hwz⟩
    · simp [Value.cells] at hcs
      obtain ⟨rfl, rfl, rfl⟩ := hcs
      exact ⟨_, isRow_nil _ _⟩
    · simp [Value.cells] at hcs
      obtain ⟨rfl, rfl, rfl⟩ := hcs
      exact ⟨_, isRow_some hl hm (by simpa using hz) hcell hwz⟩
  clear hA0 hval0
  refine (walk a0 a1 a2 a3 a4 len3 cap3 len4 cap4 z3 z4 W w3 w4).mono fun e W' ⟨he, bel⟩ => ?_
  subst he
  exact ⟨_, rfl, _, _, _, [], _, [], hW', trodAll_mk1 (shut_bool Try.underlying4 _), (trodAll_cons_mk (shut_int Try.underlying3 w0) (trodAll_cons_mk (shut_int Try.underlying3 w1) (trodAll_cons_mk (shut_int Try.underlying3 w2) (trodAll_cons_mk (Below.trod laidOut (by kernel_rfl) (of_decide_eq_true (by kernel_rfl)) k3 bel lt3) (trodAll_cons_mk (Below.trod laidOut (by kernel_rfl) (of_decide_eq_true (by kernel_rfl)) k4 bel lt4) trodAll_mk0))))), rfl, bel.frame _, fun h => by cases h⟩

end Go.Proofs.Ytcfpfddbbhphgab.latticePowers
namespace Go.Proofs.Ytcfpfddbbhphgab

/-- The statement LatticePowers. -/
theorem LatticePowersHolds : Rows.LatticePowersSaid :=
  OpenClaim.holds_of_wide 4 Try.f4 rfl rfl rfl rfl rfl rfl rfl ⟨rfl, rfl, rfl, rfl, rfl⟩ rfl rfl rfl rfl rfl (by kernel_rfl) Try.func4 (by kernel_rfl)
    (of_decide_eq_true (by kernel_rfl)) (by unfold Func.isWrapper; first | (rw [if_pos (by decide +kernel)]; kernel_rfl) | (rw [if_neg (by decide +kernel)]; exact ⟨rfl, rfl⟩))
    (fun os started H enc _ => latticePowers.lifted os started H enc)

end Go.Proofs.Ytcfpfddbbhphgab
