/- lattice.Classes and the document's own. -/
import Derived.Test.YtcfpfddbbhphgaaLClsM
import Derived.Test.YtcfpfddbbhphgaaLRefB
namespace Go.Proofs.Ytcfpfddbbhphgaa
open Go.RowKit Go.Shelf

set_option maxRecDepth 100000 in
set_option maxHeartbeats 2000000 in
theorem classes_bad (a : Option Addr) (n cap : Nat) (z : Nat → Int) (w : World) (hn : n < 9223372036854775807) (hc : Cells w .u64 a n z) (hz : Bds n z) (hk : polE n z ≠ 0) :
    Calls Try.prog 24 #[.slice a n cap] w fun e w' => e = .returned (.tuple #[.slice none 0 0, .int .i64 (polE n z)]) ∧ Below w.heap.size w w' := by
  have hrd := read_un a n cap z w hn hc hz
  have hne : (polE n z != 0) = true := by simp [hk]
  clear hc hz
  go_enter Try.func24, Try.ntmps24
  go_wp2_with fail
  refine hrd.mono ?_
  rintro e w1 ⟨hb, ⟨_, rfl⟩ | ⟨h0, _⟩⟩
  · go_wp2_with fail
    go_ret2
    exact ⟨rfl, hb.alloc hb.size _⟩
  · exact absurd h0 hk

set_option maxRecDepth 100000 in
set_option maxHeartbeats 2000000 in
theorem classes_ok (a : Option Addr) (n cap : Nat) (z : Nat → Int) (w : World) (hc : Cells w .u64 a n z) (hz : Bds n z) (hk : polE n z = 0) :
    Calls Try.prog 24 #[.slice a n cap] w fun e w' => ∃ v, e = .returned (.tuple #[v, .int .i64 0]) ∧ w'.ownsRow w.heap.size 34 1 v (clsTo n z n).length (encI (clsTo n z n)) ∧ Below w.heap.size w w' := by
  obtain ⟨i0, hi, hz0, hz1, hz2⟩ := info_parts Try.info23
  have hP := pol_of hz hk
  have hn16 := hP.le
  have hrd := read_un a n cap z w (by omega) hc hz
  have HP : Hid (Pol n z) := hP
  have HC : Hid (Cells w .u64 a n z) := hc
  clear hc hz hP
  go_enter Try.func24, Try.ntmps24
  go_wp2_with fail
  refine hrd.mono ?_
  rintro e w1 ⟨hb, ⟨hk', _⟩ | ⟨_, d, dc, rfl, hd⟩⟩
  · exact absurd hk hk'
  clear hrd hk
  have HD : Hid (Cells w1 .u64 d n (turnTo z n)) := hd
  have hBx := hb.alloc hb.size (.cells #[.slice a n cap, .slice d n dc] 62)
  have hPx := pbox_new w1 (.slice a n cap) (.slice d n dc) 62
  have hB1 : Below w1.heap.size w1 (w1.alloc (.cells #[.slice a n cap, .slice d n dc] 62)) := (Below.refl _ w1).alloc (Nat.le_refl _) _
  clear hd
  obtain ⟨g1, g2⟩ := hPx
  go_wp2_with fail
  have hPx : PBox (w1.alloc (.cells #[.slice a n cap, .slice d n dc] 62)) w1.heap.size (.slice a n cap) (.slice d n dc) := ⟨g1, g2⟩
  have HPx : Hid (PBox (w1.alloc (.cells #[.slice a n cap, .slice d n dc] 62)) w1.heap.size (.slice a n cap) (.slice d n dc)) := hPx
  have hs1 : (w1.alloc (.cells #[.slice a n cap, .slice d n dc] 62)).heap.size = w1.heap.size + 1 := by simp
  have HDD : Hid (Cells (w1.alloc (.cells #[.slice a n cap, .slice d n dc] 62)) .u64 d n (turnTo z n)) := HD.out.below hB1
  clear g1 g2 hPx HD hB1
  generalize hW0 : w1.alloc (.cells #[.slice a n cap, .slice d n dc] 62) = W0 at *
  clear hW0
  go_loopw [6, 20] (fun v i wr => ∃ k : Nat, k ≤ n ∧ i = .int .i64 k ∧ wr.ownsRow W0.heap.size 34 1 v (clsTo n z k).length (encI (clsTo n z k)) ∧ Below W0.heap.size W0 wr) (fun _ i _ => n - (intOf i).toNat)
  case atStart => exact ⟨0, Nat.zero_le _, rfl, World.ownsRow_nil _ _ _ _, Below.refl _ _⟩
  case round =>
    obtain ⟨k, hk, rfl, hown, hbel⟩ := hrel
    by_cases hlt : k < n
    · have heq := equals_at a d n cap dc z (turnTo z n) k wr hlt (HC.out.below (Below.onto hBx hbel)) (HDD.out.below hbel) HP.out.bds HP.out.turn.bds
      obtain ⟨g1, g2⟩ := HPx.out.below hbel
      have e0 := eqS_nonneg n z k
      have e1 := eqS_lt HP.out.bds hlt
      have hrk := fun w => rank_any (eqS n z k) k w e0 e1 (by omega)
      have hlen := clsTo_len n z k
      have HF : Hid (((rankI (eqS n z k) k : Int) == 0) = fstB n z k) := by
        show _ = _
        unfold fstB
        rw [Bool.eq_iff_iff, beq_iff_eq, beq_iff_eq]; omega
      have HE : Hid (andI (z k) (turnTo z n k) = eqS n z k) := rfl
      rw [HE.out] at heq
      cases hf : fstB n z k
      · have hff : ((rankI (eqS n z k) k : Int) == 0) = false := by rw [HF.out, hf]
        have HN : Hid (clsTo n z (k + 1) = clsTo n z k) := clsTo_miss hf
        clear hf HF
        generalize rankI (eqS n z k) k = rk at *
        generalize eqS n z k = S at *
        go_wp2_with fail
        refine heq.mono ?_
        rintro e w2 ⟨rfl, b2⟩
        go_wp2_with fail
        refine (hrk _).mono ?_
        rintro e w3 ⟨rfl, e3⟩
        subst e3
        go_wp2_with fail
        go_roundw
        case rel => exact ⟨k + 1, by omega, by go_num, by rw [HN.out]; exact own_stays hown b2, Below.onto hbel b2⟩
        case measure => simp [intOf]; omega
      · have hff : ((rankI (eqS n z k) k : Int) == 0) = true := by rw [HF.out, hf]
        have HN : Hid (clsTo n z (k + 1) = clsTo n z k ++ [eqS n z k]) := clsTo_hit hf
        clear hf HF
        generalize rankI (eqS n z k) k = rk at *
        generalize eqS n z k = S at *
        generalize clsTo n z k = L at *
        obtain rfl : rk = 0 := by simpa using hff
        go_wp2_with fail
        refine heq.mono ?_
        rintro e w2 ⟨rfl, b2⟩
        have hown2 := own_stays hown b2
        have hb2 := Below.onto hbel b2
        go_wp2_with fail
        refine (hrk _).mono ?_
        rintro e w3 ⟨rfl, e3⟩
        subst e3
        go_wp2_with (at_builtin; refine wpList_append_own _ rfl _ _ 22 rfl W0.heap.size 34 i0 (.int .u64 0) 1 8 Try.underlying22 hi hz0 hz1 hz2 rfl (by decide) _ _ _ rfl (hown2.alloc _) ⟨w3.heap.size, 0, none⟩ 1 1 [.int .u64 S] rfl rfl (cell_one_new _ _ _) (by simp [Value.oneCell']) (by unfold maxLen; omega) (by omega) (by have := hb2.size; simp; omega) ?_; intro v' w4 hown' hgrow _)
        go_roundw
        case rel =>
          refine ⟨k + 1, by omega, by go_num, ?_, ?_⟩
          · rw [HN.out, encI_snoc, List.length_append]; exact hown'
          · exact (hb2.alloc hb2.size _).grown hgrow (by have := hb2.size; simp; omega) (own_ge hown2)
        case measure => simp [intOf]; omega
    · obtain rfl : k = n := by omega
      go_wp2
      go_ret2
      exact ⟨_, rfl, own_mono hown hBx.size, Below.onto hBx hbel⟩

set_option maxHeartbeats 1000000 in
theorem requal_at (a : Option Addr) (n cap : Nat) (z : Nat → Int) (p : Nat) (w : World) (hp : p < n) (hn : n ≤ 64) (hc : Cells w .u64 a n z) (hz : Bds n z) :
    Calls Try.prog 53 #[.slice a n cap, .int .i64 p] w fun e w' => e = .returned (.int .u64 (eqS n z p)) ∧ w' = w := by
  have HC : Hid (Cells w .u64 a n z) := hc
  have HZ : Hid (Bds n z) := hz
  obtain ⟨p0, p1⟩ := hz p hp
  rw [← eqS_set (show p < 64 by omega)]
  clear hc hz
  go_enter Try.func53, Try.ntmps53
  go_wp2
  go_loop [5, 6] (fun s i => ∃ k : Nat, k ≤ n ∧ i = .int .i64 k ∧ s = .int .u64 (setTo (fun b => tb (z p) b && tb (z b) p) k)) (fun _ i => n - (intOf i).toNat)
  case atStart => exact ⟨0, Nat.zero_le _, rfl, rfl⟩
  case round =>
    obtain ⟨k, hk, rfl, rfl⟩ := hrel
    have hs0 := setTo_nonneg (fun b => tb (z p) b && tb (z b) p) k
    have hs1 := setTo_lt (fun b => tb (z p) b && tb (z b) p) (show k ≤ 64 by omega)
    by_cases hlt : k < n
    · obtain ⟨k0, k1⟩ := HZ.out k hlt
      obtain ⟨b1, o1, rfl, hcp⟩ := HC.out p hp
      obtain ⟨b2, o2, e2, hck⟩ := HC.out k hlt
      cases e2
      cases t1 : tb (z p) k
      · have HN : Hid (setTo (fun b => tb (z p) b && tb (z b) p) (k + 1) = setTo (fun b => tb (z p) b && tb (z b) p) k) := setTo_miss (by simp [t1])
        have hh := fun w => rhas_at (z p) k w p0 p1 (by omega) false t1
        clear t1
        generalize setTo (fun b => tb (z p) b && tb (z b) p) k = S at *
        go_wp2_with fail
        refine (hh _).mono ?_
        rintro e w1 ⟨rfl, e1⟩
        subst e1
        go_wp2_with fail
        go_round
        case rel => exact ⟨k + 1, by omega, by go_num, by rw [HN.out]⟩
        case measure => simp [intOf]; omega
      · have hh := fun w => rhas_at (z p) k w p0 p1 (by omega) true t1
        cases t2 : tb (z k) p
        · have HN : Hid (setTo (fun b => tb (z p) b && tb (z b) p) (k + 1) = setTo (fun b => tb (z p) b && tb (z b) p) k) := setTo_miss (by simp [t2])
          have hg := fun w => rhas_at (z k) p w k0 k1 (by omega) false t2
          clear t1 t2
          generalize setTo (fun b => tb (z p) b && tb (z b) p) k = S at *
          go_wp2_with fail
          refine (hh _).mono ?_
          rintro e w1 ⟨rfl, e1⟩
          subst e1
          go_wp2_with fail
          refine (hg _).mono ?_
          rintro e w1 ⟨rfl, e1⟩
          subst e1
          go_wp2_with fail
          go_round
          case rel => exact ⟨k + 1, by omega, by go_num, by rw [HN.out]⟩
          case measure => simp [intOf]; omega
        · have HN : Hid (setTo (fun b => tb (z p) b && tb (z b) p) (k + 1) = setI (setTo (fun b => tb (z p) b && tb (z b) p) k) k) := setTo_hit (by simp [t1, t2])
          have hg := fun w => rhas_at (z k) p w k0 k1 (by omega) true t2
          clear t1 t2
          generalize setTo (fun b => tb (z p) b && tb (z b) p) k = S at *
          go_wp2_with fail
          refine (hh _).mono ?_
          rintro e w1 ⟨rfl, e1⟩
          subst e1
          go_wp2_with fail
          refine (hg _).mono ?_
          rintro e w1 ⟨rfl, e1⟩
          subst e1
          go_wp2_with fail
          go_round
          case rel => exact ⟨k + 1, by omega, by go_num, by rw [HN.out, or_bit' hs0 hs1 (by omega)]⟩
          case measure => simp [intOf]; omega
    · obtain rfl : k = n := by omega
      go_wp2
      go_ret
      exact ⟨rfl, rfl⟩

set_option maxHeartbeats 1000000 in
theorem rclasses_bad (a : Option Addr) (n cap : Nat) (z : Nat → Int) (w : World) (hn : n < 9223372036854775807) (hc : Cells w .u64 a n z) (hz : Bds n z) (hk : polE n z ≠ 0) :
    Calls Try.prog 25 #[.slice a n cap] w fun e w' => e = .returned (.tuple #[.slice none 0 0, .int .i64 (polE n z)]) ∧ Below w.heap.size w w' := by
  have h1 := rcheck2_un a n cap z w hn hc hz
  have hne : (polE n z != 0) = true := by simp [hk]
  generalize polE n z = c at *
  clear hc hz hk
  go_enter Try.func25, Try.ntmps25
  go_wp2_with fail
  refine h1.mono ?_
  rintro e w1 ⟨rfl, hb1⟩
  go_wp2_with fail
  go_ret2
  exact ⟨rfl, hb1⟩

set_option maxRecDepth 100000 in
set_option maxHeartbeats 2000000 in
theorem rclasses_ok (a : Option Addr) (n cap : Nat) (z : Nat → Int) (w : World) (hc : Cells w .u64 a n z) (hz : Bds n z) (hk : polE n z = 0) :
    Calls Try.prog 25 #[.slice a n cap] w fun e w' => ∃ v, e = .returned (.tuple #[v, .int .i64 0]) ∧ w'.ownsRow w.heap.size 34 1 v (clsTo n z n).length (encI (clsTo n z n)) ∧ Below w.heap.size w w' := by
  obtain ⟨i0, hi, hz0, hz1, hz2⟩ := info_parts Try.info23
  have hP := pol_of hz hk
  have hn16 := hP.le
  have h1 := rcheck2_un a n cap z w (by omega) hc hz
  rw [hk] at h1
  have HP : Hid (Pol n z) := hP
  have HC : Hid (Cells w .u64 a n z) := hc
  clear hc hz hP hk
  go_enter Try.func25, Try.ntmps25
  go_wp2_with fail
  refine h1.mono ?_
  rintro e w1 ⟨rfl, hb1⟩
  clear h1
  go_wp2_with fail
  go_loopw [5, 6, 7] (fun v s i wr => ∃ k : Nat, k ≤ n ∧ i = .int .i64 k ∧ s = .int .u64 (snTo n z k) ∧ wr.ownsRow w.heap.size 34 1 v (clsTo n z k).length (encI (clsTo n z k)) ∧ Below w.heap.size w wr) (fun _ _ i _ => n - (intOf i).toNat)
  case atStart => exact ⟨0, Nat.zero_le _, rfl, rfl, World.ownsRow_nil _ _ _ _, hb1⟩
  case round =>
    clear hb1
    obtain ⟨k, hk, rfl, rfl, hown, hbel⟩ := hrel
    have hlen := clsTo_len n z k
    obtain ⟨s0, s1⟩ := snTo_bd HP.out.bds hk
    by_cases hlt : k < n
    · have heq := fun w' h => requal_at a n cap z k w' hlt (by omega) h HP.out.bds
      have e0 := eqS_nonneg n z k
      have e1 := eqS_lt HP.out.bds hlt
      have hse := seen_fst HP.out hlt
      cases hf : fstB n z k
      · have hh := fun w => rhas_at (snTo n z k) k w s0 s1 (by omega) true (by rw [hse, hf]; rfl)
        have HN : Hid (clsTo n z (k + 1) = clsTo n z k) := clsTo_miss hf
        have HM : Hid (snTo n z (k + 1) = snTo n z k) := snTo_miss hf
        clear hf hse heq
        generalize snTo n z k = Sn at *
        go_wp2_with fail
        refine (hh _).mono ?_
        rintro e w2 ⟨rfl, e2⟩
        subst e2
        go_wp2_with fail
        go_roundw
        case rel => exact ⟨k + 1, by omega, by go_num, by rw [HM.out], by rw [HN.out]; exact hown, hbel⟩
        case measure => simp [intOf]; omega
      · have hh := fun w => rhas_at (snTo n z k) k w s0 s1 (by omega) false (by rw [hse, hf]; rfl)
        have HN : Hid (clsTo n z (k + 1) = clsTo n z k ++ [eqS n z k]) := clsTo_hit hf
        have HM : Hid (snTo n z (k + 1) = orI (snTo n z k) (eqS n z k)) := snTo_hit hf
        have HO : Hid (bits .or .u64 (snTo n z k) (eqS n z k) = orI (snTo n z k) (eqS n z k)) := or_eq s0 s1 e0 e1
        clear hf hse
        generalize snTo n z k = Sn at *
        generalize eqS n z k = S at *
        generalize clsTo n z k = L at *
        have hszb := hbel.size
        go_wp2_with fail
        refine (hh _).mono ?_
        rintro e w2 ⟨rfl, e2⟩
        subst e2
        go_wp2_with fail
        refine (heq _ (HC.out.below hbel)).mono ?_
        rintro e w3 ⟨rfl, e3⟩
        subst e3
        go_wp2_with (at_builtin; refine wpList_append_own _ rfl _ _ 22 rfl w.heap.size 34 i0 (.int .u64 0) 1 8 Try.underlying22 hi hz0 hz1 hz2 rfl (by decide) _ _ _ rfl (hown.alloc _) ⟨w3.heap.size, 0, none⟩ 1 1 [.int .u64 S] rfl rfl (cell_one_new _ _ _) (by simp [Value.oneCell']) (by unfold maxLen; omega) (by omega) (by simp; omega) ?_; intro v' w4 hown' hgrow _)
        have hb4 : Below w.heap.size w w4 := (hbel.alloc hbel.size _).grown hgrow (by simp; omega) (own_ge hown)
        refine (heq _ (HC.out.below hb4)).mono ?_
        rintro e w5 ⟨rfl, e5⟩
        subst e5
        go_wp2_with fail
        go_roundw
        case rel =>
          refine ⟨k + 1, by omega, by go_num, by rw [HM.out, ← HO.out], ?_, hb4⟩
          rw [HN.out, encI_snoc, List.length_append]; exact hown'
        case measure => simp [intOf]; omega
    · obtain rfl : k = n := by omega
      go_wp2
      go_ret2
      exact ⟨_, rfl, hown, hbel⟩

theorem givesL_own {w w' : World} {l : List Int} {e : Ending} {v : Value} (he : e = .returned (.tuple #[v, .int .i64 0])) (ho : w'.ownsRow w.heap.size 34 1 v l.length (encI l)) (hb : Below w.heap.size w w') : GivesL w 0 l e w' := by
  obtain ⟨a, cap, rfl, hc, _⟩ := cells_of_own ho (encI_at l)
  exact ⟨a, cap, he, hc, hb⟩
theorem classes_un (a : Option Addr) (n cap : Nat) (z : Nat → Int) (w : World) (hn : n < 9223372036854775807) (hc : Cells w .u64 a n z) (hz : Bds n z) :
    Calls Try.prog 24 #[.slice a n cap] w (GivesL w (polE n z) (clsV n z)) := by
  by_cases hk : polE n z = 0
  · have e : clsV n z = clsTo n z n := by simp [clsV, hk]
    rw [hk, e]
    exact (classes_ok a n cap z w hc hz hk).mono fun e w' ⟨v, he, ho, hb⟩ => givesL_own he ho hb
  · have e : clsV n z = [] := by simp [clsV, hk]
    rw [e]
    exact (classes_bad a n cap z w hn hc hz hk).mono fun e w' ⟨he, hb⟩ => ⟨none, 0, he, fun j hj => absurd hj (by simp), hb⟩
theorem rclasses_un (a : Option Addr) (n cap : Nat) (z : Nat → Int) (w : World) (hn : n < 9223372036854775807) (hc : Cells w .u64 a n z) (hz : Bds n z) :
    Calls Try.prog 25 #[.slice a n cap] w (GivesL w (polE n z) (clsV n z)) := by
  by_cases hk : polE n z = 0
  · have e : clsV n z = clsTo n z n := by simp [clsV, hk]
    rw [hk, e]
    exact (rclasses_ok a n cap z w hc hz hk).mono fun e w' ⟨v, he, ho, hb⟩ => givesL_own he ho hb
  · have e : clsV n z = [] := by simp [clsV, hk]
    rw [e]
    exact (rclasses_bad a n cap z w hn hc hz hk).mono fun e w' ⟨he, hb⟩ => ⟨none, 0, he, fun j hj => absurd hj (by simp), hb⟩

end Go.Proofs.Ytcfpfddbbhphgaa
