/- The document's own Product. -/
import Derived.Test.YtcfpfddbbhphgaaLProdR
import Derived.BigQuiet
namespace Go.Proofs.Ytcfpfddbbhphgaa
open Go.RowKit Go.Shelf
attribute [local go_sem ↓] wp_at wp_succ wp_zero wpIn_at wpIn_succ wpIn_zero

set_option maxHeartbeats 1000000 in
theorem rproduct_bad1 (a b : Option Addr) (n m ca cb : Nat) (z : Nat → Int) (w : World) (hn : n < 9223372036854775807) (hc : Cells w .u64 a n z) (hz : Bds n z) (hk : polE n z ≠ 0) :
    Calls Try.prog 33 #[.slice a n ca, .slice b m cb] w fun e w' => e = .returned (.tuple #[.slice none 0 0, .int .i64 (polE n z)]) ∧ Below w.heap.size w w' := by
  have h1 := rcheck2_un a n ca z w hn hc hz
  have hne : (polE n z != 0) = true := by simp [hk]
  generalize polE n z = c at *
  clear hc hz hk
  go_enter Try.func33, Try.ntmps33
  go_wp2_with fail
  refine h1.mono ?_
  rintro e w1 ⟨rfl, b1⟩
  go_wp2_with fail
  go_ret2
  exact ⟨rfl, b1⟩
set_option maxHeartbeats 1000000 in
theorem rproduct_bad2 (a b : Option Addr) (n m ca cb : Nat) (z y : Nat → Int) (w : World) (hn : n < 9223372036854775807) (hm : m < 9223372036854775807) (hc : Cells w .u64 a n z) (hd : Cells w .u64 b m y) (hz : Bds n z) (hy : Bds m y) (hk : polE n z = 0) (hl : polE m y ≠ 0) :
    Calls Try.prog 33 #[.slice a n ca, .slice b m cb] w fun e w' => e = .returned (.tuple #[.slice none 0 0, .int .i64 (polE m y)]) ∧ Below w.heap.size w w' := by
  have h1 := rcheck2_un a n ca z w hn hc hz
  rw [hk] at h1
  have h2 := fun w' h => rcheck2_un b m cb y w' hm h hy
  have hne : (polE m y != 0) = true := by simp [hl]
  have HD : Hid (Cells w .u64 b m y) := hd
  generalize polE m y = c at *
  clear hc hz hk hl hd hy
  go_enter Try.func33, Try.ntmps33
  go_wp2_with fail
  refine h1.mono ?_
  rintro e w1 ⟨rfl, b1⟩
  go_wp2_with fail
  refine (h2 _ (HD.out.below b1)).mono ?_
  rintro e w2 ⟨rfl, b2⟩
  go_wp2_with fail
  go_ret2
  exact ⟨rfl, Below.onto b1 b2⟩
set_option maxHeartbeats 1000000 in
theorem rproduct_many (a b : Option Addr) (n m ca cb : Nat) (z y : Nat → Int) (w : World) (hc : Cells w .u64 a n z) (hd : Cells w .u64 b m y) (hz : Bds n z) (hy : Bds m y) (hk : polE n z = 0) (hl : polE m y = 0) (hnm : 16 < n * m) :
    Calls Try.prog 33 #[.slice a n ca, .slice b m cb] w fun e w' => e = .returned (.tuple #[.slice none 0 0, .int .i64 3]) ∧ Below w.heap.size w w' := by
  have hn16 := (pol_of hz hk).le
  have hm16 := (pol_of hy hl).le
  have h1 := rcheck2_un a n ca z w (by omega) hc hz
  rw [hk] at h1
  have h2 := fun w' h => rcheck2_un b m cb y w' (by omega) h hy
  rw [hl] at h2
  have HD : Hid (Cells w .u64 b m y) := hd
  have hle : n * m ≤ 16 * 16 := Nat.mul_le_mul hn16 hm16
  have hmul : (n : Int) * (m : Int) = ((n * m : Nat) : Int) := by simp
  generalize n * m = q at *
  clear hc hz hk hl hd hy
  go_enter Try.func33, Try.ntmps33
  go_wp2_with fail
  refine h1.mono ?_
  rintro e w1 ⟨rfl, b1⟩
  go_wp2_with fail
  refine (h2 _ (HD.out.below b1)).mono ?_
  rintro e w2 ⟨rfl, b2⟩
  go_wp2_with fail
  go_ret2
  exact ⟨rfl, Below.onto b1 b2⟩

set_option maxRecDepth 100000 in
set_option maxHeartbeats 4000000 in
theorem rproduct_ok (a b : Option Addr) (n m ca cb : Nat) (z y : Nat → Int) (w : World) (hc : Cells w .u64 a n z) (hd : Cells w .u64 b m y) (hz : Bds n z) (hy : Bds m y) (hk : polE n z = 0) (hl : polE m y = 0) (hnm : n * m ≤ 16) :
    Calls Try.prog 33 #[.slice a n ca, .slice b m cb] w (Gives w 0 (n * m) (prod n m z y)) := by
  obtain ⟨i0, hi, hz0, hz1, hz2⟩ := info_parts Try.info23
  have hn16 := (pol_of hz hk).le
  have hm16 := (pol_of hy hl).le
  have hm1 := (pol_of hy hl).one
  have h1 := rcheck2_un a n ca z w (by omega) hc hz
  rw [hk] at h1
  have h2 := fun w' h => rcheck2_un b m cb y w' (by omega) h hy
  rw [hl] at h2
  have HC : Hid (Cells w .u64 a n z) := hc
  have HD : Hid (Cells w .u64 b m y) := hd
  have HZ : Hid (Bds n z) := hz
  have HY : Hid (Bds m y) := hy
  have hmul : (n : Int) * (m : Int) = ((n * m : Nat) : Int) := by simp
  have HDiv : Hid (∀ x, x < n * m → x / m < n ∧ x % m < m) := fun x hx => ⟨Nat.div_lt_of_lt_mul (by rw [Nat.mul_comm]; exact hx), Nat.mod_lt _ (by omega)⟩
  have HP : Hid (∀ x, encU (x + 1) (prod n m z y) = encU x (prod n m z y) ++ [.int .u64 (setTo (prP m z y x) (n * m))]) := fun x => encU_snoc x _
  generalize n * m = q at *
  generalize prod n m z y = G at *
  clear hc hz hk hl hd hy
  go_enter Try.func33, Try.ntmps33
  go_wp2_with fail
  refine h1.mono ?_
  rintro e w1 ⟨rfl, b1⟩
  go_wp2_with fail
  refine (h2 _ (HD.out.below b1)).mono ?_
  rintro e w2 ⟨rfl, b2⟩
  have hb2 := Below.onto b1 b2
  clear h1 h2 b1 b2
  go_wp2_with fail
  go_loopw [7, 8] (fun v i wr => ∃ x : Nat, x ≤ q ∧ i = .int .i64 x ∧ wr.ownsRow w.heap.size 34 1 v x (encU x G) ∧ Below w.heap.size w wr) (fun _ i _ => q - (intOf i).toNat)
  case atStart => exact ⟨0, Nat.zero_le _, rfl, World.ownsRow_nil _ _ _ _, hb2⟩
  case round =>
    clear hb2
    obtain ⟨x, hx, rfl, hown, hbel⟩ := hrel
    by_cases hlt : x < q
    · go_wp2
      obtain ⟨hxd, hxm⟩ := HDiv.out x hlt
      have qd : Int.tdiv (x : Int) (m : Int) = ((x / m : Nat) : Int) := rfl
      have qe : (x : Int) / (m : Int) = ((x / m : Nat) : Int) := rfl
      have qm : Int.tmod (x : Int) (m : Int) = ((x % m : Nat) : Int) := rfl
      have qn : (x : Int) % (m : Int) = ((x % m : Nat) : Int) := rfl
      obtain ⟨z0, z1⟩ := HZ.out _ hxd
      obtain ⟨y0, y1⟩ := HY.out _ hxm
      obtain ⟨B1, o1, rfl, hcz⟩ := HC.out.below hbel _ hxd
      obtain ⟨B2, o2, rfl, hcy⟩ := HD.out.below hbel _ hxm
      have HPP : Hid (∀ b', prP m z y x b' = (tb (z (x / m)) (b' / m) && tb (y (x % m)) (b' % m))) := fun _ => rfl
      generalize x / m = xd at *
      generalize x % m = xm at *
      go_loopw [9, 10] (fun s i wr' => ∃ k : Nat, k ≤ q ∧ i = .int .i64 k ∧ s = .int .u64 (setTo (prP m z y x) k) ∧ wr'.ownsRow w.heap.size 34 1 u7 x (encU x G) ∧ Below w.heap.size w wr') (fun _ i _ => q - (intOf i).toNat)
      case atStart => exact ⟨0, Nat.zero_le _, rfl, rfl, hown, hbel⟩
      case round =>
        clear hown hbel hcz hcy
        obtain ⟨k, hk, rfl, rfl, hown, hbel⟩ := hrel
        have hs0 := setTo_nonneg (prP m z y x) k
        have hs1 := setTo_lt (prP m z y x) (show k ≤ 64 by omega)
        obtain ⟨B3, o3, e3, hcz⟩ := HC.out.below hbel xd hxd
        cases e3
        obtain ⟨B4, o4, e4, hcy⟩ := HD.out.below hbel xm hxm
        cases e4
        by_cases hltk : k < q
        · obtain ⟨hkd, hkm⟩ := HDiv.out k hltk
          have kd : Int.tdiv (k : Int) (m : Int) = ((k / m : Nat) : Int) := rfl
          have ke : (k : Int) / (m : Int) = ((k / m : Nat) : Int) := rfl
          have km : Int.tmod (k : Int) (m : Int) = ((k % m : Nat) : Int) := rfl
          have kn : (k : Int) % (m : Int) = ((k % m : Nat) : Int) := rfl
          have hpp := HPP.out k
          generalize k / m = kd' at *
          generalize k % m = km' at *
          cases t1 : tb (z xd) kd'
          · have HN : Hid (setTo (prP m z y x) (k + 1) = setTo (prP m z y x) k) := setTo_miss (by rw [hpp, t1]; rfl)
            have hh := fun w => rhas_at (z xd) kd' w z0 z1 (by omega) false t1
            clear t1 hpp
            generalize setTo (prP m z y x) k = S at *
            go_wp2_with fail
            go_quiet ((go_at_call 35; exact Calls.quiet_of_same (hh _)))
            go_wp2
            go_roundw
            case rel => exact ⟨k + 1, by omega, by go_num, by rw [HN.out], hown, below_drewN hbel nq⟩
            case measure => simp [intOf]; omega
          · have hh := fun w => rhas_at (z xd) kd' w z0 z1 (by omega) true t1
            cases t2 : tb (y xm) km'
            · have HN : Hid (setTo (prP m z y x) (k + 1) = setTo (prP m z y x) k) := setTo_miss (by rw [hpp, t1, t2]; rfl)
              have hg := fun w => rhas_at (y xm) km' w y0 y1 (by omega) false t2
              clear t1 t2 hpp
              generalize setTo (prP m z y x) k = S at *
              go_wp2_with fail
              go_quiet ((go_at_call 35; first | (with_reducible exact Calls.quiet_of_same (hh _)) | (with_reducible exact Calls.quiet_of_same (hg _))))
              go_wp2
              go_roundw
              case rel => exact ⟨k + 1, by omega, by go_num, by rw [HN.out], hown, below_drewN hbel nq⟩
              case measure => simp [intOf]; omega
            · have HN : Hid (setTo (prP m z y x) (k + 1) = setI (setTo (prP m z y x) k) k) := setTo_hit (by rw [hpp, t1, t2]; rfl)
              have hg := fun w => rhas_at (y xm) km' w y0 y1 (by omega) true t2
              clear t1 t2 hpp
              generalize setTo (prP m z y x) k = S at *
              go_wp2_with fail
              go_quiet ((go_at_call 35; first | (with_reducible exact Calls.quiet_of_same (hh _)) | (with_reducible exact Calls.quiet_of_same (hg _))))
              go_wp2
              go_roundw
              case rel => exact ⟨k + 1, by omega, by go_num, by rw [HN.out, or_bit' hs0 hs1 (by omega)], hown, below_drewN hbel nq⟩
              case measure => simp [intOf]; omega
        · obtain rfl : k = q := by omega
          have HR : Hid (encU (x + 1) G = encU x G ++ [.int .u64 (setTo (prP m z y x) k)]) := HP.out x
          generalize setTo (prP m z y x) k = S at *
          go_wp2_with (at_builtin; refine wpList_append_own _ rfl _ _ 22 rfl w.heap.size 34 i0 (.int .u64 0) 1 8 Try.underlying22 hi hz0 hz1 hz2 rfl (by decide) _ _ _ rfl (hown.alloc _) ⟨wr.heap.size, 0, none⟩ 1 1 [.int .u64 S] rfl rfl (cell_one_new _ _ _) (by simp [Value.oneCell']) (by unfold maxLen; omega) (by omega) (by have := hbel.size; simp; omega) ?_; intro v' w3 hown' hgrow _)
          go_roundw
          case rel =>
            refine ⟨x + 1, by omega, by go_num, ?_, ?_⟩
            · rw [HR.out]; exact hown'
            · exact (hbel.alloc hbel.size _).grown hgrow (by have := hbel.size; simp; omega) (own_ge hown)
          case measure => simp [intOf]; omega
    · obtain rfl : x = q := by omega
      go_wp2
      go_ret2
      exact gives_own rfl hown hbel

theorem rproduct_un (a b : Option Addr) (n m ca cb : Nat) (z y : Nat → Int) (w : World) (hn : n < 9223372036854775807) (hm : m < 9223372036854775807) (hc : Cells w .u64 a n z) (hd : Cells w .u64 b m y) (hz : Bds n z) (hy : Bds m y) :
    Calls Try.prog 33 #[.slice a n ca, .slice b m cb] w (Gives w (prdE n m z y) (n * m) (prod n m z y)) := by
  by_cases h1 : polE n z = 0
  · by_cases h2 : polE m y = 0
    · by_cases h3 : 16 < n * m
      · have e : prdE n m z y = 3 := by simp [prdE, h1, h2, h3]
        rw [e]
        exact (rproduct_many a b n m ca cb z y w hc hd hz hy h1 h2 h3).mono fun e w' ⟨he, hb⟩ => gives_bad (by decide) he hb
      · have e : prdE n m z y = 0 := by simp [prdE, h1, h2, h3]
        rw [e]
        exact rproduct_ok a b n m ca cb z y w hc hd hz hy h1 h2 (by omega)
    · have e : prdE n m z y = polE m y := by simp [prdE, h1, h2]
      rw [e]
      exact (rproduct_bad2 a b n m ca cb z y w hn hm hc hd hz hy h1 h2).mono fun e w' ⟨he, hb⟩ => gives_bad h2 he hb
  · have e : prdE n m z y = polE n z := by simp [prdE, h1]
    rw [e]
    exact (rproduct_bad1 a b n m ca cb z w hn hc hz h1).mono fun e w' ⟨he, hb⟩ => gives_bad h1 he hb

end Go.Proofs.Ytcfpfddbbhphgaa
