/- DeriveUpward, walked. -/
import Derived.Test.YtopjidlhhamjhaaDTwo
import Derived.Lib.QuietBelow
namespace Go.Proofs.Ytopjidlhhamjhaa
open Go.RowKit Go.Shelf Go.Sort
attribute [local go_sem] Oper.semAt_some
set_option maxRecDepth 100000

set_option maxHeartbeats 8000000 in
theorem dupward_no (ao : Option Addr) (len cap : Nat) (g : Nat → DOp) (u : Int) (u0 : 0 ≤ u) (u1 : u < 256) (am : Option Addr) (lem cam : Nat) (w : World) (hs : Rd w ao len 3 (fun j => encD (g j))) (hn : hasF 16 (mdL g (min len 50)) ((u.toNat % 16 : Nat) : Int) = false) :
    Calls Try.prog 6 #[.slice ao len cap, .int .u8 u, .slice am lem cam] w fun e w' => e = .returned (.bool true) ∧ Below w.heap.size w w' := by
  have HS : Hid (Rd w ao len 3 (fun j => encD (g j))) := hs
  obtain ⟨v, rfl⟩ := Int.eq_ofNat_of_zero_le u0
  have hv : v < 256 := by omega
  obtain ⟨n, hnn⟩ : ∃ n, v % 16 = n := ⟨_, rfl⟩
  have hn16 : n < 16 := by omega
  have hmod : ((v : Int) % 16) = (n : Int) := by omega
  have htmod : Int.tmod (v : Int) 16 = (n : Int) := by rw [Int.tmod_eq_emod_of_nonneg (by omega)]; exact hmod
  rw [Int.toNat_natCast] at hn
  have ha := dawake_k w
  clear hs u0 u1
  go_enter Try.func6, Try.ntmps6
  go_wp2_with fail
  refine ha.mono ?_
  rintro e w1 ⟨rfl, hb1⟩
  have B1 : Hid (Below w.heap.size w w1) := hb1
  have hm := dmade_k ao len cap g w1 (HS.out.below hb1)
  clear ha hb1
  go_wp2_with fail
  refine hm.mono ?_
  rintro e w2 ⟨a, rfl, m2⟩
  have M2 : Hid (Fm w1 w2 a 16 (mdL g (min len 50))) := m2
  have hm := dmade_k ao len cap g w2 (HS.out.below (Below.onto B1.out m2.2.2))
  clear m2
  go_wp2_with fail
  refine hm.mono ?_
  rintro e w3 ⟨b, rfl, m3⟩
  have F3 : Hid (F2 w w3 a b (mdL g (min len 50)) (mdL g (min len 50))) := by
    have q := F2.make M2.out m3
    exact ⟨q.fa, q.fb, fun x hx => Nat.le_trans B1.out.size (q.ha x hx), fun x hx => Nat.le_trans B1.out.size (q.hb x hx), q.ap, Below.onto B1.out q.bel⟩
  clear m3 hm M2
  generalize mdL g (min len 50) = L at *
  rw [hnn] at hn
  obtain ⟨z, hz⟩ := F3.out.fa
  have hh := fhas_any hz (n : Int)
  rw [hn] at hh
  clear hn hz
  go_wp2_with fail
  refine hh.mono ?_
  rintro e w4 ⟨rfl, hb4⟩
  have HB : Hid (Below w.heap.size w w4) := Below.onto F3.out.bel hb4
  go_wp2_with fail
  go_ret
  exact ⟨rfl, HB.out⟩

set_option maxHeartbeats 8000000 in
theorem dupward_yes (ao : Option Addr) (len cap : Nat) (g : Nat → DOp) (u : Int) (u0 : 0 ≤ u) (u1 : u < 256) (am : Option Addr) (lem cam : Nat) (gm : Nat → DOp) (w : World) (hs : Rd w ao len 3 (fun j => encD (g j))) (hsm : Rd w am lem 3 (fun j => encD (gm j))) (hn : hasF 16 (mdL g (min len 50)) ((u.toNat % 16 : Nat) : Int) = true) :
    Calls Try.prog 6 #[.slice ao len cap, .int .u8 u, .slice am lem cam] w fun e w' => e = .returned (.bool true) ∧ Below w.heap.size w w' := by
  have HSM : Hid (Rd w am lem 3 (fun j => encD (gm j))) := hsm
  clear hsm
  have HS : Hid (Rd w ao len 3 (fun j => encD (g j))) := hs
  obtain ⟨v, rfl⟩ := Int.eq_ofNat_of_zero_le u0
  have hv : v < 256 := by omega
  obtain ⟨n, hnn⟩ : ∃ n, v % 16 = n := ⟨_, rfl⟩
  have hn16 : n < 16 := by omega
  have hmod : ((v : Int) % 16) = (n : Int) := by omega
  have htmod : Int.tmod (v : Int) 16 = (n : Int) := by rw [Int.tmod_eq_emod_of_nonneg (by omega)]; exact hmod
  rw [Int.toNat_natCast] at hn
  have ha := dawake_k w
  clear hs u0 u1
  go_enter Try.func6, Try.ntmps6
  go_wp2_with fail
  refine ha.mono ?_
  rintro e w1 ⟨rfl, hb1⟩
  have B1 : Hid (Below w.heap.size w w1) := hb1
  have hm := dmade_k ao len cap g w1 (HS.out.below hb1)
  clear ha hb1
  go_wp2_with fail
  refine hm.mono ?_
  rintro e w2 ⟨a, rfl, m2⟩
  have M2 : Hid (Fm w1 w2 a 16 (mdL g (min len 50))) := m2
  have hm := dmade_k ao len cap g w2 (HS.out.below (Below.onto B1.out m2.2.2))
  clear m2
  go_wp2_with fail
  refine hm.mono ?_
  rintro e w3 ⟨b, rfl, m3⟩
  have F3 : Hid (F2 w w3 a b (mdL g (min len 50)) (mdL g (min len 50))) := by
    have q := F2.make M2.out m3
    exact ⟨q.fa, q.fb, fun x hx => Nat.le_trans B1.out.size (q.ha x hx), fun x hx => Nat.le_trans B1.out.size (q.hb x hx), q.ap, Below.onto B1.out q.bel⟩
  clear m3 hm M2
  generalize mdL g (min len 50) = L at *
  rw [hnn] at hn
  obtain ⟨z, hz⟩ := F3.out.fa
  have hh := fhas_any hz (n : Int)
  rw [hn] at hh
  have HN : Hid (n ∈ nds L ∧ n < 16) := ⟨by unfold hasF at hn; rw [Bool.and_eq_true] at hn; simpa using hn.2, hn16⟩
  clear hn hz
  go_wp2_with fail
  refine hh.mono ?_
  rintro e w4 ⟨rfl, hb4⟩
  have F4 : Hid (F2 w w4 a b L L ∧ Kup L L n) := ⟨F3.out.below hb4, kup_refl F3.out.fa.ok HN.out.1⟩
  obtain ⟨pi, hpi⟩ : ∃ pi, parI 16 L (n : Int) = pi := ⟨_, rfl⟩
  obtain ⟨pb, hpb⟩ : ∃ pb, parB 16 L (n : Int) = pb := ⟨_, rfl⟩
  obtain ⟨di, hdi⟩ : ∃ di, dptI 16 L (n : Int) = di := ⟨_, rfl⟩
  have HP : Hid (parI 16 L (n : Int) = pi ∧ parB 16 L (n : Int) = pb ∧ dptI 16 L (n : Int) = di) := ⟨hpi, hpb, hdi⟩
  clear hh hb4 F3 hpi hpb hdi HS B1 hmod htmod hnn
  go_wp2_with fail
  go_loopw [10] (fun i wr => ∃ (j : Nat) (Lx : List Fe), j ≤ lem ∧ j ≤ 50 ∧ i = .int .i64 j ∧ Hid (F2 w wr a b Lx L ∧ Kup L Lx n)) (fun i _ => lem - (intOf i).toNat)
  case atStart => exact ⟨0, L, Nat.zero_le _, Nat.zero_le _, rfl, F4⟩
  case round =>
    obtain ⟨j, Lx, hj, hj50, rfl, hI⟩ := hrel
    by_cases hlt : j < lem
    · by_cases h50 : j < 50
      · obtain ⟨bb, off, rfl, hcell⟩ := HSM.out j hlt
        have k0 : w.cell? ⟨bb, off + j * 3, none⟩ = some (.int .i64 (gm j).k) := hcell 0 (by omega)
        have k1 : w.cell? ⟨bb, off + j * 3 + 1, none⟩ = some (.int .i64 (gm j).a) := hcell 1 (by omega)
        have k2 : w.cell? ⟨bb, off + j * 3 + 2, none⟩ = some (.int .i64 (gm j).b) := hcell 2 (by omega)
        have hB := hI.out.1.bel
        have m0 := (hB.cell (p := ⟨bb, off + j * 3, none⟩) (cell_lt k0)).trans k0
        have m1 := (hB.cell (p := ⟨bb, off + j * 3 + 1, none⟩) (cell_lt k1)).trans k1
        have m2 := (hB.cell (p := ⟨bb, off + j * 3 + 2, none⟩) (cell_lt k2)).trans k2
        clear k0 k1 k2 hB hcell
        generalize gm j = q at *
        obtain ⟨k, x, y⟩ := q
        simp only at m0 m1 m2
        have HW : Hid (F2 w (wr.alloc (.cells #[.int .i64 k, .int .i64 x, .int .i64 y] 33)) a b Lx L ∧ Bx (wr.alloc (.cells #[.int .i64 k, .int .i64 x, .int .i64 y] 33)) wr.heap.size [.int .i64 k, .int .i64 x, .int .i64 y]) := ⟨hI.out.1.below (below_new _ _), bx_new _ _ _⟩
        have HK : Hid (Kup L Lx n) := hI.out.2
        clear hI F4
        by_cases h1 : k = 1
        · subst h1
          have hc := root_k HW.out.1.fa x
          go_wp2_with fail
          refine hc.mono ?_
          rintro e w5 ⟨rfl, hf, hb⟩
          have F5 : Hid (F2 w w5 a b (rootL 16 Lx x) L ∧ Kup L (rootL 16 Lx x) n) := ⟨HW.out.1.act hf hb, HK.out.root x⟩
          clear hc hf hb HW HK
          have k5 := F5.out.2
          have hp := parent_k F5.out.1.fa (n : Int)
          rw [(k5.par HN.out.1 HN.out.2).1, (k5.par HN.out.1 HN.out.2).2, HP.out.1, HP.out.2.1] at hp
          clear k5
          go_wp2_with fail
          refine hp.mono ?_
          rintro e w6 ⟨rfl, hb6⟩
          have F6 : Hid (F2 w w6 a b (rootL 16 Lx x) L ∧ Kup L (rootL 16 Lx x) n) := ⟨F5.out.1.below hb6, F5.out.2⟩
          have hp := parent_k F6.out.1.fb (n : Int)
          rw [HP.out.1, HP.out.2.1] at hp
          clear hb6 F5
          go_wp2_with fail
          refine hp.mono ?_
          rintro e w7 ⟨rfl, hb7⟩
          have F7 : Hid (F2 w w7 a b (rootL 16 Lx x) L ∧ Kup L (rootL 16 Lx x) n) := ⟨F6.out.1.below hb7, F6.out.2⟩
          obtain ⟨z7, hz7⟩ := F7.out.1.fa
          have hp := fhas_any hz7 (n : Int)
          rw [F7.out.2.has HN.out.2] at hp
          clear hb7 F6 hz7
          go_wp2_with fail
          refine hp.mono ?_
          rintro e w8 ⟨rfl, hb8⟩
          have F8 : Hid (F2 w w8 a b (rootL 16 Lx x) L ∧ Kup L (rootL 16 Lx x) n) := ⟨F7.out.1.below hb8, F7.out.2⟩
          have hp := depth_k F8.out.1.fa (n : Int)
          rw [F8.out.2.dep HN.out.1 F8.out.1.fb.ok F8.out.1.fa.ok HN.out.2, HP.out.2.2] at hp
          clear hb8 F7
          go_wp2_with fail
          refine hp.mono ?_
          rintro e w9 ⟨rfl, hb9⟩
          have F9 : Hid (F2 w w9 a b (rootL 16 Lx x) L ∧ Kup L (rootL 16 Lx x) n) := ⟨F8.out.1.below hb9, F8.out.2⟩
          have hp := depth_k F9.out.1.fb (n : Int)
          rw [HP.out.2.2] at hp
          clear hb9 F8
          go_wp2_with fail
          refine hp.mono ?_
          rintro e wz ⟨rfl, hbz⟩
          have FZ : Hid (F2 w wz a b (rootL 16 Lx x) L ∧ Kup L (rootL 16 Lx x) n) := ⟨F9.out.1.below hbz, F9.out.2⟩
          clear hbz F9 hp
          go_wp2_with fail
          go_roundw
          case rel => exact ⟨j + 1, _, by omega, by omega, by go_num, FZ⟩
          case measure => simp [intOf]; omega
        by_cases h2 : k = 2
        · subst h2
          have hc := derive_k HW.out.1.fa x y
          go_wp2_with fail
          refine hc.mono ?_
          rintro e w5 ⟨rfl, hf, hb⟩
          have F5 : Hid (F2 w w5 a b (derL 16 Lx x y) L ∧ Kup L (derL 16 Lx x y) n) := ⟨HW.out.1.act hf hb, HK.out.der x y⟩
          clear hc hf hb HW HK
          have k5 := F5.out.2
          have hp := parent_k F5.out.1.fa (n : Int)
          rw [(k5.par HN.out.1 HN.out.2).1, (k5.par HN.out.1 HN.out.2).2, HP.out.1, HP.out.2.1] at hp
          clear k5
          go_wp2_with fail
          refine hp.mono ?_
          rintro e w6 ⟨rfl, hb6⟩
          have F6 : Hid (F2 w w6 a b (derL 16 Lx x y) L ∧ Kup L (derL 16 Lx x y) n) := ⟨F5.out.1.below hb6, F5.out.2⟩
          have hp := parent_k F6.out.1.fb (n : Int)
          rw [HP.out.1, HP.out.2.1] at hp
          clear hb6 F5
          go_wp2_with fail
          refine hp.mono ?_
          rintro e w7 ⟨rfl, hb7⟩
          have F7 : Hid (F2 w w7 a b (derL 16 Lx x y) L ∧ Kup L (derL 16 Lx x y) n) := ⟨F6.out.1.below hb7, F6.out.2⟩
          obtain ⟨z7, hz7⟩ := F7.out.1.fa
          have hp := fhas_any hz7 (n : Int)
          rw [F7.out.2.has HN.out.2] at hp
          clear hb7 F6 hz7
          go_wp2_with fail
          refine hp.mono ?_
          rintro e w8 ⟨rfl, hb8⟩
          have F8 : Hid (F2 w w8 a b (derL 16 Lx x y) L ∧ Kup L (derL 16 Lx x y) n) := ⟨F7.out.1.below hb8, F7.out.2⟩
          have hp := depth_k F8.out.1.fa (n : Int)
          rw [F8.out.2.dep HN.out.1 F8.out.1.fb.ok F8.out.1.fa.ok HN.out.2, HP.out.2.2] at hp
          clear hb8 F7
          go_wp2_with fail
          refine hp.mono ?_
          rintro e w9 ⟨rfl, hb9⟩
          have F9 : Hid (F2 w w9 a b (derL 16 Lx x y) L ∧ Kup L (derL 16 Lx x y) n) := ⟨F8.out.1.below hb9, F8.out.2⟩
          have hp := depth_k F9.out.1.fb (n : Int)
          rw [HP.out.2.2] at hp
          clear hb9 F8
          go_wp2_with fail
          refine hp.mono ?_
          rintro e wz ⟨rfl, hbz⟩
          have FZ : Hid (F2 w wz a b (derL 16 Lx x y) L ∧ Kup L (derL 16 Lx x y) n) := ⟨F9.out.1.below hbz, F9.out.2⟩
          clear hbz F9 hp
          go_wp2_with fail
          go_roundw
          case rel => exact ⟨j + 1, _, by omega, by omega, by go_num, FZ⟩
          case measure => simp [intOf]; omega
        by_cases h3 : k = 3
        · subst h3
          have hc := under_k HW.out.1.fa (n : Int) x
          cases hu : undI 16 Lx (n : Int) x
          · have HU : Hid (undI 16 Lx (n : Int) x = false) := hu
            rw [hu] at hc
            go_wp2_with fail
            refine hc.mono ?_
            rintro e w4 ⟨rfl, hb4⟩
            replace HW : Hid (F2 w w4 a b Lx L ∧ Bx w4 wr.heap.size _) := ⟨HW.out.1.below hb4, HW.out.2.below hb4⟩
            obtain ⟨x0, x1, x2⟩ := HW.out.2.three
            have xl := cell_lt x0
            clear hc hb4 m0 m1 m2
            clear hu
            have hc := cut_k HW.out.1.fa x
            go_wp2_with fail
            refine hc.mono ?_
            rintro e w5 ⟨v5, rfl, hf, _, hb⟩
            have F5 : Hid (F2 w w5 a b (wout Lx (cutT 16 Lx x)) L ∧ Kup L (wout Lx (cutT 16 Lx x)) n) := ⟨HW.out.1.act hf hb, HK.out.cut HW.out.1.fb.ok HW.out.1.fa.ok HN.out.2 x HU.out⟩
            clear hc hf hb HW HK x0 x1 x2 xl
            have k5 := F5.out.2
            have hp := parent_k F5.out.1.fa (n : Int)
            rw [(k5.par HN.out.1 HN.out.2).1, (k5.par HN.out.1 HN.out.2).2, HP.out.1, HP.out.2.1] at hp
            clear k5
            go_wp2_with fail
            refine hp.mono ?_
            rintro e w6 ⟨rfl, hb6⟩
            have F6 : Hid (F2 w w6 a b (wout Lx (cutT 16 Lx x)) L ∧ Kup L (wout Lx (cutT 16 Lx x)) n) := ⟨F5.out.1.below hb6, F5.out.2⟩
            have hp := parent_k F6.out.1.fb (n : Int)
            rw [HP.out.1, HP.out.2.1] at hp
            clear hb6 F5
            go_wp2_with fail
            refine hp.mono ?_
            rintro e w7 ⟨rfl, hb7⟩
            have F7 : Hid (F2 w w7 a b (wout Lx (cutT 16 Lx x)) L ∧ Kup L (wout Lx (cutT 16 Lx x)) n) := ⟨F6.out.1.below hb7, F6.out.2⟩
            obtain ⟨z7, hz7⟩ := F7.out.1.fa
            have hp := fhas_any hz7 (n : Int)
            rw [F7.out.2.has HN.out.2] at hp
            clear hb7 F6 hz7
            go_wp2_with fail
            refine hp.mono ?_
            rintro e w8 ⟨rfl, hb8⟩
            have F8 : Hid (F2 w w8 a b (wout Lx (cutT 16 Lx x)) L ∧ Kup L (wout Lx (cutT 16 Lx x)) n) := ⟨F7.out.1.below hb8, F7.out.2⟩
            have hp := depth_k F8.out.1.fa (n : Int)
            rw [F8.out.2.dep HN.out.1 F8.out.1.fb.ok F8.out.1.fa.ok HN.out.2, HP.out.2.2] at hp
            clear hb8 F7
            go_wp2_with fail
            refine hp.mono ?_
            rintro e w9 ⟨rfl, hb9⟩
            have F9 : Hid (F2 w w9 a b (wout Lx (cutT 16 Lx x)) L ∧ Kup L (wout Lx (cutT 16 Lx x)) n) := ⟨F8.out.1.below hb9, F8.out.2⟩
            have hp := depth_k F9.out.1.fb (n : Int)
            rw [HP.out.2.2] at hp
            clear hb9 F8
            go_wp2_with fail
            refine hp.mono ?_
            rintro e wz ⟨rfl, hbz⟩
            have FZ : Hid (F2 w wz a b (wout Lx (cutT 16 Lx x)) L ∧ Kup L (wout Lx (cutT 16 Lx x)) n) := ⟨F9.out.1.below hbz, F9.out.2⟩
            clear hbz F9 hp
            go_wp2_with fail
            go_roundw
            case rel => exact ⟨j + 1, _, by omega, by omega, by go_num, FZ⟩
            case measure => simp [intOf]; omega
          · skip
            rw [hu] at hc
            go_wp2_with fail
            refine hc.mono ?_
            rintro e w4 ⟨rfl, hb4⟩
            replace HW : Hid (F2 w w4 a b Lx L ∧ Bx w4 wr.heap.size _) := ⟨HW.out.1.below hb4, HW.out.2.below hb4⟩
            obtain ⟨x0, x1, x2⟩ := HW.out.2.three
            have xl := cell_lt x0
            clear hc hb4 m0 m1 m2
            clear hu
            have F5 : Hid (F2 w w4 a b Lx L ∧ Kup L Lx n) := ⟨HW.out.1, HK.out⟩
            have k5 := F5.out.2
            have hp := parent_k F5.out.1.fa (n : Int)
            rw [(k5.par HN.out.1 HN.out.2).1, (k5.par HN.out.1 HN.out.2).2, HP.out.1, HP.out.2.1] at hp
            clear k5
            go_wp2_with fail
            refine hp.mono ?_
            rintro e w6 ⟨rfl, hb6⟩
            have F6 : Hid (F2 w w6 a b (Lx) L ∧ Kup L (Lx) n) := ⟨F5.out.1.below hb6, F5.out.2⟩
            have hp := parent_k F6.out.1.fb (n : Int)
            rw [HP.out.1, HP.out.2.1] at hp
            clear hb6 F5
            go_wp2_with fail
            refine hp.mono ?_
            rintro e w7 ⟨rfl, hb7⟩
            have F7 : Hid (F2 w w7 a b (Lx) L ∧ Kup L (Lx) n) := ⟨F6.out.1.below hb7, F6.out.2⟩
            obtain ⟨z7, hz7⟩ := F7.out.1.fa
            have hp := fhas_any hz7 (n : Int)
            rw [F7.out.2.has HN.out.2] at hp
            clear hb7 F6 hz7
            go_wp2_with fail
            refine hp.mono ?_
            rintro e w8 ⟨rfl, hb8⟩
            have F8 : Hid (F2 w w8 a b (Lx) L ∧ Kup L (Lx) n) := ⟨F7.out.1.below hb8, F7.out.2⟩
            have hp := depth_k F8.out.1.fa (n : Int)
            rw [F8.out.2.dep HN.out.1 F8.out.1.fb.ok F8.out.1.fa.ok HN.out.2, HP.out.2.2] at hp
            clear hb8 F7
            go_wp2_with fail
            refine hp.mono ?_
            rintro e w9 ⟨rfl, hb9⟩
            have F9 : Hid (F2 w w9 a b (Lx) L ∧ Kup L (Lx) n) := ⟨F8.out.1.below hb9, F8.out.2⟩
            have hp := depth_k F9.out.1.fb (n : Int)
            rw [HP.out.2.2] at hp
            clear hb9 F8
            go_wp2_with fail
            refine hp.mono ?_
            rintro e wz ⟨rfl, hbz⟩
            have FZ : Hid (F2 w wz a b (Lx) L ∧ Kup L (Lx) n) := ⟨F9.out.1.below hbz, F9.out.2⟩
            clear hbz F9 hp
            go_wp2_with fail
            go_roundw
            case rel => exact ⟨j + 1, _, by omega, by omega, by go_num, FZ⟩
            case measure => simp [intOf]; omega
        by_cases h4 : k = 4
        · subst h4
          have hc := under_k HW.out.1.fa (n : Int) x
          cases hu : undI 16 Lx (n : Int) x
          · have HU : Hid (undI 16 Lx (n : Int) x = false) := hu
            rw [hu] at hc
            go_wp2_with fail
            refine hc.mono ?_
            rintro e w4 ⟨rfl, hb4⟩
            replace HW : Hid (F2 w w4 a b Lx L ∧ Bx w4 wr.heap.size _) := ⟨HW.out.1.below hb4, HW.out.2.below hb4⟩
            obtain ⟨x0, x1, x2⟩ := HW.out.2.three
            have xl := cell_lt x0
            clear hc hb4 m0 m1 m2
            clear hu
            have hc := prune_k HW.out.1.fa x
            go_wp2_with fail
            refine hc.mono ?_
            rintro e w5 ⟨v5, rfl, hf, _, hb⟩
            have F5 : Hid (F2 w w5 a b (wout Lx (pruT 16 Lx x)) L ∧ Kup L (wout Lx (pruT 16 Lx x)) n) := ⟨HW.out.1.act hf hb, HK.out.pru HW.out.1.fb.ok HW.out.1.fa.ok HN.out.2 x (.inl HU.out)⟩
            clear hc hf hb HW HK x0 x1 x2 xl
            have k5 := F5.out.2
            have hp := parent_k F5.out.1.fa (n : Int)
            rw [(k5.par HN.out.1 HN.out.2).1, (k5.par HN.out.1 HN.out.2).2, HP.out.1, HP.out.2.1] at hp
            clear k5
            go_wp2_with fail
            refine hp.mono ?_
            rintro e w6 ⟨rfl, hb6⟩
            have F6 : Hid (F2 w w6 a b (wout Lx (pruT 16 Lx x)) L ∧ Kup L (wout Lx (pruT 16 Lx x)) n) := ⟨F5.out.1.below hb6, F5.out.2⟩
            have hp := parent_k F6.out.1.fb (n : Int)
            rw [HP.out.1, HP.out.2.1] at hp
            clear hb6 F5
            go_wp2_with fail
            refine hp.mono ?_
            rintro e w7 ⟨rfl, hb7⟩
            have F7 : Hid (F2 w w7 a b (wout Lx (pruT 16 Lx x)) L ∧ Kup L (wout Lx (pruT 16 Lx x)) n) := ⟨F6.out.1.below hb7, F6.out.2⟩
            obtain ⟨z7, hz7⟩ := F7.out.1.fa
            have hp := fhas_any hz7 (n : Int)
            rw [F7.out.2.has HN.out.2] at hp
            clear hb7 F6 hz7
            go_wp2_with fail
            refine hp.mono ?_
            rintro e w8 ⟨rfl, hb8⟩
            have F8 : Hid (F2 w w8 a b (wout Lx (pruT 16 Lx x)) L ∧ Kup L (wout Lx (pruT 16 Lx x)) n) := ⟨F7.out.1.below hb8, F7.out.2⟩
            have hp := depth_k F8.out.1.fa (n : Int)
            rw [F8.out.2.dep HN.out.1 F8.out.1.fb.ok F8.out.1.fa.ok HN.out.2, HP.out.2.2] at hp
            clear hb8 F7
            go_wp2_with fail
            refine hp.mono ?_
            rintro e w9 ⟨rfl, hb9⟩
            have F9 : Hid (F2 w w9 a b (wout Lx (pruT 16 Lx x)) L ∧ Kup L (wout Lx (pruT 16 Lx x)) n) := ⟨F8.out.1.below hb9, F8.out.2⟩
            have hp := depth_k F9.out.1.fb (n : Int)
            rw [HP.out.2.2] at hp
            clear hb9 F8
            go_wp2_with fail
            refine hp.mono ?_
            rintro e wz ⟨rfl, hbz⟩
            have FZ : Hid (F2 w wz a b (wout Lx (pruT 16 Lx x)) L ∧ Kup L (wout Lx (pruT 16 Lx x)) n) := ⟨F9.out.1.below hbz, F9.out.2⟩
            clear hbz F9 hp
            go_wp2_with fail
            go_roundw
            case rel => exact ⟨j + 1, _, by omega, by omega, by go_num, FZ⟩
            case measure => simp [intOf]; omega
          · skip
            rw [hu] at hc
            go_wp2_with fail
            refine hc.mono ?_
            rintro e w4 ⟨rfl, hb4⟩
            replace HW : Hid (F2 w w4 a b Lx L ∧ Bx w4 wr.heap.size _) := ⟨HW.out.1.below hb4, HW.out.2.below hb4⟩
            obtain ⟨x0, x1, x2⟩ := HW.out.2.three
            have xl := cell_lt x0
            clear hc hb4 m0 m1 m2
            clear hu
            by_cases hxn : x = (n : Int)
            · subst hxn
              have hc := prune_k HW.out.1.fa (n : Int)
              go_wp2_with fail
              refine hc.mono ?_
              rintro e w5 ⟨v5, rfl, hf, _, hb⟩
              have F5 : Hid (F2 w w5 a b (wout Lx (pruT 16 Lx (n : Int))) L ∧ Kup L (wout Lx (pruT 16 Lx (n : Int))) n) := ⟨HW.out.1.act hf hb, HK.out.pru HW.out.1.fb.ok HW.out.1.fa.ok HN.out.2 _ (.inr rfl)⟩
              clear hc hf hb HW HK x0 x1 x2 xl
              have k5 := F5.out.2
              have hp := parent_k F5.out.1.fa (n : Int)
              rw [(k5.par HN.out.1 HN.out.2).1, (k5.par HN.out.1 HN.out.2).2, HP.out.1, HP.out.2.1] at hp
              clear k5
              go_wp2_with fail
              refine hp.mono ?_
              rintro e w6 ⟨rfl, hb6⟩
              have F6 : Hid (F2 w w6 a b (wout Lx (pruT 16 Lx (n : Int))) L ∧ Kup L (wout Lx (pruT 16 Lx (n : Int))) n) := ⟨F5.out.1.below hb6, F5.out.2⟩
              have hp := parent_k F6.out.1.fb (n : Int)
              rw [HP.out.1, HP.out.2.1] at hp
              clear hb6 F5
              go_wp2_with fail
              refine hp.mono ?_
              rintro e w7 ⟨rfl, hb7⟩
              have F7 : Hid (F2 w w7 a b (wout Lx (pruT 16 Lx (n : Int))) L ∧ Kup L (wout Lx (pruT 16 Lx (n : Int))) n) := ⟨F6.out.1.below hb7, F6.out.2⟩
              obtain ⟨z7, hz7⟩ := F7.out.1.fa
              have hp := fhas_any hz7 (n : Int)
              rw [F7.out.2.has HN.out.2] at hp
              clear hb7 F6 hz7
              go_wp2_with fail
              refine hp.mono ?_
              rintro e w8 ⟨rfl, hb8⟩
              have F8 : Hid (F2 w w8 a b (wout Lx (pruT 16 Lx (n : Int))) L ∧ Kup L (wout Lx (pruT 16 Lx (n : Int))) n) := ⟨F7.out.1.below hb8, F7.out.2⟩
              have hp := depth_k F8.out.1.fa (n : Int)
              rw [F8.out.2.dep HN.out.1 F8.out.1.fb.ok F8.out.1.fa.ok HN.out.2, HP.out.2.2] at hp
              clear hb8 F7
              go_wp2_with fail
              refine hp.mono ?_
              rintro e w9 ⟨rfl, hb9⟩
              have F9 : Hid (F2 w w9 a b (wout Lx (pruT 16 Lx (n : Int))) L ∧ Kup L (wout Lx (pruT 16 Lx (n : Int))) n) := ⟨F8.out.1.below hb9, F8.out.2⟩
              have hp := depth_k F9.out.1.fb (n : Int)
              rw [HP.out.2.2] at hp
              clear hb9 F8
              go_wp2_with fail
              refine hp.mono ?_
              rintro e wz ⟨rfl, hbz⟩
              have FZ : Hid (F2 w wz a b (wout Lx (pruT 16 Lx (n : Int))) L ∧ Kup L (wout Lx (pruT 16 Lx (n : Int))) n) := ⟨F9.out.1.below hbz, F9.out.2⟩
              clear hbz F9 hp
              go_wp2_with fail
              go_roundw
              case rel => exact ⟨j + 1, _, by omega, by omega, by go_num, FZ⟩
              case measure => simp [intOf]; omega
            · have hxn2 : (x == (n : Int)) = false := by simpa using hxn
              have F5 : Hid (F2 w w4 a b Lx L ∧ Kup L Lx n) := ⟨HW.out.1, HK.out⟩
              have k5 := F5.out.2
              have hp := parent_k F5.out.1.fa (n : Int)
              rw [(k5.par HN.out.1 HN.out.2).1, (k5.par HN.out.1 HN.out.2).2, HP.out.1, HP.out.2.1] at hp
              clear k5
              go_wp2_with fail
              refine hp.mono ?_
              rintro e w6 ⟨rfl, hb6⟩
              have F6 : Hid (F2 w w6 a b (Lx) L ∧ Kup L (Lx) n) := ⟨F5.out.1.below hb6, F5.out.2⟩
              have hp := parent_k F6.out.1.fb (n : Int)
              rw [HP.out.1, HP.out.2.1] at hp
              clear hb6 F5
              go_wp2_with fail
              refine hp.mono ?_
              rintro e w7 ⟨rfl, hb7⟩
              have F7 : Hid (F2 w w7 a b (Lx) L ∧ Kup L (Lx) n) := ⟨F6.out.1.below hb7, F6.out.2⟩
              obtain ⟨z7, hz7⟩ := F7.out.1.fa
              have hp := fhas_any hz7 (n : Int)
              rw [F7.out.2.has HN.out.2] at hp
              clear hb7 F6 hz7
              go_wp2_with fail
              refine hp.mono ?_
              rintro e w8 ⟨rfl, hb8⟩
              have F8 : Hid (F2 w w8 a b (Lx) L ∧ Kup L (Lx) n) := ⟨F7.out.1.below hb8, F7.out.2⟩
              have hp := depth_k F8.out.1.fa (n : Int)
              rw [F8.out.2.dep HN.out.1 F8.out.1.fb.ok F8.out.1.fa.ok HN.out.2, HP.out.2.2] at hp
              clear hb8 F7
              go_wp2_with fail
              refine hp.mono ?_
              rintro e w9 ⟨rfl, hb9⟩
              have F9 : Hid (F2 w w9 a b (Lx) L ∧ Kup L (Lx) n) := ⟨F8.out.1.below hb9, F8.out.2⟩
              have hp := depth_k F9.out.1.fb (n : Int)
              rw [HP.out.2.2] at hp
              clear hb9 F8
              go_wp2_with fail
              refine hp.mono ?_
              rintro e wz ⟨rfl, hbz⟩
              have FZ : Hid (F2 w wz a b (Lx) L ∧ Kup L (Lx) n) := ⟨F9.out.1.below hbz, F9.out.2⟩
              clear hbz F9 hp
              go_wp2_with fail
              go_roundw
              case rel => exact ⟨j + 1, _, by omega, by omega, by go_num, FZ⟩
              case measure => simp [intOf]; omega
        · have F5 : Hid (F2 w (wr.alloc (.cells #[.int .i64 k, .int .i64 x, .int .i64 y] 33)) a b Lx L ∧ Kup L Lx n) := ⟨HW.out.1, HK.out⟩
          have k5 := F5.out.2
          have hp := parent_k F5.out.1.fa (n : Int)
          rw [(k5.par HN.out.1 HN.out.2).1, (k5.par HN.out.1 HN.out.2).2, HP.out.1, HP.out.2.1] at hp
          clear k5
          go_wp2_with fail
          refine hp.mono ?_
          rintro e w6 ⟨rfl, hb6⟩
          have F6 : Hid (F2 w w6 a b (Lx) L ∧ Kup L (Lx) n) := ⟨F5.out.1.below hb6, F5.out.2⟩
          have hp := parent_k F6.out.1.fb (n : Int)
          rw [HP.out.1, HP.out.2.1] at hp
          clear hb6 F5
          go_wp2_with fail
          refine hp.mono ?_
          rintro e w7 ⟨rfl, hb7⟩
          have F7 : Hid (F2 w w7 a b (Lx) L ∧ Kup L (Lx) n) := ⟨F6.out.1.below hb7, F6.out.2⟩
          obtain ⟨z7, hz7⟩ := F7.out.1.fa
          have hp := fhas_any hz7 (n : Int)
          rw [F7.out.2.has HN.out.2] at hp
          clear hb7 F6 hz7
          go_wp2_with fail
          refine hp.mono ?_
          rintro e w8 ⟨rfl, hb8⟩
          have F8 : Hid (F2 w w8 a b (Lx) L ∧ Kup L (Lx) n) := ⟨F7.out.1.below hb8, F7.out.2⟩
          have hp := depth_k F8.out.1.fa (n : Int)
          rw [F8.out.2.dep HN.out.1 F8.out.1.fb.ok F8.out.1.fa.ok HN.out.2, HP.out.2.2] at hp
          clear hb8 F7
          go_wp2_with fail
          refine hp.mono ?_
          rintro e w9 ⟨rfl, hb9⟩
          have F9 : Hid (F2 w w9 a b (Lx) L ∧ Kup L (Lx) n) := ⟨F8.out.1.below hb9, F8.out.2⟩
          have hp := depth_k F9.out.1.fb (n : Int)
          rw [HP.out.2.2] at hp
          clear hb9 F8
          go_wp2_with fail
          refine hp.mono ?_
          rintro e wz ⟨rfl, hbz⟩
          have FZ : Hid (F2 w wz a b (Lx) L ∧ Kup L (Lx) n) := ⟨F9.out.1.below hbz, F9.out.2⟩
          clear hbz F9 hp
          go_wp2_with fail
          go_roundw
          case rel => exact ⟨j + 1, _, by omega, by omega, by go_num, FZ⟩
          case measure => simp [intOf]; omega
      · obtain rfl : j = 50 := by omega
        have HB : Hid (Below w.heap.size w wr) := hI.out.1.bel
        go_wp2_with fail
        go_ret
        exact ⟨rfl, HB.out⟩
    · obtain rfl : j = lem := by omega
      have HB : Hid (Below w.heap.size w wr) := hI.out.1.bel
      go_wp2_with fail
      go_ret
      exact ⟨rfl, HB.out⟩

end Go.Proofs.Ytopjidlhhamjhaa
