/- DeriveCuts, walked: a cut. -/
import Derived.Test.YtopjidlhhamjhaaDCutP
import Derived.Lib.QuietBelow
namespace Go.Proofs.Ytopjidlhhamjhaa
open Go.RowKit Go.Shelf Go.Sort
attribute [local go_sem] Oper.semAt_some
set_option maxRecDepth 100000

set_option maxHeartbeats 8000000 in
theorem dcuts_A (ao : Option Addr) (len cap : Nat) (g : Nat → DOp) (u : Int) (u0 : 0 ≤ u) (u1 : u < 256) (w : World) (hs : Rd w ao len 3 (fun j => encD (g j))) :
    Calls Try.prog 5 #[.slice ao len cap, .int .u8 u, .bool false] w fun e w' => e = .returned (.bool true) ∧ Below w.heap.size w w' := by
  have HS : Hid (Rd w ao len 3 (fun j => encD (g j))) := hs
  obtain ⟨v, rfl⟩ := Int.eq_ofNat_of_zero_le u0
  have hv : v < 256 := by omega
  obtain ⟨n, hnn⟩ : ∃ n, v % 16 = n := ⟨_, rfl⟩
  have hn16 : n < 16 := by omega
  have hmod : ((v : Int) % 16) = (n : Int) := by omega
  have htmod : Int.tmod (v : Int) 16 = (n : Int) := by rw [Int.tmod_eq_emod_of_nonneg (by omega)]; exact hmod
  have ha := dawake_k w
  clear hs u0 u1
  go_enter Try.func5, Try.ntmps5
  go_wp2_with fail
  refine ha.mono ?_
  rintro e w1 ⟨rfl, hb1⟩
  have B1 : Hid (Below w.heap.size w w1) := hb1
  have hm := dmade_k ao len cap g w1 (HS.out.below hb1)
  clear ha hb1
  go_wp2_with fail
  refine hm.mono ?_
  rintro e w2 ⟨a, rfl, m2⟩
  have M2 : Hid (Fm w1 w2 a 16 (mdL g (min len 50))) := m2
  have hm := dmade_k ao len cap g w2 (HS.out.below (Below.onto B1.out m2.2.2))
  clear m2
  go_wp2_with fail
  refine hm.mono ?_
  rintro e w3 ⟨b, rfl, m3⟩
  have F3 : Hid (F2 w w3 a b (mdL g (min len 50)) (mdL g (min len 50))) := by
    have q := F2.make M2.out m3
    exact ⟨q.fa, q.fb, fun x hx => Nat.le_trans B1.out.size (q.ha x hx), fun x hx => Nat.le_trans B1.out.size (q.hb x hx), q.ap, Below.onto B1.out q.bel⟩
  clear m3 hm M2
  generalize mdL g (min len 50) = L at *
  have hc := cut_k F3.out.fa (n : Int)
  by_cases hn : n ∈ nds L
  · obtain ⟨ge, gc, gp⟩ := gon_cut hn hn16
    rw [ge, gc] at hc
    have HN : Hid (n ∈ nds L ∧ n < 16) := ⟨hn, hn16⟩
    have hok := F3.out.fb.ok
    have hhas : hasF 16 L (n : Int) = true := by have : inR 16 (n : Int) = true := inR_iff.2 (by omega); simp [hasF, this, hn]
    have HT : Hid ((gonG L false n).Nodup ∧ (gonG L false n).length ≤ 16) := ⟨gon_nodup hok false n, gon_len hok hn false⟩
    clear ge gc gp hn hok HS B1
    go_wp2_with fail
    refine hc.mono ?_
    rintro e w4 ⟨v4, rfl, hf, own, hb⟩
    have F4 : Hid (F2 w w4 a b (wout L (gonG L false n)) L) := F3.out.act hf hb
    obtain ⟨ad, cp, hv4, hcl, _⟩ := own_sep own
    rw [hv4]
    clear hv4
    have HC4 : Hid (Cells w4 .i64 ad (gonG L false n).length (atL (gonG L false n))) := hcl
    obtain ⟨z4, hz4⟩ := F4.out.fb
    have hh := fhas_any hz4 (n : Int)
    rw [hhas] at hh
    clear hc hf own hb hcl hz4 hhas F3 hmod htmod hnn
    obtain ⟨T, hT⟩ : ∃ T, gonG L false n = T := ⟨_, rfl⟩
    have HG : Hid (gonG L false n = T) := hT
    rw [hT] at HC4 HT F4
    rw [hT]
    clear hT
    go_wp2_with fail
    refine hh.mono ?_
    rintro e w5 ⟨rfl, hb5⟩
    have F5 : Hid (F2 w w5 a b (wout L T) L ∧ Cells w5 .i64 ad T.length (atL T)) := ⟨F4.out.below hb5, HC4.out.below hb5⟩
    clear hh hb5 F4 HC4
    go_wp2_with fail
    go_loopw [12] (fun i wr => ∃ c : Nat, c ≤ 16 ∧ i = .int .i64 c ∧ Hid (F2 w wr a b (wout L T) L ∧ Cells wr .i64 ad T.length (atL T))) (fun i _ => 16 - (intOf i).toNat)
    case atStart => exact ⟨0, Nat.zero_le _, rfl, F5.out⟩
    case round =>
      obtain ⟨c, hc, rfl, hI⟩ := hrel
      clear F5
      by_cases hlt : c < 16
      · go_wp2_with fail
        obtain ⟨wq, hwq⟩ : ∃ wq, wr = wq := ⟨_, rfl⟩
        rw [hwq] at hI
        rw [hwq]
        clear hwq
        go_loopw [13, 14] (fun t i wr => ∃ q : Nat, q ≤ T.length ∧ t = .int .i64 (tmN (T.take q) c : Nat) ∧ i = .int .i64 q ∧ wr = wq) (fun _ i _ => T.length - (intOf i).toNat)
        case atStart => exact ⟨0, Nat.zero_le _, by simp [tmN], rfl, rfl⟩
        case round =>
          obtain ⟨q, hq, rfl, rfl, rfl⟩ := hrel
          by_cases hlt2 : q < T.length
          · obtain ⟨bb, off, rfl, hcell⟩ := hI.out.2 q hlt2
            have HTT := tm_take hlt2 c
            have hT16 := HT.out.2
            have hle : tmN (T.take q) c ≤ 16 := by have h1 := List.length_filter_le (fun x => decide (x = c)) (T.take q); have h2 := HT.out.2; unfold tmN; rw [List.length_take] at h1; omega
            have hat : atL T q = ((T.getD q 0 : Nat) : Int) := rfl
            rw [hat] at hcell
            clear hat
            generalize T.getD q 0 = y at *
            generalize tmN (T.take q) c = tq at *
            by_cases hyc : y = c
            · subst hyc
              rw [if_pos rfl] at HTT
              have HT2 : Hid (tmN (T.take (q + 1)) y = tq + 1) := HTT
              clear HTT
              go_wp2_with fail
              go_roundw
              case rel => exact ⟨q + 1, by omega, by rw [HT2.out]; go_num, by go_num, by first | rfl | trivial⟩
              case measure => simp [intOf]; omega
            · rw [if_neg hyc] at HTT
              have HT2 : Hid (tmN (T.take (q + 1)) c = tq) := HTT
              have hyc2 : ((y : Int) == (c : Int)) = false := by simp; omega
              clear HTT
              go_wp2_with fail
              go_roundw
              case rel => exact ⟨q + 1, by omega, by rw [HT2.out], by go_num, by first | rfl | trivial⟩
              case measure => simp [intOf]; omega
          · obtain rfl : q = T.length := by omega
            rw [List.take_length]
            have hu := under_k hI.out.1.fb (c : Int) (n : Int)
            by_cases hcT : c ∈ T
            · have ht1 := tm_mem HT.out.1 hcT
              rw [ht1]
              have hu1 := gon_und hI.out.1.fb.ok HN.out.1 HN.out.2 (pr := false) (by rw [HG.out]; exact hcT)
              rw [hu1.1] at hu
              have hgone : hasF 16 (wout L T) (c : Int) = false := by have := gon_gone (L := L) (n := n) (pr := false) (c := c) (by rw [HG.out]; exact hcT); rw [HG.out] at this; exact this
              clear ht1 hu1 hcT hlt2
              go_wp2_with fail
              refine hu.mono ?_
              rintro e w6 ⟨rfl, hb6⟩
              have F6 : Hid (F2 w w6 a b (wout L T) L ∧ Cells w6 .i64 ad T.length (atL T)) := ⟨hI.out.1.below hb6, hI.out.2.below hb6⟩
              have hp := parent_k F6.out.1.fa (c : Int)
              clear hu hb6 hI
              generalize parI 16 (wout L T) (c : Int) = p1 at *
              generalize parB 16 (wout L T) (c : Int) = p2 at *
              go_wp2_with fail
              refine hp.mono ?_
              rintro e w7 ⟨rfl, hb7⟩
              have F7 : Hid (F2 w w7 a b (wout L T) L ∧ Cells w7 .i64 ad T.length (atL T)) := ⟨F6.out.1.below hb7, F6.out.2.below hb7⟩
              have hp := parent_k F7.out.1.fb (c : Int)
              clear hb7 F6
              generalize parI 16 L (c : Int) = p3 at *
              generalize parB 16 L (c : Int) = p4 at *
              go_wp2_with fail
              refine hp.mono ?_
              rintro e w8 ⟨rfl, hb8⟩
              have F8 : Hid (F2 w w8 a b (wout L T) L ∧ Cells w8 .i64 ad T.length (atL T)) := ⟨F7.out.1.below hb8, F7.out.2.below hb8⟩
              obtain ⟨z8, hz8⟩ := F8.out.1.fa
              have hp := fhas_any hz8 (c : Int)
              rw [hgone] at hp
              clear hb8 F7 hz8 hgone
              go_wp2_with fail
              refine hp.mono ?_
              rintro e w9 ⟨rfl, hb9⟩
              have F9 : Hid (F2 w w9 a b (wout L T) L ∧ Cells w9 .i64 ad T.length (atL T)) := ⟨F8.out.1.below hb9, F8.out.2.below hb9⟩
              clear hb9 F8 hp
              go_wp2_with fail
              go_roundw
              case rel => exact ⟨c + 1, by omega, by go_num, F9.out⟩
              case measure => simp [intOf]; omega
            · have ht1 := tm_no hcT
              rw [ht1]
              have hnG : c ∉ gonG L false n := by rw [HG.out]; exact hcT
              have hu1 := gon_notund (L := L) (n := n) (pr := false) hnG
              have h1 := gon_has hnG
              have h2 := gon_par hnG
              have h3 := gon_dep hI.out.1.fb.ok hnG
              rw [HG.out] at h1 h2 h3
              have HE : Hid (hasF 16 (wout L T) (c : Int) = hasF 16 L (c : Int) ∧ parI 16 (wout L T) (c : Int) = parI 16 L (c : Int) ∧ parB 16 (wout L T) (c : Int) = parB 16 L (c : Int) ∧ dptI 16 (wout L T) (c : Int) = dptI 16 L (c : Int)) := ⟨h1, h2.1, h2.2, h3⟩
              clear ht1 hnG h1 h2 h3 hcT hlt2
              rcases hu1 with hu1 | ⟨hu1, _⟩
              · rw [hu1] at hu
                clear hu1
                go_wp2_with fail
                refine hu.mono ?_
                rintro e w6 ⟨rfl, hb6⟩
                have F6 : Hid (F2 w w6 a b (wout L T) L ∧ Cells w6 .i64 ad T.length (atL T)) := ⟨hI.out.1.below hb6, hI.out.2.below hb6⟩
                have hp := parent_k F6.out.1.fa (c : Int)
                rw [HE.out.2.1, HE.out.2.2.1] at hp
                obtain ⟨p1, hp1⟩ : ∃ p1, parI 16 L (c : Int) = p1 := ⟨_, rfl⟩
                obtain ⟨p2, hp2⟩ : ∃ p2, parB 16 L (c : Int) = p2 := ⟨_, rfl⟩
                obtain ⟨p3, hp3⟩ : ∃ p3, dptI 16 L (c : Int) = p3 := ⟨_, rfl⟩
                obtain ⟨p4, hp4⟩ : ∃ p4, hasF 16 L (c : Int) = p4 := ⟨_, rfl⟩
                have HQ : Hid (parI 16 L (c : Int) = p1 ∧ parB 16 L (c : Int) = p2 ∧ dptI 16 L (c : Int) = p3 ∧ hasF 16 L (c : Int) = p4) := ⟨hp1, hp2, hp3, hp4⟩
                rw [hp1, hp2] at hp
                clear hu hb6 hI hp1 hp2 hp3 hp4
                go_wp2_with fail
                refine hp.mono ?_
                rintro e w7 ⟨rfl, hb⟩
                have F7 : Hid (F2 w w7 a b (wout L T) L ∧ Cells w7 .i64 ad T.length (atL T)) := ⟨F6.out.1.below hb, F6.out.2.below hb⟩
                have hp := parent_k F7.out.1.fb (c : Int)
                rw [HQ.out.1, HQ.out.2.1] at hp
                clear hb F6
                go_wp2_with fail
                refine hp.mono ?_
                rintro e w8 ⟨rfl, hb⟩
                have F8 : Hid (F2 w w8 a b (wout L T) L ∧ Cells w8 .i64 ad T.length (atL T)) := ⟨F7.out.1.below hb, F7.out.2.below hb⟩
                obtain ⟨zz, hzz⟩ := F8.out.1.fa
                have hp := fhas_any hzz (c : Int)
                clear hzz
                rw [HE.out.1, HQ.out.2.2.2] at hp
                clear hb F7
                go_wp2_with fail
                refine hp.mono ?_
                rintro e w9 ⟨rfl, hb⟩
                have F9 : Hid (F2 w w9 a b (wout L T) L ∧ Cells w9 .i64 ad T.length (atL T)) := ⟨F8.out.1.below hb, F8.out.2.below hb⟩
                obtain ⟨zz, hzz⟩ := F9.out.1.fb
                have hp := fhas_any hzz (c : Int)
                clear hzz
                rw [HQ.out.2.2.2] at hp
                clear hb F8
                go_wp2_with fail
                refine hp.mono ?_
                rintro e w10 ⟨rfl, hb⟩
                have F10 : Hid (F2 w w10 a b (wout L T) L ∧ Cells w10 .i64 ad T.length (atL T)) := ⟨F9.out.1.below hb, F9.out.2.below hb⟩
                have hp := depth_k F10.out.1.fa (c : Int)
                rw [HE.out.2.2.2, HQ.out.2.2.1] at hp
                clear hb F9
                go_wp2_with fail
                refine hp.mono ?_
                rintro e w11 ⟨rfl, hb⟩
                have F11 : Hid (F2 w w11 a b (wout L T) L ∧ Cells w11 .i64 ad T.length (atL T)) := ⟨F10.out.1.below hb, F10.out.2.below hb⟩
                have hp := depth_k F11.out.1.fb (c : Int)
                rw [HQ.out.2.2.1] at hp
                clear hb F10
                go_wp2_with fail
                refine hp.mono ?_
                rintro e wz ⟨rfl, hb⟩
                have FZ : Hid (F2 w wz a b (wout L T) L ∧ Cells wz .i64 ad T.length (atL T)) := ⟨F11.out.1.below hb, F11.out.2.below hb⟩
                clear hb F11 hp
                go_wp2_with fail
                go_roundw
                case rel => exact ⟨c + 1, by omega, by go_num, FZ.out⟩
                case measure => simp [intOf]; omega
              · cases hu1
      · obtain rfl : c = 16 := by omega
        have HB : Hid (Below w.heap.size w wr) := hI.out.1.bel
        go_wp2_with fail
        go_ret
        exact ⟨rfl, HB.out⟩
  · obtain ⟨ge, gc, gp⟩ := gon_no hn hn16
    rw [ge, gc, wout_nil] at hc
    have hhas : hasF 16 L (n : Int) = false := by simp [hasF, hn]
    clear ge gc gp hn HS B1
    go_wp2_with fail
    refine hc.mono ?_
    rintro e w4 ⟨v4, rfl, hf, own, hb⟩
    have F4 : Hid (F2 w w4 a b L L) := F3.out.act hf hb
    obtain ⟨ad, cp, hv4, _, _⟩ := own_sep own
    rw [hv4]
    clear hv4
    rw [List.length_nil]
    obtain ⟨z4, hz4⟩ := F4.out.fb
    have hh := fhas_any hz4 (n : Int)
    rw [hhas] at hh
    clear hc hf own hb hz4 hhas F3 hmod htmod hnn
    go_wp2_with fail
    refine hh.mono ?_
    rintro e w5 ⟨rfl, hb5⟩
    have F5 : Hid (F2 w w5 a b L L) := F4.out.below hb5
    have hl := len_k12 F5.out.fa
    have hl2 := len_k12 F5.out.fb
    clear hh hb5 F4
    generalize L.length = ll at *
    go_wp2_with fail
    refine hl.mono ?_
    rintro e w6 ⟨rfl, rfl⟩
    go_wp2_with fail
    refine hl2.mono ?_
    rintro e w7 ⟨rfl, rfl⟩
    have HB : Hid (Below w.heap.size w w7) := F5.out.bel
    go_wp2_with fail
    go_ret
    exact ⟨rfl, HB.out⟩
end Go.Proofs.Ytopjidlhhamjhaa
