/- DeriveTrees, walked. -/
import Derived.Test.YtopjidlhhamjhaaDTreeP
import Derived.Lib.QuietBelow
namespace Go.Proofs.Ytopjidlhhamjhaa
open Go.RowKit Go.Shelf Go.Sort
attribute [local go_sem] Oper.semAt_some
set_option maxRecDepth 100000

set_option maxHeartbeats 8000000 in
theorem dtrees_any (ao : Option Addr) (len cap : Nat) (g : Nat → DOp) (w : World) (hs : Rd w ao len 3 (fun j => encD (g j))) :
    Calls Try.prog 4 #[.slice ao len cap] w fun e w' => e = .returned (.bool true) ∧ Below w.heap.size w w' := by
  have HS : Hid (Rd w ao len 3 (fun j => encD (g j))) := hs
  have ha := dawake_k w
  clear hs
  go_enter Try.func4, Try.ntmps4
  go_wp2_with fail
  refine ha.mono ?_
  rintro e w1 ⟨rfl, hb1⟩
  have B1 : Hid (Below w.heap.size w w1) := hb1
  have hm := dmade_k ao len cap g w1 (HS.out.below hb1)
  clear ha hb1
  go_wp2_with fail
  refine hm.mono ?_
  rintro e w2 ⟨a, rfl, m2⟩
  have M2 : Hid (Fo w2 a 16 (mdL g (min len 50)) ∧ Below w.heap.size w w2) := ⟨m2.1, Below.onto B1.out m2.2.2⟩
  clear hm m2 HS B1
  generalize mdL g (min len 50) = L at *
  go_wp2_with fail
  go_loopw [4, 5] (fun t i wr => ∃ c : Nat, c ≤ 16 ∧ t = .int .i64 (cnN L c : Nat) ∧ i = .int .i64 c ∧ Hid (Fo wr a 16 L ∧ Below w.heap.size w wr)) (fun _ i _ => 16 - (intOf i).toNat)
  case atStart => exact ⟨0, Nat.zero_le _, rfl, rfl, M2.out⟩
  case round =>
    obtain ⟨c, hc, rfl, rfl, hI⟩ := hrel
    clear M2
    by_cases hlt : c < 16
    · obtain ⟨z0, hz0⟩ := hI.out.1
      have hp := fhas_any hz0 (c : Int)
      have HC : Hid (cnN L (c + 1) = cnN L c + if hasF 16 L (c : Int) then 1 else 0) := rfl
      have hcl : cnN L c ≤ 16 := by have := cn_le (L := L) c; omega
      have hmem := has_iff (L := L) hlt
      clear hz0
      generalize cnN L c = tc at *
      cases hq : hasF 16 L (c : Int)
      · rw [hq] at hp
        have HC2 : Hid (cnN L (c + 1) = tc) := by show _ = _; rw [HC.out, hq]; rfl
        clear hq hmem HC
        go_wp2_with fail
        refine hp.mono ?_
        rintro e w3 ⟨rfl, hb⟩
        have F3 : Hid (Fo w3 a 16 L ∧ Below w.heap.size w w3) := ⟨hI.out.1.below hb, Below.onto hI.out.2 hb⟩
        clear hp hb hI
        go_wp2_with fail
        go_roundw
        case rel => exact ⟨c + 1, by omega, by rw [HC2.out], by go_num, F3.out⟩
        case measure => simp [intOf]; omega
      · rw [hq] at hp
        have HM : Hid (c ∈ nds L) := by
          show c ∈ nds L
          rw [hq] at hmem
          by_cases e : c ∈ nds L
          · exact e
          · simp [e] at hmem
        have HC2 : Hid (cnN L (c + 1) = tc + 1) := by show _ = _; rw [HC.out, hq]; rfl
        clear hq hmem HC
        go_wp2_with fail
        refine hp.mono ?_
        rintro e w3 ⟨rfl, hb⟩
        have F3 : Hid (Fo w3 a 16 L ∧ Below w.heap.size w w3) := ⟨hI.out.1.below hb, Below.onto hI.out.2 hb⟩
        clear hp hb hI
        go_wp2_with fail
        go_loopw [6, 7] (fun t i wr => ∃ b : Nat, b ≤ 16 ∧ t = .int .i64 (rtN L c b : Nat) ∧ i = .int .i64 b ∧ Hid (Fo wr a 16 L ∧ Below w.heap.size w wr)) (fun _ i _ => 16 - (intOf i).toNat)
        case atStart => exact ⟨0, Nat.zero_le _, rfl, rfl, F3.out⟩
        case round =>
          obtain ⟨b, hb, rfl, rfl, hJ⟩ := hrel
          clear F3
          by_cases hlt2 : b < 16
          · have hrl : rtN L c b ≤ 16 := by have := rt_le (L := L) c b; omega
            have HR : Hid (rtN L c (b + 1) = rtN L c b + if rB L c b then 1 else 0) := rfl
            generalize rtN L c b = rt at *
            have hp := parent_k hJ.out.1 (b : Int)
            have HD : Hid (rB L c b = (hasF 16 L (b : Int) && (!parB 16 L (b : Int) && undI 16 L (c : Int) (b : Int)))) := rfl
            have hh := fun W (hW : Fo W a 16 L) => (by obtain ⟨z, hz⟩ := hW; exact fhas_any hz (b : Int) : Calls Try.prog 18 #[a.ptr, .int .i64 (b : Int)] W fun e w' => e = .returned (.bool (hasF 16 L (b : Int))) ∧ Below W.heap.size W w')
            have hu := fun W (hW : Fo W a 16 L) => under_k hW (c : Int) (b : Int)
            generalize parI 16 L (b : Int) = p1 at *
            generalize parB 16 L (b : Int) = p2 at *
            generalize hasF 16 L (b : Int) = p3 at *
            generalize undI 16 L (c : Int) (b : Int) = p4 at *
            go_wp2_with fail
            refine hp.mono ?_
            rintro e w4 ⟨rfl, hb4⟩
            have F4 : Hid (Fo w4 a 16 L ∧ Below w.heap.size w w4) := ⟨hJ.out.1.below hb4, Below.onto hJ.out.2 hb4⟩
            clear hp hb4 hJ
            go_wp2_with fail
            refine (hh _ F4.out.1).mono ?_
            rintro e w5 ⟨rfl, hb5⟩
            have F5 : Hid (Fo w5 a 16 L ∧ Below w.heap.size w w5) := ⟨F4.out.1.below hb5, Below.onto F4.out.2 hb5⟩
            clear hb5 F4 hh
            cases p3
            · have HR2 : Hid (rtN L c (b + 1) = rt) := by show _ = _; rw [HR.out, HD.out]; simp
              clear HR HD hu
              go_wp2_with fail
              go_roundw
              case rel => exact ⟨b + 1, by omega, by rw [HR2.out], by go_num, F5.out⟩
              case measure => simp [intOf]; omega
            · cases p2
              · go_wp2_with fail
                refine (hu _ F5.out.1).mono ?_
                rintro e w6 ⟨rfl, hb6⟩
                have F6 : Hid (Fo w6 a 16 L ∧ Below w.heap.size w w6) := ⟨F5.out.1.below hb6, Below.onto F5.out.2 hb6⟩
                clear hb6 F5 hu
                cases p4
                · have HR2 : Hid (rtN L c (b + 1) = rt) := by show _ = _; rw [HR.out, HD.out]; simp
                  clear HR HD
                  go_wp2_with fail
                  go_roundw
                  case rel => exact ⟨b + 1, by omega, by rw [HR2.out], by go_num, F6.out⟩
                  case measure => simp [intOf]; omega
                · have HR2 : Hid (rtN L c (b + 1) = rt + 1) := by show _ = _; rw [HR.out, HD.out]; simp
                  clear HR HD
                  go_wp2_with fail
                  go_roundw
                  case rel => exact ⟨b + 1, by omega, by rw [HR2.out]; go_num, by go_num, F6.out⟩
                  case measure => simp [intOf]; omega
              · have HR2 : Hid (rtN L c (b + 1) = rt) := by show _ = _; rw [HR.out, HD.out]; simp
                clear HR HD hu
                go_wp2_with fail
                go_roundw
                case rel => exact ⟨b + 1, by omega, by rw [HR2.out], by go_num, F5.out⟩
                case measure => simp [intOf]; omega
          · obtain rfl : b = 16 := by omega
            have h1 := rt_16 hJ.out.1.ok HM.out
            rw [h1]
            have hbl := lbelow_k hJ.out.1 (c : Int) 100 (by omega)
            rw [belT_100 hJ.out.1.ok HM.out] at hbl
            have HT : Hid (∀ x, x ∈ blw L c → x ≠ c ∧ undI 16 L (x : Int) (c : Int) = true ∧ dptI 16 L (c : Int) < dptI 16 L (x : Int)) := fun x hx => below_ok hJ.out.1.ok hx
            have HT2 : Hid ((blw L c).length ≤ 16) := blw_len hJ.out.1.ok c
            obtain ⟨T, hT⟩ : ∃ T, blw L c = T := ⟨_, rfl⟩
            rw [hT] at HT HT2 hbl
            clear h1 hT hlt2
            go_wp2_with fail
            refine hbl.mono ?_
            rintro e w4 ⟨v4, rfl, own, hb4⟩
            have F4 : Hid (Fo w4 a 16 L ∧ Below w.heap.size w w4) := ⟨hJ.out.1.below hb4, Below.onto hJ.out.2 hb4⟩
            obtain ⟨ad, cp, hv4, hcl, _⟩ := own_sep own
            rw [hv4]
            have HCl : Hid (Cells w4 .i64 ad T.length (atL T)) := hcl
            clear hv4 hcl own hb4 hbl hJ
            go_wp2_with fail
            go_loopw [12] (fun i wr => ∃ q : Nat, q ≤ T.length ∧ i = .int .i64 q ∧ Hid (Fo wr a 16 L ∧ Below w.heap.size w wr ∧ Cells wr .i64 ad T.length (atL T))) (fun i _ => T.length - (intOf i).toNat)
            case atStart => exact ⟨0, Nat.zero_le _, rfl, F4.out.1, F4.out.2, HCl.out⟩
            case round =>
              obtain ⟨q, hq, rfl, hK⟩ := hrel
              clear F4 HCl
              by_cases hlt3 : q < T.length
              · obtain ⟨bb, off, rfl, hcell⟩ := hK.out.2.2 q hlt3
                have hT16 := HT2.out
                have hx := HT.out (T.getD q 0) (by rw [List.getD_eq_getElem?_getD, List.getElem?_eq_getElem hlt3]; exact List.getElem_mem hlt3)
                have hat : atL T q = ((T.getD q 0 : Nat) : Int) := rfl
                rw [hat] at hcell
                clear hat
                generalize T.getD q 0 = x at *
                have hne : ((x : Int) == (c : Int)) = false := by have := hx.1; simp; omega
                have hu := under_k hK.out.1 (x : Int) (c : Int)
                rw [hx.2.1] at hu
                have hd1 := fun W (hW : Fo W a 16 L) => depth_k hW (x : Int)
                have hd2 := fun W (hW : Fo W a 16 L) => depth_k hW (c : Int)
                have hlt4 := hx.2.2
                clear hx
                generalize dptI 16 L (x : Int) = dx at *
                generalize dptI 16 L (c : Int) = dc at *
                have hle : ¬ dx ≤ dc := by omega
                have cl := cell_lt hcell
                clear hlt4
                go_wp2_with fail
                refine hu.mono ?_
                rintro e w6 ⟨rfl, hb6⟩
                have F6 : Hid (Fo w6 a 16 L ∧ Below w.heap.size w w6 ∧ Cells w6 .i64 (some ⟨bb, off, none⟩) T.length (atL T)) := ⟨hK.out.1.below hb6, Below.onto hK.out.2.1 hb6, hK.out.2.2.below hb6⟩
                have hcell2 := (hb6.cell (p := ⟨bb, off + q, none⟩) cl).trans hcell
                clear hu hb6 hK hcell cl
                have cl := cell_lt hcell2
                go_wp2_with fail
                refine (hd1 _ F6.out.1).mono ?_
                rintro e w7 ⟨rfl, hb7⟩
                have F7 : Hid (Fo w7 a 16 L ∧ Below w.heap.size w w7 ∧ Cells w7 .i64 (some ⟨bb, off, none⟩) T.length (atL T)) := ⟨F6.out.1.below hb7, Below.onto F6.out.2.1 hb7, F6.out.2.2.below hb7⟩
                clear hb7 F6 hd1 hcell2 cl
                go_wp2_with fail
                refine (hd2 _ F7.out.1).mono ?_
                rintro e w8 ⟨rfl, hb8⟩
                have F8 : Hid (Fo w8 a 16 L ∧ Below w.heap.size w w8 ∧ Cells w8 .i64 (some ⟨bb, off, none⟩) T.length (atL T)) := ⟨F7.out.1.below hb8, Below.onto F7.out.2.1 hb8, F7.out.2.2.below hb8⟩
                clear hb8 F7 hd2
                go_wp2_with fail
                go_roundw
                case rel => exact ⟨q + 1, by omega, by go_num, F8.out⟩
                case measure => simp [intOf]; omega
              · obtain rfl : q = T.length := by omega
                go_wp2_with fail
                go_roundw
                case rel => exact ⟨c + 1, by omega, by first | (rw [HC2.out]; go_num) | rw [HC2.out], by go_num, hK.out.1, hK.out.2.1⟩
                case measure => simp [intOf]; omega
    · obtain rfl : c = 16 := by omega
      have h1 := cn_16 hI.out.1.ok
      rw [h1]
      have hl := len_k12 hI.out.1
      have HB : Hid (Below w.heap.size w wr) := hI.out.2
      clear h1 hlt
      generalize L.length = ll at *
      go_wp2_with fail
      refine hl.mono ?_
      rintro e w3 ⟨rfl, rfl⟩
      go_wp2_with fail
      go_ret
      exact ⟨rfl, HB.out⟩
end Go.Proofs.Ytopjidlhhamjhaa
