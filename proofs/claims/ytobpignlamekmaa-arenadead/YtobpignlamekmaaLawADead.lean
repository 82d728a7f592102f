/- PROVED: for every row of quotas and every row of acts the statement ArenaDead returns true: a name that was freed is not alive again, and no two names that are alive have one number (P6.7). No condition. -/
import Derived.Test.YtobpignlamekmaaRows
import Derived.Test.YtobpignlamekmaaADeadM
import Derived.Deep.RegionHeld3
import Derived.Test.YtobpignlamekmaaARow
import Derived.ProofKit
import Derived.ShutString
import Derived.ChangeOld
import Derived.OpenShut
namespace Go.Proofs.Ytobpignlamekmaa.arenaDead
open Go.ChangeShapes Go.WideShapes Go.ChangeAt Go.RowKit

theorem own : ownKnob Try.prog.godebug = none := by kernel_rfl
theorem laidOut : laidOutB Try.prog = true := by kernel_rfl

theorem row_cap {w : World} {base : Nat} {a : Option Addr} {c : Nat} {l : List (Nat × Int)} (h : w.ownsRow base 36 2 (.slice a l.length c) l.length (encP l)) : l.length ≤ c := by
  rcases h.2 with ⟨e, e0⟩ | ⟨g, cap, cur, e, _, _, h3, _⟩
  · omega
  · injection e with e1 e2 e3; omega
theorem row_cells {w : World} {base b c : Nat} {l : List (Nat × Int)} (h : w.ownsRow base 36 2 (.slice (some ⟨b, 0, none⟩) l.length c) l.length (encP l)) : ∀ j u, (encP l)[j]? = some u → w.cell? ⟨b, j, none⟩ = some u := by
  intro j u hj
  have hjl := (List.getElem?_eq_some_iff.1 hj).1
  rw [encP_len] at hjl
  rcases h.2 with ⟨e, _⟩ | ⟨g, cap, cur, e, _, hg, _, _, _, htk⟩
  · cases e
  · injection e with e1 e2 e3
    have e4 : b = g := by injection e1 with e5; injection e5
    rw [e4, cell_of_row _ _ j _ _ (0, 0) hg, ← hj, ← htk, List.getElem?_take_of_lt hjl]
    simp
theorem row_at {w : World} {base : Nat} {a : Option Addr} {c : Nat} {l : List (Nat × Int)} (h : w.ownsRow base 36 2 (.slice a l.length c) l.length (encP l)) (j : Nat) (hj : j < l.length) : ∃ b, a = some ⟨b, 0, none⟩ ∧ w.cell? ⟨b, j * 2, none⟩ = some (.int .i64 (l[j].1 : Int)) ∧ w.cell? ⟨b, j * 2 + 1, none⟩ = some (.int .u64 l[j].2) := by
  obtain ⟨a', cap', e, hc⟩ := pcells h
  injection e with e1 e2 e3
  subst e1
  exact hc j hj

set_option maxRecDepth 100000 in
set_option maxHeartbeats 32000000 in
theorem walk (aq : Option Addr) (nq cq : Nat) (z : Nat → Int) (ad : Option Addr) (len cap : Nat) (K P N G X : Nat → Int) (w0 : World) (hQ : IsRow .i64 w0 aq nq cq z) (hS : AOps w0 ad len cap K P N G X) :
    Calls Try.prog 6 #[.slice aq nq cq, .slice ad len cap] w0 fun e w' => e = .returned (.bool true) ∧ Below w0.heap.size w0 w' := by
  obtain ⟨i0, hi0, hz0, hz1, hz2⟩ := info_parts Try.infoApiSlot
  have HS : Hid (AOps w0 ad len cap K P N G X) := hS
  have hlen : len ≤ 9223372036854775807 := by have h1 := hS.2.1; have h2 := hS.2.2; unfold maxLen at h2; omega
  have HQ : Hid (Cells w0 .i64 aq (min nq 17) z) := hQ.1.mono (by omega)
  have haw := awake_a w0
  have hfew := fun W => few6_any aq nq cq W hQ.2.2.1 hQ.2.1
  clear hS hQ
  go_enter Try.func6, Try.ntmps6
  go_wp2_with fail
  refine haw.mono ?_
  rintro e w1 ⟨rfl, hb1⟩
  go_wp2_with fail
  refine (hfew w1).mono ?_
  rintro e w2 ⟨rfl, e2⟩
  subst e2
  have hm17 : min nq 17 ≤ 17 := by omega
  generalize min nq 17 = n at *
  clear haw hfew
  cases hq : mayQ n z
  · have hn1 := anew_bad aq n cq z w2 (by omega) (HQ.out.below hb1) hq
    go_wp2_with fail
    refine hn1.mono ?_
    rintro e w3 ⟨rfl, e3⟩
    subst e3
    go_wp2_with fail
    go_ret
    exact ⟨rfl, hb1⟩
  · have hn1 := anew_ok aq n cq z w2 (HQ.out.below hb1) hq
    go_wp2_with fail
    refine hn1.mono ?_
    rintro e w3 ⟨o, rfl, ha3, hb3, ho3⟩
    have B3 := Below.onto hb1 hb3
    have HA3 : Hid (Ax w3 o (shOf z n) (daN (shOf z n) (shOf z n).N)) := ha3
    have HO : Hid (∀ g, o.has g → w0.heap.size ≤ g) := fun g hg => Nat.le_trans hb1.size (ho3 g hg)
    have HG0 : Hid (∀ m, (daN (shOf z n) (shOf z n).N).gen m = 0) := fun _ => rfl
    clear hn1 ha3 hb3 ho3 hb1 hq HQ
    generalize shOf z n = h at *
    generalize daN h h.N = x0 at *
    have HB0 : Hid (DeadSt w3 o h w3.heap.size x0 0 [] [] none none 0 0) := ⟨HA3.out, ⟨fun x hx => by (simp at hx), by simp, fun x hx => by (simp at hx), fun m => by rw [HG0.out]; omega, Nat.le_refl _, Nat.le_refl _⟩, World.ownsRow_nil _ _ _ _, World.ownsRow_nil _ _ _ _, .inl rfl, HA3.out.lt, Nat.le_refl _⟩
    have hbw := B3.size
    generalize w3.heap.size = base at *
    clear HA3 HG0
    go_wp2_with fail
    go_loopw [7, 8, 9] (fun va vd vi wr => ∃ (i : Nat) (LA LD : List (Nat × Int)) (a1 a2 : Option Addr) (c1 c2 : Nat), i ≤ 60 ∧ i ≤ len ∧ vi = .int .i64 i ∧ va = .slice a1 LA.length c1 ∧ vd = .slice a2 LD.length c2 ∧ Below w0.heap.size w0 wr ∧ Hid (∃ d, DeadSt wr o h base d i LA LD a1 a2 c1 c2)) (fun _ _ vi _ => 60 - (intOf vi).toNat)
    case atStart => exact ⟨0, [], [], none, none, 0, 0, by omega, by omega, rfl, rfl, rfl, B3, _, HB0.out⟩
    case round =>
      obtain ⟨i, LA, LD, a1, a2, ca, cd, hi6, hil, rfl, rfl, rfl, hbel, HR⟩ := hrel
      obtain ⟨d, hd⟩ := HR.out
      have HD : Hid (DeadSt wr o h base d i LA LD a1 a2 ca cd) := hd
      have hla := hd.di.la
      have hld := hd.di.ld
      clear HR hd HB0
      by_cases hgo : i < len ∧ i < 60
      · obtain ⟨hg1, hg2⟩ := hgo
        obtain ⟨bb, off, rfl, q0, q1, q2, q3, q4, hX⟩ := (HS.out.below hbel).1 i hg1
        have hbx := below_box wr (.cells #[.int .i64 (K i), .int .i64 (P i), .int .i64 (N i), .int .u64 (G i), .int .u64 (X i)] 38)
        have F5 : Hid (Five _ _ _ _ _ _ _) := five_box wr (.int .i64 (K i)) (.int .i64 (P i)) (.int .i64 (N i)) (.int .u64 (G i)) (.int .u64 (X i)) 38
        obtain ⟨W, hW⟩ : ∃ W, wr.alloc (.cells #[.int .i64 (K i), .int .i64 (P i), .int .i64 (N i), .int .u64 (G i), .int .u64 (X i)] 38) = W := ⟨_, rfl⟩
        have KB : Hid ((wr.alloc (.cells #[.int .i64 (K i), .int .i64 (P i), .int .i64 (N i), .int .u64 (G i), .int .u64 (X i)] 38)).heap[wr.heap.size]? = some (.cells #[.int .i64 (K i), .int .i64 (P i), .int .i64 (N i), .int .u64 (G i), .int .u64 (X i)] 38 (0, 0))) := World.alloc_heap_new wr _
        rw [hW] at hbx F5 KB
        have HDW : Hid (DeadSt W o h base d i LA LD a1 a2 ca cd) := HD.out.below hbx
        have BW := Below.onto hbel hbx
        have nB : Hid (¬ o.has wr.heap.size) := fun hb => by have := HD.out.ax.lt _ hb; omega
        obtain ⟨c0, c1, c2, c3, c4⟩ := F5.out
        clear hbx hX HD
        generalize hB : wr.heap.size = B at *
        generalize K i = ki at *
        generalize P i = pi at *
        generalize N i = ni at *
        generalize G i = gi at *
        generalize X i = xi at *
        clear hbel HS c2 c3 c4
        by_cases hk1 : ki = 1
        · subst hk1
          have hc1 := alloc_a o h d pi W HDW.out.ax
          have hdi := HDW.out.di.alloc HDW.out.ax (x := pi)
          by_cases hE : alE h d pi = 0
          · obtain ⟨m, hN, hdi2, hno⟩ := hdi hE
            rw [hE, hN] at hc1
            generalize alG h d pi = gm at *
            go_wp2_with fail
            refine hc1.mono ?_
            rintro e w5 ⟨rfl, ha5, hb5⟩
            have hbx := below_box w5 (.cells #[.int .i64 (m : Int), .int .u64 gm] 36)
            have RA5 : Hid (World.ownsRow _ _ _ _ _ _ _) := aown_below (own_but2 HDW.out.ra hb5 HDW.out.lo) hbx
            have RD5 : Hid (World.ownsRow _ _ _ _ _ _ _) := aown_below (own_but2 HDW.out.rd hb5 HDW.out.lo) hbx
            have A5 : Hid (Ax _ o h (alD h d pi)) := ha5.below hbx
            have B5 := (BW.trans (hb5.below BW.size HO.out)).trans (hbx.mono (Nat.le_trans BW.size hb5.size))
            have T5 : Hid (Two _ _ _ _) := two_box w5 (.int .i64 (m : Int)) (.int .u64 gm) 36
            have F6 : Hid (Five _ _ _ _ _ _ _) := (F5.out.but hb5 nB.out).below hbx
            have KB6 : Hid (_ = some (Obj.cells _ 38 (0, 0))) := kb_below (kb_but KB.out hb5 nB.out) hbx
            have hs5 : base ≤ w5.heap.size := Nat.le_trans HDW.out.bs hb5.size
            have HDI : Hid (Di h (alD h d pi) (i + 1) (LA ++ [(m, gm)]) LD) := hdi2
            have HNO : Hid (∀ y, y ∈ LA → y.1 ≠ m) := hno
            have HSEP : Hid (Value.ownBlock (.slice a1 LA.length ca) = none ∨ Value.ownBlock (.slice a1 LA.length ca) ≠ Value.ownBlock (.slice a2 LD.length cd)) := HDW.out.sep
            have HLO : Hid (∀ b, o.has b → b < base) := HDW.out.lo
            have hs6 := hbx.size
            clear hc1 ha5 hb5 hbx hdi hdi2 hno hE hN HDW F5 c0 c1
            go_wp2_with fail
            generalize hW6 : w5.alloc (.cells #[.int .i64 (m : Int), .int .u64 gm] 36) = w6 at *
            generalize hX5 : w5.heap.size = X5 at *
            go_loopw [13] (fun vk wr => ∃ k : Nat, k ≤ LA.length ∧ vk = .int .i64 k ∧ Below w6.heap.size w6 wr) (fun vk _ => LA.length - (intOf vk).toNat)
            case atStart => exact ⟨0, by omega, rfl, Below.refl _ _⟩
            case round =>
              obtain ⟨k, hk, rfl, hbk⟩ := hrel
              obtain ⟨t0, t1⟩ := T5.out.below hbk
              by_cases hkl : k < LA.length
              · obtain ⟨b1, rfl, r0, r1⟩ := row_at (aown_below RA5.out hbk) k hkl
                have hne := HNO.out LA[k] (List.getElem_mem hkl)
                have hne2 : ((LA[k].1 : Int) == (m : Int)) = false := by simp; omega
                generalize (LA[k].1 : Int) = yn at *
                clear hne
                go_wp2_with fail
                go_quiet (fail)
                go_wp2_with fail
                go_roundw
                case rel => exact ⟨k + 1, by omega, by go_num, below_drewN hbk nq⟩
                case measure => simp [intOf]; omega
              · have e9 : k = LA.length := by omega
                subst e9
                have RA6 : Hid (World.ownsRow _ _ _ _ _ _ _) := aown_below RA5.out hbk
                have RD6 : Hid (World.ownsRow _ _ _ _ _ _ _) := aown_below RD5.out hbk
                have A6 : Hid (Ax _ o h (alD h d pi)) := A5.out.below hbk
                have B6 := B5.trans (hbk.mono B5.size)
                have F7 : Hid (Five _ _ _ _ _ _ _) := F6.out.below hbk
                have KB7 : Hid (_ = some (Obj.cells _ 38 (0, 0))) := kb_below KB6.out hbk
                have hs7 := hbk.size
                clear hkl hk hbk
                go_wp2_with (at_builtin; refine wpList_append_own_at _ rfl _ _ 45 rfl base 36 i0 (.agg #[.int .i64 0, .int .u64 0]) 2 16 Try.underlying45 hi0 hz0 hz1 hz2 rfl (by decide) _ _ _ rfl (RA6.out.alloc _) ⟨wr.heap.size, 0, none⟩ 1 1 [.int .i64 (m : Int), .int .u64 gm] rfl rfl (two_new _ _ _ _) (by simp [Value.oneCell']) (by unfold maxLen; omega) (by omega) (by simp; omega) ?_; intro v' w7 hown' hgrow _ hblk; obtain ⟨g', cap', rfl⟩ := ownsRow_succ hown'; have hgr2 : World.grownBy _ w7 (Value.ownBlock (.slice a1 LA.length ca)) := hgrow; have hblk2 : Value.ownBlock (.slice (some ⟨g', 0, none⟩) (LA.length + 1) cap') = Value.ownBlock (.slice a1 LA.length ca) ∨ Value.ownBlock (.slice (some ⟨g', 0, none⟩) (LA.length + 1) cap') = some (wr.alloc (.cells #[.int .i64 (m : Int), .int .u64 gm] 36)).heap.size := hblk; obtain ⟨s0, s1, s2, s3, s4⟩ : Five w7 B (.int .i64 1) (.int .i64 pi) (.int .i64 ni) (.int .u64 gi) (.int .u64 xi) := five_grown F7.out KB7.out RA6.out hgr2; have S7 : Hid (DeadSt w7 o h base (alD h d pi) (i + 1) (LA ++ [(m, gm)]) LD (some ⟨g', 0, none⟩) a2 cap' cd) := dead_grown A6.out HDI.out RA6.out RD6.out HSEP.out HLO.out (by omega) hown' hgr2 hblk2; have BS : Below w0.heap.size w0 w7 := below_grown2 B6 hgr2 (by omega) RA6.out (by omega); clear hown' hgrow hgr2 hblk hblk2)
                go_loopw [15] (fun vk wr => ∃ k : Nat, k ≤ (LD).length ∧ vk = .int .i64 k ∧ Below w7.heap.size w7 wr) (fun vk _ => (LD).length - (intOf vk).toNat)
                case atStart => exact ⟨0, by omega, rfl, Below.refl _ _⟩
                case round =>
                  obtain ⟨k, hk, rfl, hbk⟩ := hrel
                  have SK : Hid (DeadSt wr o h base _ _ _ _ _ _ _ _) := S7.out.below hbk
                  by_cases hkl : k < (LD).length
                  · obtain ⟨b2, e8, r0, r1⟩ := row_at SK.out.rd k hkl
                    first | cases e8 | subst e8
                    have hrd := read_a o h _ ((LD)[k].1 : Int) (LD)[k].2 wr SK.out.ax
                    rw [SK.out.di.dead (List.getElem_mem hkl)] at hrd
                    generalize ((LD)[k].1 : Int) = yn at *
                    generalize (LD)[k].2 = yg at *
                    go_wp2_with fail
                    refine hrd.mono ?_
                    rintro e w9 ⟨rfl, hb9⟩
                    have B9 := Below.onto hbk hb9
                    clear hrd hb9 r0 r1 SK
                    go_wp2_with fail
                    go_roundw
                    case rel => exact ⟨k + 1, by omega, by go_num, B9⟩
                    case measure => simp [intOf]; omega
                  · obtain rfl : k = (LD).length := by omega
                    have BZ := BS.trans (hbk.mono BS.size)
                    go_wp2_with fail
                    go_roundw
                    case rel => exact ⟨i + 1, _, _, _, _, _, _, by omega, by omega, by go_num, (by simp), rfl, BZ, _, SK.out⟩
                    case measure => simp [intOf]; omega
          · clear hdi
            generalize hEE : alE h d pi = eE at *
            generalize alN h d pi = eN at *
            generalize alG h d pi = eG at *
            have S5 : Hid (∀ w', Ax w' o h (alD h d pi) → But o.has W w' → DeadSt w' o h base (alD h d pi) (i + 1) LA LD a1 a2 ca cd) := fun w' ax hb => (HDW.out.act hb ax ⟨fun y hy => by
                obtain ⟨h1, h2, h3⟩ := alv_iff.1 (HDW.out.di.al y hy)
                refine alv_iff.2 ⟨h1, ?_, h3⟩
                unfold Da.fr at h2 ⊢
                simp only [decide_eq_false_iff_not] at h2 ⊢
                exact fun hh => h2 (popR_sub hh), HDW.out.di.nd, HDW.out.di.de, HDW.out.di.gn, HDW.out.di.la, HDW.out.di.ld⟩).next
            clear hEE
            go_wp2_with fail
            refine hc1.mono ?_
            rintro e w5 ⟨rfl, ha5, hb5⟩
            have hbx := below_box w5 (.cells #[.int .i64 eN, .int .u64 eG] 36)
            have S6 : Hid (DeadSt _ o h base _ _ _ _ _ _ _ _) := (S5.out w5 ha5 hb5).below hbx
            have B6 := (BW.trans (hb5.below BW.size HO.out)).trans (hbx.mono (Nat.le_trans BW.size hb5.size))
            clear hc1 ha5 hb5 hbx S5 HDW F5 c0 c1
            go_wp2_with fail
            go_roundw
            case rel => exact ⟨i + 1, _, _, _, _, _, _, by omega, by omega, by go_num, rfl, rfl, B6, _, S6.out⟩
            case measure => simp [intOf]; omega
        · by_cases hk4 : ki = 4
          · subst hk4
            by_cases hL0 : LA.length = 0
            · have hz : ¬ (0 : Int) < (LA.length : Int) := by omega
              have S6 : Hid (DeadSt W o h base _ _ _ _ _ _ _ _) := HDW.out.next
              have BS := BW
              clear hL0
              go_wp2_with fail
              go_loopw [15] (fun vk wr => ∃ k : Nat, k ≤ (LD).length ∧ vk = .int .i64 k ∧ Below W.heap.size W wr) (fun vk _ => (LD).length - (intOf vk).toNat)
              case atStart => exact ⟨0, by omega, rfl, Below.refl _ _⟩
              case round =>
                obtain ⟨k, hk, rfl, hbk⟩ := hrel
                have SK : Hid (DeadSt wr o h base _ _ _ _ _ _ _ _) := S6.out.below hbk
                by_cases hkl : k < (LD).length
                · obtain ⟨b2, e8, r0, r1⟩ := row_at SK.out.rd k hkl
                  first | cases e8 | subst e8
                  have hrd := read_a o h _ ((LD)[k].1 : Int) (LD)[k].2 wr SK.out.ax
                  rw [SK.out.di.dead (List.getElem_mem hkl)] at hrd
                  generalize ((LD)[k].1 : Int) = yn at *
                  generalize (LD)[k].2 = yg at *
                  go_wp2_with fail
                  refine hrd.mono ?_
                  rintro e w9 ⟨rfl, hb9⟩
                  have B9 := Below.onto hbk hb9
                  clear hrd hb9 r0 r1 SK
                  go_wp2_with fail
                  go_roundw
                  case rel => exact ⟨k + 1, by omega, by go_num, B9⟩
                  case measure => simp [intOf]; omega
                · obtain rfl : k = (LD).length := by omega
                  have BZ := BS.trans (hbk.mono BS.size)
                  go_wp2_with fail
                  go_roundw
                  case rel => exact ⟨i + 1, _, _, _, _, _, _, by omega, by omega, by go_num, rfl, rfl, BZ, _, SK.out⟩
                  case measure => simp [intOf]; omega
            · have hz : (0 : Int) < (LA.length : Int) := by omega
              have hzz : ¬ (LA.length : Int) = 0 := by omega
              obtain ⟨kk, hkk, hmod⟩ := u64_rem pi (m := LA.length) (by omega)
              obtain ⟨b1, rfl, r0, r1⟩ := row_at HDW.out.ra kk hkk
              obtain ⟨hal, hdi⟩ := HDW.out.di.free HDW.out.ax.da hkk hi6
              have hc1 := free_a o h d (LA[kk].1 : Int) LA[kk].2 W HDW.out.ax
              rw [hal] at hc1
              have HDI : Hid (Di h (frD h d (LA[kk].1 : Int) LA[kk].2) (i + 1) (LA.take kk ++ LA.drop (kk + 1)) (LD ++ [(LA[kk].1, LA[kk].2)])) := hdi
              have HSEP : Hid (Value.ownBlock (.slice (some ⟨b1, 0, none⟩) LA.length ca) = none ∨ Value.ownBlock (.slice (some ⟨b1, 0, none⟩) LA.length ca) ≠ Value.ownBlock (.slice a2 LD.length cd)) := HDW.out.sep
              have HLO : Hid (∀ b, o.has b → b < base) := HDW.out.lo
              obtain ⟨ym, hym⟩ : ∃ ym, ym = LA[kk].1 := ⟨_, rfl⟩
              obtain ⟨yg, hyg⟩ : ∃ yg, yg = LA[kk].2 := ⟨_, rfl⟩
              rw [← hym, ← hyg] at HDI
              rw [← hym] at r0 hc1
              rw [← hyg] at r1 hc1
              have hcap := row_cap HDW.out.ra
              clear hal hdi hym hyg hL0
              go_wp2_with fail
              refine hc1.mono ?_
              rintro e w5 ⟨rfl, ha5, hb5⟩
              have nb1 : ¬ o.has b1 := fun hb => by have h1 := HLO.out b1 hb; have h2 := (HDW.out.ra.lt b1 rfl).1; omega
              have s0 := hb5.cell r0 nb1
              have s1 := hb5.cell r1 nb1
              have RA5 : Hid (World.ownsRow _ _ _ _ _ _ _) := own_but2 HDW.out.ra hb5 HDW.out.lo
              have RD5 : Hid (World.ownsRow _ _ _ _ _ _ _) := own_but2 HDW.out.rd hb5 HDW.out.lo
              have A5 : Hid (Ax w5 o h (frD h d (ym : Int) yg)) := ha5
              have B5 := BW.trans (hb5.below BW.size HO.out)
              have hs5 : base ≤ w5.heap.size := Nat.le_trans HDW.out.bs hb5.size
              clear hc1 ha5 hb5 HDW F5 c0 c1 r0 r1 hmod
              go_wp2_with (at_builtin; refine wpList_append_own_at _ rfl _ _ 45 rfl base 36 i0 (.agg #[.int .i64 0, .int .u64 0]) 2 16 Try.underlying45 hi0 hz0 hz1 hz2 rfl (by decide) _ _ _ rfl (RD5.out.alloc _) ⟨w5.heap.size, 0, none⟩ 1 1 [.int .i64 (ym : Int), .int .u64 yg] rfl rfl (two_new _ _ _ _) (by simp [Value.oneCell']) (by unfold maxLen; omega) (by omega) (by simp; omega) ?_; intro v' w7 hown' hgrow _ _; obtain ⟨g', cap', rfl⟩ := ownsRow_succ hown'; have hgr2 : World.grownBy _ w7 (Value.ownBlock (.slice a2 LD.length cd)) := hgrow; have H7 : Hid (_ ∧ _ ∧ _) := dead_grown2 A5.out RA5.out RD5.out HSEP.out HLO.out hown' hgr2; have BS7 : Below w0.heap.size w0 w7 := below_grown2 B5 hgr2 (by omega) RD5.out (by omega); have hs7 : base ≤ w7.heap.size := (by have := hgr2.size; simp at this; omega); clear hown' hgrow hgr2)
              have hcell7 : ∀ j u, (encP LA)[j]? = some u → w7.cell? ⟨b1, j, none⟩ = some u := row_cells H7.out.2.1
              refine cut_rows (g := b1) (n := LA.length) (cap := ca) (k := kk) (L := LA) (by simp) rfl rfl (by kernel_rfl) (by kernel_rfl) (by kernel_rfl) rfl rfl rfl rfl rfl rfl rfl rfl rfl rfl rfl rfl rfl rfl rfl rfl rfl rfl rfl rfl rfl rfl rfl rfl rfl (by kernel_rfl) (by kernel_rfl) (by kernel_rfl) (by kernel_rfl) rfl rfl rfl rfl hkk hcap (by omega) hcell7 (fun _ _ d _ _ h => by cases d <;> exact h) ?_
              intro off2 vB vC v3 w8 hrow hb8
              obtain ⟨a3, c3, rfl, hst⟩ := dead_cut H7.out.1 HDI.out H7.out.2.2 HLO.out hs7 hrow hb8
              have S6 : Hid (DeadSt w8 o h base _ _ _ _ _ _ _ _) := hst
              have BS := BS7.trans (hb8.mono BS7.size)
              have e10 : (LD ++ [(ym, yg)]).length = LD.length + 1 := by simp
              have e11 : (LD ++ [(ym, yg)]).length ≤ 61 := by omega
              clear hst hrow hb8 hcell7 H7 BS7 RA5 RD5 A5
              simp only [cutAf, Act.put, List.setIfInBounds_toArray, List.set_cons_zero, List.set_cons_succ]
              generalize hLN : LA.take kk ++ LA.drop (kk + 1) = LN at *
              generalize hLM : LD ++ [(ym, yg)] = LM at *
              rw [← e10]
              clear e10
              go_wp2_with fail
              go_loopw [15] (fun vk wr => ∃ k : Nat, k ≤ (LM).length ∧ vk = .int .i64 k ∧ Below w8.heap.size w8 wr) (fun vk _ => (LM).length - (intOf vk).toNat)
              case atStart => exact ⟨0, by omega, rfl, Below.refl _ _⟩
              case round =>
                obtain ⟨k, hk, rfl, hbk⟩ := hrel
                have SK : Hid (DeadSt wr o h base _ _ _ _ _ _ _ _) := S6.out.below hbk
                by_cases hkl : k < (LM).length
                · obtain ⟨b2, e8, r0, r1⟩ := row_at SK.out.rd k hkl
                  first | cases e8 | subst e8
                  have hrd := read_a o h _ ((LM)[k].1 : Int) (LM)[k].2 wr SK.out.ax
                  rw [SK.out.di.dead (List.getElem_mem hkl)] at hrd
                  generalize ((LM)[k].1 : Int) = yn at *
                  generalize (LM)[k].2 = yg at *
                  go_wp2_with fail
                  refine hrd.mono ?_
                  rintro e w9 ⟨rfl, hb9⟩
                  have B9 := Below.onto hbk hb9
                  clear hrd hb9 r0 r1 SK
                  go_wp2_with fail
                  go_roundw
                  case rel => exact ⟨k + 1, by omega, by go_num, B9⟩
                  case measure => simp [intOf]; omega
                · obtain rfl : k = (LM).length := by omega
                  have BZ := BS.trans (hbk.mono BS.size)
                  go_wp2_with fail
                  go_roundw
                  case rel => exact ⟨i + 1, _, _, _, _, _, _, by omega, by omega, by go_num, rfl, rfl, BZ, _, SK.out⟩
                  case measure => simp [intOf]; omega
          · have S6 : Hid (DeadSt W o h base _ _ _ _ _ _ _ _) := HDW.out.next
            have BS := BW
            go_wp2_with fail
            go_loopw [15] (fun vk wr => ∃ k : Nat, k ≤ (LD).length ∧ vk = .int .i64 k ∧ Below W.heap.size W wr) (fun vk _ => (LD).length - (intOf vk).toNat)
            case atStart => exact ⟨0, by omega, rfl, Below.refl _ _⟩
            case round =>
              obtain ⟨k, hk, rfl, hbk⟩ := hrel
              have SK : Hid (DeadSt wr o h base _ _ _ _ _ _ _ _) := S6.out.below hbk
              by_cases hkl : k < (LD).length
              · obtain ⟨b2, e8, r0, r1⟩ := row_at SK.out.rd k hkl
                first | cases e8 | subst e8
                have hrd := read_a o h _ ((LD)[k].1 : Int) (LD)[k].2 wr SK.out.ax
                rw [SK.out.di.dead (List.getElem_mem hkl)] at hrd
                generalize ((LD)[k].1 : Int) = yn at *
                generalize (LD)[k].2 = yg at *
                go_wp2_with fail
                refine hrd.mono ?_
                rintro e w9 ⟨rfl, hb9⟩
                have B9 := Below.onto hbk hb9
                clear hrd hb9 r0 r1 SK
                go_wp2_with fail
                go_roundw
                case rel => exact ⟨k + 1, by omega, by go_num, B9⟩
                case measure => simp [intOf]; omega
              · obtain rfl : k = (LD).length := by omega
                have BZ := BS.trans (hbk.mono BS.size)
                go_wp2_with fail
                go_roundw
                case rel => exact ⟨i + 1, _, _, _, _, _, _, by omega, by omega, by go_num, rfl, rfl, BZ, _, SK.out⟩
                case measure => simp [intOf]; omega
      · have HE : Hid (i = len ∨ (i < len ∧ i = 60)) := by show i = len ∨ (i < len ∧ i = 60); omega
        clear hgo HS
        have hend : i = len ∨ (i < len ∧ i = 60) := HE.out
        clear HE
        rcases hend with rfl | ⟨hx9, rfl⟩
        all_goals
          go_wp2_with fail
          go_ret
          exact ⟨rfl, hbel⟩

set_option maxRecDepth 100000 in
theorem lifted (os : Os) (started : os.Started) (H : Type) (enc : TypeId × Value → H) :
    ReturnsInHanded {} Try.checked os 6 .any (Rows.arenaDeadSpec.pre6 enc Try.prog Try.f6 Rows.arenaDeadRow.domain false) (Rows.arenaDeadSpec.post enc Try.prog Try.f6 false true false false) := by
  refine returnsInHanded_of_change (C := Try.checked) own started (by kernel_rfl) Try.func6
    (ChangeSpec.witness6 (enc := enc) (C := Try.checked) false ⟨#[], #[.slice none 0 0, .slice none 0 0], []⟩ 8 (by kernel_rfl) (by kernel_rfl) (by kernel_rfl) (by kernel_rfl)) ?_
  intro W base args ds gs before hval0 hW hcnd _
  have hval : ∀ (j : Nat) t v, Try.f6.params[j]? = some t → args[j]? = some v → Value.okWide Try.prog W .any base t v := hval0
  have hW' := hW
  obtain ⟨p, q, hA0, hV, rfl, hfz, hnd⟩ := hW
  have hA : DataW.TrodAll enc Try.prog W 0 (fun _ => true) true Try.f6.params.toList args.toList ds p := hA0
  rw [Try.params6] at hA hval
  obtain ⟨v0, vs0, d0, ds0, p0, q0, hargs, rfl, rfl, h0, r0⟩ := trodAll_cons hA
  obtain ⟨v1, vs1, d1, ds1, p1, q1, rfl, rfl, rfl, h1, r1⟩ := trodAll_cons r0
  obtain ⟨rfl, rfl, rfl⟩ := trodAll_nil r1
  obtain rfl : args = #[v0, v1] := by cases args; simp_all
  obtain ⟨rfl, rfl⟩ := trodVars_none hV
  obtain ⟨a0, len0, cap0, rfl⟩ := okWide_slice Try.underlying22 (hval 0 22 v0 rfl rfl)
  have k0 := h0
  have lt0 : ∀ x ∈ p0, x.block < W.heap.size := by obtain ⟨m, hm⟩ := k0; exact DataW.trod_lt m _ _ _ hm
  obtain ⟨z0, w0⟩ : ∃ z, IsRow .i64 W a0 len0 cap0 z := by
    obtain ⟨fuel, hf⟩ := h0
    rcases open_ints Try.underlying22 Try.underlying3 (by kernel_rfl) hf with ⟨hcs, _⟩ | ⟨x, l, c, zs, hcs, _, hl, hm, hz, _, hcell, hwz⟩
    · simp [Value.cells] at hcs
      obtain ⟨rfl, rfl, rfl⟩ := hcs
      exact ⟨_, isRow_nil _ _⟩
    · simp [Value.cells] at hcs
      obtain ⟨rfl, rfl, rfl⟩ := hcs
      exact ⟨_, isRow_some hl hm (by simpa using hz) hcell hwz⟩
  have k1 := h1
  have lt1 : ∀ x ∈ p1, x.block < W.heap.size := by obtain ⟨m, hm⟩ := k1; exact DataW.trod_lt m _ _ _ hm
  obtain ⟨a, len, cap, K, P, N, G, X, rfl, w1⟩ := open_aops (hval 1 23 v1 rfl rfl) h1
  clear hA0 hval0
  refine (walk a0 len0 cap0 z0 a len cap K P N G X W w0 w1).mono fun e W' ⟨he, bel⟩ => ?_
  subst he
  exact ⟨_, rfl, _, _, _, [], _, [], hW', trodAll_mk1 (shut_bool Try.underlying4 _), (trodAll_cons_mk (Below.trod laidOut (by kernel_rfl) (of_decide_eq_true (by kernel_rfl)) k0 bel lt0) (trodAll_cons_mk (Below.trod laidOut (by kernel_rfl) (of_decide_eq_true (by kernel_rfl)) k1 bel lt1) trodAll_mk0)), rfl, bel.frame _, fun h => by cases h⟩

end Go.Proofs.Ytobpignlamekmaa.arenaDead
namespace Go.Proofs.Ytobpignlamekmaa

/-- The statement ArenaDead. -/
theorem ArenaDeadHolds : Rows.ArenaDeadSaid :=
  OpenClaim.holds_of_wide 6 Try.f6 rfl rfl rfl rfl rfl rfl rfl ⟨rfl, rfl, rfl, rfl, rfl⟩ rfl rfl rfl rfl rfl (by kernel_rfl) Try.func6 (by kernel_rfl)
    (of_decide_eq_true (by kernel_rfl)) (by unfold Func.isWrapper; first | (rw [if_pos (by decide +kernel)]; kernel_rfl) | (rw [if_neg (by decide +kernel)]; exact ⟨rfl, rfl⟩))
    (fun os started H enc _ => arenaDead.lifted os started H enc)

end Go.Proofs.Ytobpignlamekmaa
