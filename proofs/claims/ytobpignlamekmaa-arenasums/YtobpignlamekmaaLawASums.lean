/- PROVED: for every row of quotas and every row of acts the statement ArenaSums returns true: of each partition held and free slots are always its size, and a free one is scrubbed (P6.4, P6.5). No condition. -/
import Derived.Test.YtobpignlamekmaaRows
import Derived.Test.YtobpignlamekmaaASumM
import Derived.Test.YtobpignlamekmaaARow
import Derived.ProofKit
import Derived.ShutString
import Derived.ChangeOld
import Derived.OpenShut
namespace Go.Proofs.Ytobpignlamekmaa.arenaSums
open Go.ChangeShapes Go.WideShapes Go.ChangeAt Go.RowKit

theorem own : ownKnob Try.prog.godebug = none := by kernel_rfl
theorem laidOut : laidOutB Try.prog = true := by kernel_rfl

/-- one act, whatever it is: the arena stays one -/
theorem shut_len {len i : Nat} (h : ¬ (i < len ∧ i < 60)) (h1 : i ≤ 60) (h2 : i ≤ len) : i = len ∨ (i < len ∧ i = 60) := by omega

set_option maxRecDepth 100000 in
set_option maxHeartbeats 16000000 in
theorem walk (aq : Option Addr) (nq cq : Nat) (z : Nat → Int) (ad : Option Addr) (len cap : Nat) (K P N G X : Nat → Int) (w0 : World) (hQ : IsRow .i64 w0 aq nq cq z) (hS : AOps w0 ad len cap K P N G X) :
    Calls Try.prog 4 #[.slice aq nq cq, .slice ad len cap] w0 fun e w' => e = .returned (.bool true) ∧ Below w0.heap.size w0 w' := by
  have HS : Hid (AOps w0 ad len cap K P N G X) := hS
  have hlen : len ≤ 9223372036854775807 := by have h1 := hS.2.1; have h2 := hS.2.2; unfold maxLen at h2; omega
  have HQ : Hid (Cells w0 .i64 aq (min nq 17) z) := hQ.1.mono (by omega)
  have haw := awake_a w0
  have hfew := fun W => few6_any aq nq cq W hQ.2.2.1 hQ.2.1
  clear hS hQ
  go_enter Try.func4, Try.ntmps4
  go_wp2_with fail
  refine haw.mono ?_
  rintro e w1 ⟨rfl, hb1⟩
  go_wp2_with fail
  refine (hfew w1).mono ?_
  rintro e w2 ⟨rfl, e2⟩
  subst e2
  have hm17 : min nq 17 ≤ 17 := by omega
  generalize min nq 17 = n at *
  clear haw hfew
  cases hq : mayQ n z
  · have hn1 := anew_bad aq n cq z w2 (by omega) (HQ.out.below hb1) hq
    go_wp2_with fail
    refine hn1.mono ?_
    rintro e w3 ⟨rfl, e3⟩
    subst e3
    go_wp2_with fail
    go_ret
    exact ⟨rfl, hb1⟩
  · have hn1 := anew_ok aq n cq z w2 (HQ.out.below hb1) hq
    obtain ⟨m1, m2, m3⟩ := mayQ_iff.1 hq
    have HC : Hid (Cells w0 .i64 aq n fun j => (((shOf z n).sz j : Nat) : Int)) := HQ.out.congr fun j hj => by have := m3 j hj; show z j = (((z j).toNat : Nat) : Int); omega
    have HF : Hid (∀ k, k < n → (shOf z n).fs (k + 1) = (shOf z n).fs k + (shOf z n).sz k) := fun _ _ => rfl
    have HFN : Hid ((shOf z n).fs n = (shOf z n).N) := rfl
    have HF0 : Hid ((shOf z n).fs 0 = 0) := rfl
    have HP : Hid ((shOf z n).P = n) := rfl
    go_wp2_with fail
    refine hn1.mono ?_
    rintro e w3 ⟨o, rfl, ha3, hb3, ho3⟩
    have B3 := Below.onto hb1 hb3
    have HA3 : Hid (Ax w3 o (shOf z n) (daN (shOf z n) (shOf z n).N)) := ha3
    have HO : Hid (∀ g, o.has g → w0.heap.size ≤ g) := fun g hg => Nat.le_trans hb1.size (ho3 g hg)
    clear hn1 ha3 hb3 ho3 hb1 hq m3 HQ
    generalize shOf z n = h at *
    generalize daN h h.N = x0 at *
    go_wp2_with fail
    go_loopw [7] (fun vi wr => ∃ i : Nat, i ≤ 60 ∧ i ≤ len ∧ vi = .int .i64 i ∧ Below w0.heap.size w0 wr ∧ Hid (∃ d, Ax wr o h d)) (fun vi _ => 60 - (intOf vi).toNat)
    case atStart => exact ⟨0, by omega, by omega, rfl, B3, _, HA3.out⟩
    case round =>
      obtain ⟨i, hi6, hil, rfl, hbel, HR⟩ := hrel
      obtain ⟨d, hd⟩ := HR.out
      have HD : Hid (Ax wr o h d) := hd
      clear HR hd
      by_cases hgo : i < len ∧ i < 60
      · obtain ⟨hg1, hg2⟩ := hgo
        obtain ⟨bb, off, rfl, q0, q1, q2, q3, q4, hX⟩ := (HS.out.below hbel).1 i hg1
        have hbx := below_box wr (.cells #[.int .i64 (K i), .int .i64 (P i), .int .i64 (N i), .int .u64 (G i), .int .u64 (X i)] 38)
        have F5 : Hid (Five _ _ _ _ _ _ _) := five_box wr (.int .i64 (K i)) (.int .i64 (P i)) (.int .i64 (N i)) (.int .u64 (G i)) (.int .u64 (X i)) 38
        obtain ⟨W, hW⟩ : ∃ W, wr.alloc (.cells #[.int .i64 (K i), .int .i64 (P i), .int .i64 (N i), .int .u64 (G i), .int .u64 (X i)] 38) = W := ⟨_, rfl⟩
        rw [hW] at hbx F5
        have HDW : Hid (Ax W o h d) := HD.out.below hbx
        have BW := Below.onto hbel hbx
        have nB : Hid (¬ o.has wr.heap.size) := fun hb => by have := HD.out.lt _ hb; omega
        have HX : Hid (0 ≤ X i ∧ X i < 18446744073709551616) := hX
        obtain ⟨c0, c1, c2, c3, c4⟩ := F5.out
        clear hbx hX HD
        generalize hB : wr.heap.size = B at *
        generalize K i = ki at *
        generalize P i = pi at *
        generalize N i = ni at *
        generalize G i = gi at *
        generalize X i = xi at *
        clear hbel HS
        by_cases hk1 : ki = 1
        · subst hk1
          have hc1 := alloc_a o h d pi W HDW.out
          go_wp2_with fail
          refine hc1.mono ?_
          rintro e w5 ⟨rfl, ha5, hb5⟩
          have hbx := below_box w5 (.cells #[.int .i64 (alN h d pi), .int .u64 (alG h d pi)] 36)
          have A5 : Hid (Ax _ o h (alD h d pi)) := ha5.below hbx
          have B5 := (BW.trans (hb5.below BW.size HO.out)).trans (hbx.mono (Nat.le_trans BW.size hb5.size))
          have hc2 := read_a o h (alD h d pi) (alN h d pi) (alG h d pi) _ A5.out
          obtain ⟨t0, t1⟩ := two_box w5 (.int .i64 (alN h d pi)) (.int .u64 (alG h d pi)) 36
          have hal := alloc_alive HDW.out (x := pi)
          generalize hE : alE h d pi = eE at *
          generalize alN h d pi = eN at *
          generalize alG h d pi = eG at *
          have HH : Hid (eE = 0 → alvE h (alD h d pi) eN eG = 0 ∧ rdI h (alD h d pi) eN eG = 0) := fun h0 => by
            obtain ⟨h1, h2⟩ := hal h0
            exact ⟨by simp [alvE, h1], h2⟩
          clear hal hE ha5 hb5 hbx hc1
          go_wp2_with fail
          refine hc2.mono ?_
          rintro e w6 ⟨rfl, hb6⟩
          have A6 : Hid (Ax w6 o h (alD h d pi)) := A5.out.below hb6
          have B6 := Below.onto B5 hb6
          clear hc2 hb6 A5 t0 t1
          by_cases h0 : eE = 0
          · obtain ⟨e1, e2⟩ := HH.out h0
            rw [e1, e2]
            subst h0
            clear HH e1 e2
            go_wp2_with fail
            go_roundw
            case rel => exact ⟨i + 1, by omega, by omega, by go_num, B6, _, A6.out⟩
            case measure => simp [intOf]; omega
          · clear HH
            generalize alvE h (alD h d pi) eN eG = f1 at *
            generalize rdI h (alD h d pi) eN eG = f2 at *
            go_wp2_with fail
            go_roundw
            case rel => exact ⟨i + 1, by omega, by omega, by go_num, B6, _, A6.out⟩
            case measure => simp [intOf]; omega
        · by_cases hk2 : ki = 2
          · subst hk2
            have hc1 := write_a o h d ni gi xi _ HDW.out HX.out
            go_wp2_with fail
            refine hc1.mono ?_
            rintro e w6 ⟨rfl, ha6, hb6⟩
            have A6 : Hid (Ax w6 o h _) := ha6
            have B6 := BW.trans (hb6.below BW.size HO.out)
            clear ha6 hb6 hc1
            go_wp2_with fail
            go_roundw
            case rel => exact ⟨i + 1, by omega, by omega, by go_num, B6, _, A6.out⟩
            case measure => simp [intOf]; omega
          · by_cases hk4 : ki = 4
            · subst hk4
              have hc1 := free_a o h d ni gi _ HDW.out
              go_wp2_with fail
              refine hc1.mono ?_
              rintro e w6 ⟨rfl, ha6, hb6⟩
              have A6 : Hid (Ax w6 o h _) := ha6
              have B6 := BW.trans (hb6.below BW.size HO.out)
              clear ha6 hb6 hc1
              go_wp2_with fail
              go_roundw
              case rel => exact ⟨i + 1, by omega, by omega, by go_num, B6, _, A6.out⟩
              case measure => simp [intOf]; omega
            · have hc1 := read_a o h d ni gi _ HDW.out
              go_wp2_with fail
              refine hc1.mono ?_
              rintro e w6 ⟨rfl, hb6⟩
              have A6 : Hid (Ax w6 o h d) := HDW.out.below hb6
              have B6 := Below.onto BW hb6
              clear hb6 hc1
              go_wp2_with fail
              go_roundw
              case rel => exact ⟨i + 1, by omega, by omega, by go_num, B6, _, A6.out⟩
              case measure => simp [intOf]; omega
      · have HE : Hid (i = len ∨ (i < len ∧ i = 60)) := shut_len hgo hi6 hil
        have hn4 := HD.out.sh.n4
        clear hgo HS
        have hend : i = len ∨ (i < len ∧ i = 60) := HE.out
        clear HE
        generalize wr = wz at *
        rcases hend with rfl | ⟨hx9, rfl⟩
        all_goals
          go_wp2_with fail
          go_loopw [13, 14] (fun vn vp wr => ∃ p : Nat, p ≤ n ∧ vp = .int .i64 p ∧ vn = .int .i64 (h.fs p : Int) ∧ Below wz.heap.size wz wr) (fun _ vp _ => n - (intOf vp).toNat)
          case atStart => exact ⟨0, by omega, rfl, by rw [HF0.out]; rfl, Below.refl _ _⟩
          case round =>
            obtain ⟨p, hp, rfl, rfl, hbp⟩ := hrel
            by_cases hpn : p < n
            · have hpP : p < h.P := by have := HP.out; omega
              have HDp : Hid (Ax wr o h d) := HD.out.below hbp
              have hcell0 := HC.out.below (hbel.trans (hbp.mono hbel.size)) p hpn
              obtain ⟨b, off, rfl, hcell⟩ := hcell0
              have hc1 := counts_a o h d p wr HDp.out
              have hin : inR h.P (p : Int) = true := inR_iff.2 (by omega)
              rw [show knE h (p : Int) = 0 by simp [knE, hin], show cnF h d (p : Int) = ((d.R p).length : Int) by simp [cnF, lenR, hin], show cnH h d (p : Int) = (h.sz p : Int) - ((d.R p).length : Int) by simp [cnH, lenR, hin]] at hc1
              have hc2 := held_k o h d p 1000 wr HDp.out (by omega)
              have hhl := held_len HDp.out hpP
              have hs2 := HDp.out.sh.s256 p hpP
              have HT : Hid ((heldL h d (p : Int)).take (1000 : Int).toNat = heldL h d (p : Int)) := by show _ = _; exact List.take_of_length_le (by show _ ≤ 1000; omega)
              rw [HT.out] at hc2
              have hfs := HDp.out.sh.e4 p hpP
              have HFS : Hid (h.fs (p + 1) = h.fs p + h.sz p) := HF.out p hpn
              clear hin HT
              generalize heldL h d (p : Int) = L at *
              generalize (d.R p).length = RL at *
              go_wp2_with fail
              refine hc1.mono ?_
              rintro e w5 ⟨rfl, e5⟩
              subst e5
              go_wp2_with fail
              refine hc2.mono ?_
              rintro e w6 ⟨v, rfl, hrow, hb6⟩
              obtain ⟨va, vc, rfl, _⟩ := pcells hrow
              have hcell6 := (hb6.cell (p := ⟨b, off + p, none⟩) (cell_lt hcell)).trans hcell
              have B6 := Below.onto hbp hb6
              have j1 : ((h.sz p : Int) - (RL : Int)) + (RL : Int) = (h.sz p : Int) := by omega
              have j2 : ¬ ((h.sz p : Int) - (RL : Int)) < 0 := by omega
              have j3 : ((L.length : Int)) = (h.sz p : Int) - (RL : Int) := by omega
              have j4 : ¬ (RL : Int) < 0 := by omega
              have HC6 : Hid (Cells w0 .i64 (some ⟨b, off, none⟩) n fun j => ((h.sz j : Nat) : Int)) := HC.out
              clear hc1 hc2 hrow hb6 hcell
              go_wp2_with fail
              go_loopw [13, 20] (fun vn vk wr => ∃ k : Nat, k ≤ h.sz p ∧ vk = .int .i64 k ∧ vn = .int .i64 ((h.fs p + k : Nat) : Int) ∧ Below wz.heap.size wz wr) (fun _ vk _ => h.sz p - (intOf vk).toNat)
              case atStart => exact ⟨0, by omega, rfl, rfl, B6⟩
              case round =>
                clear hcell6
                obtain ⟨k, hk, rfl, rfl, hbk⟩ := hrel
                obtain ⟨b2, off2, e8, hcell⟩ := HC6.out.below (hbel.trans (hbk.mono hbel.size)) p hpn
                cases e8
                by_cases hkl : k < h.sz p
                · have HDk : Hid (Ax wr o h d) := HD.out.below hbk
                  obtain ⟨hnN, hptk⟩ := HDk.out.sh.in_ p k hpP hkl
                  have hc1 := look_a o h d ((h.fs p + k : Nat) : Int) wr HDk.out
                  have hinN : inR h.N ((h.fs p + k : Nat) : Int) = true := inR_iff.2 (by omega)
                  have hc2 := fun W (hW : Ax W o h d) => part_a o h d ((h.fs p + k : Nat) : Int) W hW
                  rw [show ptI h ((h.fs p + k : Nat) : Int) = (p : Int) by simp only [ptI, hinN, if_true, Int.toNat_natCast, hptk], hinN] at hc2
                  rw [show lkH h d ((h.fs p + k : Nat) : Int) = !d.fr h (h.fs p + k) by simp only [lkH, hinN, Bool.true_and, Int.toNat_natCast], show lkP h d ((h.fs p + k : Nat) : Int) = d.pay (h.fs p + k) by simp only [lkP, hinN, if_true, Int.toNat_natCast]] at hc1
                  have HZ : Hid (d.fr h (h.fs p + k) = true → d.pay (h.fs p + k) = 0) := fun hf => look_zero HDk.out hnN hf
                  generalize lkG h d ((h.fs p + k : Nat) : Int) = gg at *
                  generalize d.fr h (h.fs p + k) = ff at *
                  generalize d.pay (h.fs p + k) = pp at *
                  clear hinN hptk
                  cases ff
                  all_goals
                    try (have hpz := HZ.out rfl; subst hpz)
                    clear HZ
                    go_wp2_with fail
                    refine hc1.mono ?_
                    rintro e w7 ⟨rfl, hb7⟩
                    have B7 := Below.onto hbk hb7
                    have hc3 := hc2 w7 (HDk.out.below hb7)
                    clear hb7
                    go_wp2_with fail
                    refine hc3.mono ?_
                    rintro e w8 ⟨rfl, e8⟩
                    subst e8
                    clear hc3
                    go_wp2_with fail
                    go_roundw
                    case rel => exact ⟨k + 1, by omega, by go_num, by go_num, B7⟩
                    case measure => simp [intOf]; omega
                · obtain rfl : k = h.sz p := by omega
                  go_wp2_with fail
                  go_roundw
                  case rel => exact ⟨p + 1, by omega, by go_num, by rw [HFS.out], hbk⟩
                  case measure => simp [intOf]; omega
            · obtain rfl : p = n := by omega
              rw [HFN.out]
              have hc2 := part_a o h d (h.N : Int) wr (HD.out.below hbp)
              have hinN : inR h.N (h.N : Int) = false := by
                cases hh : inR h.N (h.N : Int)
                · rfl
                · have := inR_iff.1 hh; omega
              rw [hinN] at hc2
              clear hinN
              go_wp2_with fail
              refine hc2.mono ?_
              rintro e w8 ⟨rfl, e8⟩
              subst e8
              go_wp2_with fail
              go_ret
              exact ⟨rfl, hbel.trans (hbp.mono hbel.size)⟩

set_option maxRecDepth 100000 in
theorem lifted (os : Os) (started : os.Started) (H : Type) (enc : TypeId × Value → H) :
    ReturnsInHanded {} Try.checked os 4 .any (Rows.arenaSumsSpec.pre6 enc Try.prog Try.f4 Rows.arenaSumsRow.domain false) (Rows.arenaSumsSpec.post enc Try.prog Try.f4 false true false false) := by
  refine returnsInHanded_of_change (C := Try.checked) own started (by kernel_rfl) Try.func4
    (ChangeSpec.witness6 (enc := enc) (C := Try.checked) false ⟨#[], #[.slice none 0 0, .slice none 0 0], []⟩ 8 (by kernel_rfl) (by kernel_rfl) (by kernel_rfl) (by kernel_rfl)) ?_
  intro W base args ds gs before hval0 hW hcnd _
  have hval : ∀ (j : Nat) t v, Try.f4.params[j]? = some t → args[j]? = some v → Value.okWide Try.prog W .any base t v := hval0
  have hW' := hW
  obtain ⟨p, q, hA0, hV, rfl, hfz, hnd⟩ := hW
  have hA : DataW.TrodAll enc Try.prog W 0 (fun _ => true) true Try.f4.params.toList args.toList ds p := hA0
  rw [Try.params4] at hA hval
  obtain ⟨v0, vs0, d0, ds0, p0, q0, hargs, rfl, rfl, h0, r0⟩ := trodAll_cons hA
  obtain ⟨v1, vs1, d1, ds1, p1, q1, rfl, rfl, rfl, h1, r1⟩ := trodAll_cons r0
  obtain ⟨rfl, rfl, rfl⟩ := trodAll_nil r1
  obtain rfl : args = #[v0, v1] := by cases args; simp_all
  obtain ⟨rfl, rfl⟩ := trodVars_none hV
  obtain ⟨a0, len0, cap0, rfl⟩ := okWide_slice Try.underlying22 (hval 0 22 v0 rfl rfl)
  have k0 := h0
  have lt0 : ∀ x ∈ p0, x.block < W.heap.size := by obtain ⟨m, hm⟩ := k0; exact DataW.trod_lt m _ _ _ hm
  obtain ⟨z0, w0⟩ : ∃ z, IsRow .i64 W a0 len0 cap0 z := by
    obtain ⟨fuel, hf⟩ := h0
    rcases open_ints Try.underlying22 Try.underlying3 (by kernel_rfl) hf with ⟨hcs, _⟩ | ⟨x, l, c, zs, hcs, _, hl, hm, hz, _, hcell, hwz⟩
    · simp [Value.cells] at hcs
      obtain ⟨rfl, rfl, rfl⟩ := hcs
      exact ⟨_, isRow_nil _ _⟩
    · simp [Value.cells] at hcs
      obtain ⟨rfl, rfl, rfl⟩ := hcs
      exact ⟨_, isRow_some hl hm (by simpa using hz) hcell hwz⟩
  have k1 := h1
  have lt1 : ∀ x ∈ p1, x.block < W.heap.size := by obtain ⟨m, hm⟩ := k1; exact DataW.trod_lt m _ _ _ hm
  obtain ⟨a, len, cap, K, P, N, G, X, rfl, w1⟩ := open_aops (hval 1 23 v1 rfl rfl) h1
  clear hA0 hval0
  refine (walk a0 len0 cap0 z0 a len cap K P N G X W w0 w1).mono fun e W' ⟨he, bel⟩ => ?_
  subst he
  exact ⟨_, rfl, _, _, _, [], _, [], hW', trodAll_mk1 (shut_bool Try.underlying4 _), (trodAll_cons_mk (Below.trod laidOut (by kernel_rfl) (of_decide_eq_true (by kernel_rfl)) k0 bel lt0) (trodAll_cons_mk (Below.trod laidOut (by kernel_rfl) (of_decide_eq_true (by kernel_rfl)) k1 bel lt1) trodAll_mk0)), rfl, bel.frame _, fun h => by cases h⟩

end Go.Proofs.Ytobpignlamekmaa.arenaSums
namespace Go.Proofs.Ytobpignlamekmaa

/-- The statement ArenaSums. -/
theorem ArenaSumsHolds : Rows.ArenaSumsSaid :=
  OpenClaim.holds_of_wide 4 Try.f4 rfl rfl rfl rfl rfl rfl rfl ⟨rfl, rfl, rfl, rfl, rfl⟩ rfl rfl rfl rfl rfl (by kernel_rfl) Try.func4 (by kernel_rfl)
    (of_decide_eq_true (by kernel_rfl)) (by unfold Func.isWrapper; first | (rw [if_pos (by decide +kernel)]; kernel_rfl) | (rw [if_neg (by decide +kernel)]; exact ⟨rfl, rfl⟩))
    (fun os started H enc _ => arenaSums.lifted os started H enc)

end Go.Proofs.Ytobpignlamekmaa
