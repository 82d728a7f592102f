/- LaneCredit's walk. -/
import Derived.Test.YtmdoiokgfdolpaaJSt
import Derived.Test.YtmdoiokgfdolpaaJAwake
import Derived.Test.YtmdoiokgfdolpaaJRow
import Derived.Deep.CutBlock
import Derived.Deep.DeepCutAuto
import Derived.Deep.RegionHeld3
import Derived.Deep.Light
namespace Go.Proofs.Ytmdoiokgfdolpaa
open Go.RowKit Go.Sort
set_option maxRecDepth 100000

set_option maxHeartbeats 4000000 in
theorem jcredit (cr : Int) (two : Bool) (st : Int) (a : Option Addr) (len cap : Nat) (f : Nat → Jo) (w : World) (c0 : 0 ≤ cr) (c1 : cr < 256) (s0 : 0 ≤ st) (s1 : st < 18446744073709551616) (hops : JOps w a len cap f) :
    Calls Try.prog 5 #[.int .u8 cr, .bool two, .int .u64 st, .slice a len cap] w fun e w' => e = .returned (.bool true) ∧ Below w.heap.size w w' := by
  obtain ⟨n, hn⟩ : ∃ n : Nat, cr % 64 + 1 = (n : Int) := ⟨(cr % 64 + 1).toNat, by omega⟩
  have n1 : 1 ≤ n := by omega
  have n2 : n ≤ 64 := by omega
  have hlc : len ≤ 9223372036854775807 := by have h1 := hops.2.1; have h2 := hops.2.2; unfold maxLen at h2; omega
  have cA := jawake w
  have HOps : Hid (JOps w a len cap f) := hops
  clear hops
  go_enter Try.func5, Try.ntmps5
  go_wp2_with fail
  refine cA.mono ?_
  rintro e w1 ⟨rfl, hb1⟩
  have cN := newN w1 (two := two) (st := st) n1 n2 s0 s1
  clear cA
  go_wp2_with fail
  refine cN.mono ?_
  rintro e w2 ⟨p, rfl, hl2, hb2⟩
  have S0 : St w w2 p (newA n two st) 34 2 (.slice none 0 0) 0 [] := St.nil (hl2.less fun b hb => Nat.lt_of_lt_of_le hb hb1.size) (Below.onto hb1 hb2)
  clear cN hl2 hb2 hb1 w1
  go_wp2_with fail
  go_loopw [12, 13] (fun v vi wr => ∃ (A : La) (us : List (Int × Int)) (i : Nat), i ≤ 60 ∧ vi = .int .i64 i ∧ Hid (St w wr p A 34 2 v us.length (encK us)) ∧ Hid (CrI A us n i)) (fun _ vi _ => 60 - (intOf vi).toNat)
  case atStart => exact ⟨newA n two st, [], 0, by omega, rfl, S0, CrI.new⟩
  case round =>
    obtain ⟨A, us, i, hi, rfl, HS, HC⟩ := hrel
    by_cases h60 : i < 60
    · by_cases hlt : i < len
      · obtain ⟨b, off, rfl, hJ, hq⟩ := HOps.out.1 i hlt
        have hJ := hJ.below HS.out.bel
        have HJ : Hid (JoAt wr b (off + i * 7) (f i)) := hJ
        have HQ : Hid (f i).okq := hq
        have j0 := hJ.1
        clear hJ hq
        generalize f i = o at *
        go_upto_block 2 with fail
        go_cut [12, 14, 15, 52] (fun v _ _ _ wx => ∃ (A' : La) (us' : List (Int × Int)), Hid (St w wx p A' 34 2 v us'.length (encK us')) ∧ Hid (CrI A' us' n (i + 1)))
        case first =>
          obtain ⟨j0', j1, j2, j3, j4, j5, j6⟩ := HJ.out
          have hcl : A.c < 1000000 := by have := HC.out.c; omega
          clear j0'
          by_cases k1 : o.k = 1
          · cases hr : roomB A
            · have cC := claimN HS.out.ln hcl
              have e1 : claimV A = .tuple #[.agg #[.int .u64 0, .int .u64 0], .int .i64 81] := by unfold claimV; rw [hr]; rfl
              have e2 : claimA A = A := by unfold claimA; rw [hr]; rfl
              rw [e1, e2] at cC
              clear e1 e2
              go_wp2_with fail
              refine cC.mono ?_
              rintro e w3 ⟨rfl, hl3, hb3⟩
              have S4 : Hid (St w (w3.alloc (.cells #[.int .u64 0, .int .u64 0] 34)) p A 34 2 u12 us.length (encK us)) := (HS.out.step hl3 hb3).alloc _
              clear cC hl3 hb3 j0 j1 j2 j3 j4 j5 j6
              go_wp2_with fail
              generalize w3.alloc (.cells #[.int .u64 0, .int .u64 0] 34) = w4 at *
              refine wp_region_quiet_below (by kernel_rfl) (by kernel_rfl) ?_
              repeat (go_big_quiet_step (fail))
              refine wpQuiet_nil ?_
              intro _ hw'
              obtain ⟨⟨dq, osq⟩, hw''⟩ := hw'
              subst hw''
              have S5 := S4.out.below (below_regrown w4 dq osq)
              generalize grow (redrawn w4 dq) osq = w5 at *
              go_wp2_with fail
              go_meet
              case rel => exact ⟨_, us, S5, HC.out.one⟩
            · have cC := claimN HS.out.ln hcl
              obtain ⟨hl0, hc0⟩ := HC.out.lays HS.out.ln.ok hcl hr o.n o.g
              have q0 := sqI_0 A.st A.c
              have q1 := sqI_1 A.st A.c
              generalize hqq : sqI A.st A.c = q at *
              have e1 : claimV A = .tuple #[.agg #[.int .u64 q, .int .u64 A.ep], .int .i64 0] := by unfold claimV; rw [hr, hqq]; rfl
              rw [e1] at cC
              clear e1
              have HC1 : Hid (CrI (layA (claimA A) q A.ep o.n o.g) (us ++ [(q, A.ep)]) n (i + 1)) := hc0
              clear hc0
              go_wp2_with fail
              refine cC.mono ?_
              rintro e w3 ⟨rfl, hl3, hb3⟩
              have S3 := HS.out.step hl3 hb3
              have S4 : Hid (St w (w3.alloc (.cells #[.int .u64 q, .int .u64 A.ep] 34)) p (claimA A) 34 2 u12 us.length (encK us)) := S3.alloc _
              have l4 : Ln (w3.alloc (.cells #[.int .u64 q, .int .u64 A.ep] 34)) p (claimA A) (fun b => Xo w u12 b ∨ b = w3.heap.size) := S3.ln.box _
              have bx := b2_new w3 (.int .u64 q) (.int .u64 A.ep) 34
              have hJ4 : JoAt (w3.alloc (.cells #[.int .u64 q, .int .u64 A.ep] 34)) b (off + i * 7) o := hJ.below S4.out.bel
              clear cC hl3 hb3 j0 j1 j2 j3 j4 j5 j6
              go_wp2_with fail
              generalize w3.alloc (.cells #[.int .u64 q, .int .u64 A.ep] 34) = w4 at *
              generalize hD : w3.heap.size = D at *
              obtain ⟨b0, b1⟩ := bx
              obtain ⟨_, _, _, j3, j4, _, _⟩ := hJ4
              have cL := layN (q := q) (e := A.ep) (n := o.n) (g := o.g) (l4.below (Below.refl _ w4).drew) q0 q1
              rw [hl0] at cL
              unfold tkV slV at cL
              have hbw : b < w.heap.size := cell_lt hJ.1
              have toS : ∀ W, But (Els fun b => Xo w u12 b ∨ b = D) w4.drew W → W.cell? ⟨D, 0, none⟩ = some (.int .u64 q) ∧ W.cell? ⟨D, 1, none⟩ = some (.int .u64 A.ep) ∧ W.cell? ⟨b, off + i * 7 + 3, none⟩ = some (.int .i64 o.n) ∧ W.cell? ⟨b, off + i * 7 + 3 + 1, none⟩ = some (.int .u64 o.g) := fun W h =>
                ⟨els_cell h (.inr rfl) b0, els_cell h (.inr rfl) b1, els_cell h (.inl (.inl hbw)) j3, els_cell h (.inl (.inl hbw)) j4⟩
              have to4 := toS _ (But.refl _ _)
              go_region_held3 (fun W => W.cell? ⟨D, 0, none⟩ = some (.int .u64 q) ∧ W.cell? ⟨D, 1, none⟩ = some (.int .u64 A.ep) ∧ W.cell? ⟨b, off + i * 7 + 3, none⟩ = some (.int .i64 o.n) ∧ W.cell? ⟨b, off + i * 7 + 3 + 1, none⟩ = some (.int .u64 o.g)) (first | assumption | exact toS _ (by assumption)) (first | (go_at_call 16; (with_reducible refine cL.mono ?_); rintro v w5 ⟨rfl, l5, e5⟩))
              have S5 : St w w5 p (layA (claimA A) q A.ep o.n o.g) 34 2 u12 us.length (encK us) := (S4.out.below (Below.refl _ _).drew).step (l5.less fun _ h => .inl h) (e5.mono fun _ h h' => h (.inl h'))
              obtain ⟨d0, d1, _, _⟩ := toS _ e5
              have S6 := S5.alloc (.cells #[.int .u64 q, .int .u64 A.ep] 34)
              obtain ⟨i0, hi0, hz0, hz1, hz2⟩ := info_parts Try.infoTk
              have newB : ∀ j u, [Value.int .u64 q, .int .u64 A.ep][j]? = some u → (w5.alloc (.cells #[.int .u64 q, .int .u64 A.ep] 34)).cell? ((⟨w5.heap.size, 0, none⟩ : Addr).add j) = some u := fun j u hj => by
                have hl := (List.getElem?_eq_some_iff.1 hj)
                rw [Go.WideShapes.add_plain, Nat.zero_add]
                have := jnew_at w5 #[.int .u64 q, .int .u64 A.ep] 34 j (by simpa using hl.1)
                rw [this]
                simpa using hl.2
              have hul := HC.out.len
              obtain ⟨v', w9, hrun9, own9, hgr, _, hloc⟩ := run_append_own_at (P := Try.prog) (w := w5.alloc (.cells #[.int .u64 q, .int .u64 A.ep] 34)) w.heap.size 45 45 34 i0 (.agg #[.int .u64 0, .int .u64 0]) 2 16 Try.underlying45 hi0 hz0 hz1 hz2 rfl (by decide) u12 _ _ S6.own ⟨w5.heap.size, 0, none⟩ 1 1 [.int .u64 q, .int .u64 A.ep] rfl newB (by simp [Value.oneCell']) (by unfold maxLen; omega) (by omega) S6.bel.size
              have S9 : Hid (St w w9 p (layA (claimA A) q A.ep o.n o.g) 34 2 v' (us ++ [(q, A.ep)]).length (encK (us ++ [(q, A.ep)]))) := S6.grow (by rw [encK_app, List.length_append]; exact own9) hgr hloc
              clear toS to4 S6 S5 own9 hgr hloc newB l5 e5 cL S4 l4 b0 b1 j3 j4 hJ S3 hD
              go_wp2_with (at_builtin; refine wpList_append_run rfl _ _ _ rfl _ _ _ rfl rfl hrun9 ?_)
              go_meet
              case rel => exact ⟨_, _, S9, HC1⟩
          · by_cases k6 : o.k = 6
            · have cT := takeN HS.out.ln
              go_wp2_with fail
              refine cT.mono ?_
              rintro e w3 ⟨rfl, hl3, hb3⟩
              go_wp2_with fail
              go_meet
              case rel => exact ⟨_, us, HS.out.step hl3 hb3, HC.out.take⟩
            · by_cases k7 : o.k = 7
              · have cT := retN (q := o.q) (e := o.e) HS.out.ln HQ.out.1 HQ.out.2
                unfold tkV at cT
                go_wp2_with fail
                refine cT.mono ?_
                rintro e w3 ⟨rfl, hl3, hb3⟩
                go_wp2_with fail
                go_meet
                case rel => exact ⟨_, us, HS.out.step hl3 hb3, HC.out.ret _ _⟩
              · by_cases k8 : o.k = 8
                · have cT := resetN HS.out.ln
                  go_wp2_with fail
                  refine cT.mono ?_
                  rintro e w3 ⟨v, rfl, _, hl3, hb3⟩
                  go_wp2_with fail
                  go_meet
                  case rel => exact ⟨_, us, HS.out.step hl3 hb3, HC.out.res⟩
                · have r1 := cell_regrown j1
                  have r2 := cell_regrown j2
                  have r5 := cell_regrown j5
                  have r6 := cell_regrown j6
                  go_wp2_with fail
                  refine wp_region_quiet_last (by simp) (by kernel_rfl) (by kernel_rfl) (by kernel_rfl) ?_
                  dsimp only [List.dropLast, List.getLast]
                  repeat (go_big_quiet_step (fail))
                  refine wpQuiet_nil ?_
                  intro _ hw'
                  obtain ⟨⟨dq, osq⟩, hw''⟩ := hw'
                  subst hw''
                  have S3 := HS.out.below (below_regrown wr dq osq)
                  generalize grow (redrawn wr dq) osq = w3 at *
                  have cT := pubN (q := o.q) (e := o.e) (t := o.t) (s := o.s) S3.ln HQ.out.1 HQ.out.2
                  unfold tkV smV at cT
                  clear r1 r2 r5 r6
                  intro K hK
                  go_simp
                  refine cT.mono ?_
                  rintro e w4 ⟨rfl, hl3, hb3⟩
                  refine hK _ _ ?_
                  clear hK
                  go_wp2_with fail
                  go_meet
                  case rel => exact ⟨_, us, S3.step hl3 hb3, HC.out.pub _ _ _ _⟩
        case rest =>
          obtain ⟨A', us', HS', HC'⟩ := hcut
          obtain ⟨a', cap', rfl⟩ := own_form HS'.out.own
          have hok := HS'.out.ln.ok
          obtain ⟨hsum, hleft⟩ := sums hok
          rw [HC'.out.cr] at hsum
          have hrd : 0 < A'.C.length → rdN A' us' us'.length ≠ 0 := fun h0 => by
            obtain ⟨u, hu, h⟩ := HC'.out.ready hok h0
            unfold rdN
            rw [List.take_length]
            exact count_pos ⟨u, hu, by simpa using h⟩
          have HR : Hid (0 < A'.C.length → rdN A' us' us'.length ≠ 0) := hrd
          have hul := HC'.out.len
          obtain ⟨L, hL⟩ : ∃ L : Nat, leftI A' = (L : Int) := ⟨(leftI A').toNat, by omega⟩
          have cS := stateN HS'.out.ln
          unfold staV at cS
          rw [hL] at cS hsum
          clear hrd hok hleft hL HS HC HJ HQ hJ
          generalize hC : A'.C.length = nC at *
          generalize A'.P.length = nP at *
          generalize (A'.T.filter is3).length = nT at *
          generalize (A'.T.filter is4).length = nH at *
          go_wp2_with fail
          refine cS.mono ?_
          rintro e w3 ⟨rfl, hl3, hb3⟩
          have S3 := HS'.out.step hl3 hb3
          have HS4 : Hid (St w (w3.alloc (.cells #[.int .i64 (L : Int), .int .i64 (nC : Int), .int .i64 (nP : Int), .int .i64 (nT : Int), .int .i64 (nH : Int), .int .u64 A'.ep] 42)) p A' 34 2 (.slice a' us'.length cap') us'.length (encK us')) := S3.alloc _
          have l4 := S3.ln.box (.cells #[.int .i64 (L : Int), .int .i64 (nC : Int), .int .i64 (nP : Int), .int .i64 (nT : Int), .int .i64 (nH : Int), .int .u64 A'.ep] 42)
          have nw := fun k hk => jnew_at w3 #[.int .i64 (L : Int), .int .i64 (nC : Int), .int .i64 (nP : Int), .int .i64 (nT : Int), .int .i64 (nH : Int), .int .u64 A'.ep] 42 k hk
          have d0 := nw 0 (by simp)
          have d1 := nw 1 (by simp)
          have d2 := nw 2 (by simp)
          have d3 := nw 3 (by simp)
          have d4 := nw 4 (by simp)
          simp only [List.getElem_toArray, List.getElem_cons_zero, List.getElem_cons_succ] at d0 d1 d2 d3 d4
          clear nw cS hl3 hb3 S3 HS'
          obtain ⟨w4, hw4⟩ : ∃ w4, w3.alloc (.cells #[.int .i64 (L : Int), .int .i64 (nC : Int), .int .i64 (nP : Int), .int .i64 (nT : Int), .int .i64 (nH : Int), .int .u64 A'.ep] 42) = w4 := ⟨_, rfl⟩
          rw [hw4] at HS4 l4 d0 d1 d2 d3 d4
          generalize hD : w3.heap.size = D at *
          have HL4 : Hid (Ln w4 p A' (fun b => Xo w (.slice a' us'.length cap') b ∨ b = D)) := l4
          have HD1 : Hid (w4.cell? ⟨D, 1, none⟩ = some (.int .i64 (nC : Int))) := d1
          clear l4
          go_wp2_with fail
          clear hw4 hD d0 d1 d2 d3 d4
          go_loopw [17, 18] (fun rd vk wr => ∃ k : Nat, k ≤ us'.length ∧ vk = .int .i64 k ∧ rd = .int .i64 (rdN A' us' k : Int) ∧ Hid (Ln wr p A' (fun b => Xo w (.slice a' us'.length cap') b ∨ b = D)) ∧ Hid (But (Els fun b => Xo w (.slice a' us'.length cap') b ∨ b = D) w4 wr)) (fun _ vk _ => us'.length - (intOf vk).toNat)
          case atStart => exact ⟨0, Nat.zero_le _, rfl, rfl, HL4, But.refl _ _⟩
          case round =>
            obtain ⟨k, hk, rfl, rfl, HLr, HBr⟩ := hrel
            have hrl := rdN_le (A := A') (us := us') k
            by_cases hku : k < us'.length
            · obtain ⟨u, hu⟩ : ∃ u, us'[k]? = some u := ⟨us'[k], List.getElem?_eq_getElem hku⟩
              obtain ⟨g, cap2, hv2, hc1, hc2, t0, t1⟩ := own_tk HS4.out.own hu
              injection hv2 with hv2 hv3 hv4
              subst hv2 hv4
              clear hv3
              have hXg : Xo w (.slice (some ⟨g, 0, none⟩) us'.length cap') g := .inr rfl
              have t0 := els_cell HBr.out (.inl hXg) t0
              have t1 := els_cell HBr.out (.inl hXg) t1
              have hub := HC'.out.bd u (List.mem_of_getElem? hu)
              have cR := readyN HLr.out hub.1 hub.2 (e := u.2)
              unfold tkV at cR
              have hsu := rdN_succ (A := A') hu
              by_cases hz : lackE A' u.1 u.2 = 0
              · rw [if_pos hz] at hsu
                have HM : Hid (rdN A' us' (k + 1) = rdN A' us' k + 1) := hsu
                rw [decide_eq_true hz] at cR
                clear hsu hz hsum
                go_wp2_with fail
                refine cR.mono ?_
                rintro e w5 ⟨rfl, hl5, hb5⟩
                go_wp2_with fail
                go_roundw
                case rel => exact ⟨k + 1, by omega, by go_num, by rw [HM.out]; go_num, hl5, HBr.out.trans hb5⟩
                case measure => simp [intOf]; omega
              · rw [if_neg hz] at hsu
                have HM : Hid (rdN A' us' (k + 1) = rdN A' us' k) := hsu
                rw [decide_eq_false hz] at cR
                clear hsu hz hsum
                go_wp2_with fail
                refine cR.mono ?_
                rintro e w5 ⟨rfl, hl5, hb5⟩
                go_wp2_with fail
                go_roundw
                case rel => exact ⟨k + 1, by omega, by go_num, by rw [HM.out], hl5, HBr.out.trans hb5⟩
                case measure => simp [intOf]; omega
            · obtain rfl : k = us'.length := by omega
              have d1 := els_cell HBr.out (.inr rfl) HD1.out
              have HS5 : Hid (St w wr p A' 34 2 (.slice a' us'.length cap') us'.length (encK us')) := HS4.out.step (HLr.out.less fun _ h => .inl h) (HBr.out.mono fun _ h h' => h (.inl h'))
              clear hsum hul
              by_cases h0 : nC = 0
              · subst h0
                go_wp2_with fail
                exact ⟨⟨A', us', i + 1, by omega, by go_num, HS5, HC'⟩, by simp [intOf]; omega⟩
              · have hrn := HR.out (by omega)
                generalize rdN A' us' us'.length = rN at *
                have hrz : ((rN : Int) == 0) = false := by simp; omega
                go_wp2_with fail
                exact ⟨⟨A', us', i + 1, by omega, by go_num, HS5, HC'⟩, by simp [intOf]; omega⟩
      · go_wp2_with fail
        go_ret
        exact ⟨rfl, HS.out.bel⟩
    · go_wp2_with fail
      all_goals (go_ret; exact ⟨rfl, HS.out.bel⟩)
end Go.Proofs.Ytmdoiokgfdolpaa
