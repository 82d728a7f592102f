/- LaneQueue's walk. (Written by wip/tools/jqueue.py.) -/
import Derived.Test.YtmdoiokgfdolpaaJQM
import Derived.Test.YtmdoiokgfdolpaaJAwake
import Derived.Test.YtmdoiokgfdolpaaJRow
import Derived.Deep.Light
namespace Go.Proofs.Ytmdoiokgfdolpaa
open Go.RowKit Go.Sort
set_option maxRecDepth 100000

/-- the slots while they are laid -/
def lstQ (ss : List (Int × Int)) (j : Nat) (x : Int × Int) (k : Nat) : List (Int × Int) := if j < k then ss.set j x else ss
theorem lstQ_len (ss : List (Int × Int)) (j : Nat) (x : Int × Int) (k : Nat) : (lstQ ss j x k).length = ss.length := by unfold lstQ; split <;> simp
theorem lstQ_hit {ss : List (Int × Int)} {j : Nat} {x : Int × Int} {k : Nat} (h : k = j) : (lstQ ss j x k).set k x = lstQ ss j x (k + 1) := by
  subst h
  unfold lstQ
  rw [if_neg (by omega), if_pos (by omega)]
theorem lstQ_miss {ss : List (Int × Int)} {j : Nat} {x : Int × Int} {k : Nat} (h : ¬ k = j) : lstQ ss j x (k + 1) = lstQ ss j x k := by
  unfold lstQ
  by_cases hj : j < k
  · rw [if_pos hj, if_pos (by omega)]
  · rw [if_neg hj, if_neg (by omega)]
set_option maxHeartbeats 4000000 in
theorem jqueue (cr : Int) (two : Bool) (st : Int) (a : Option Addr) (len cap : Nat) (f : Nat → Jo) (w : World) (c0 : 0 ≤ cr) (c1 : cr < 256) (s0 : 0 ≤ st) (s1 : st < 18446744073709551616) (hops : JOps w a len cap f) :
    Calls Try.prog 4 #[.int .u8 cr, .bool two, .int .u64 st, .slice a len cap] w fun e w' => e = .returned (.bool true) ∧ Below w.heap.size w w' := by
  obtain ⟨n, hn⟩ : ∃ n : Nat, cr % 64 + 1 = (n : Int) := ⟨(cr % 64 + 1).toNat, by omega⟩
  have n1 : 1 ≤ n := by omega
  have n2 : n ≤ 64 := by omega
  have hlc : len ≤ 9223372036854775807 := by have h1 := hops.2.1; have h2 := hops.2.2; unfold maxLen at h2; omega
  have cA := jawake w
  have HOps : Hid (JOps w a len cap f) := hops
  clear hops
  go_enter Try.func4, Try.ntmps4
  go_wp2_with fail
  refine cA.mono ?_
  rintro e w1 ⟨rfl, hb1⟩
  have cN := newN w1 (two := two) (st := st) n1 n2 s0 s1
  clear cA
  go_wp2_with fail
  refine cN.mono ?_
  rintro e w2 ⟨p, rfl, hl2, hb2⟩
  have S0 : Sq w w2 p (newA n two st) (.slice none 0 0) (.slice none 0 0) [] [] := Sq.start (hl2.less fun b hb => Nat.lt_of_lt_of_le hb hb1.size) (Below.onto hb1 hb2)
  clear cN hl2 hb2 hb1 w1
  go_wp2_with fail
  go_loopw [11, 12, 13] (fun v1 v2 vi wr => ∃ (A : La) (i : Nat), i ≤ 60 ∧ vi = .int .i64 i ∧ Hid (Sq w wr p A v1 v2 (qT A) (qS A)) ∧ A.c ≤ i) (fun _ _ vi _ => 60 - (intOf vi).toNat)
  case atStart => exact ⟨newA n two st, 0, by omega, rfl, S0, Nat.zero_le _⟩
  case round =>
    obtain ⟨A, i, hi, rfl, HS, hAc⟩ := hrel
    by_cases h60 : i < 60
    · by_cases hlt : i < len
      · obtain ⟨b, off, rfl, hJ, hq⟩ := HOps.out.1 i hlt
        obtain ⟨j0, j1, j2, j3, j4, j5, j6⟩ := hJ.below HS.out.bel
        have HQ : Hid (f i).okq := hq
        clear hq
        generalize f i = o at *
        have hcl : A.c < 1000000 := by omega
        have hbP : A.P.length ≤ 64 ∧ A.C.length ≤ 64 := by have := HS.out.ln.ok.bd; omega
        by_cases k1 : o.k = 1
        · have cC := claimN HS.out.ln hcl
          cases hr : roomB A
          · have e1 : claimV A = .tuple #[.agg #[.int .u64 0, .int .u64 0], .int .i64 81] := by unfold claimV; rw [hr]; rfl
            have e2 : claimA A = A := by unfold claimA; rw [hr]; rfl
            rw [e1, e2] at cC
            clear e1 e2
            go_wp2_with fail
            refine cC.mono ?_
            rintro e w3 ⟨rfl, hl3, hb3⟩
            have S4 : Hid (Sq w (w3.alloc (.cells #[.int .u64 0, .int .u64 0] 34)) p A u11 u12 (qT A) (qS A)) := (HS.out.step hl3 hb3).alloc _
            clear cC hl3 hb3 j0 j1 j2 j3 j4 j5 j6
            go_wp2_with fail
            go_roundw
            case rel => exact ⟨A, i + 1, by omega, by go_num, S4, by omega⟩
            case measure => simp [intOf]; omega
          · have q0 := sqI_0 A.st A.c
            have q1 := sqI_1 A.st A.c
            obtain ⟨hqt, hqs⟩ := q_claim hr
            have hcc := (claimA_st A).2.2.2.2.2.2
            generalize hqq : sqI A.st A.c = q at *
            have e1 : claimV A = .tuple #[.agg #[.int .u64 q, .int .u64 A.ep], .int .i64 0] := by unfold claimV; rw [hr, hqq]; rfl
            rw [e1] at cC
            clear e1 hqq
            go_wp2_with fail
            refine cC.mono ?_
            rintro e w3 ⟨rfl, hl3, hb3⟩
            have S5 := ((HS.out.step hl3 hb3).alloc (.cells #[.int .u64 q, .int .u64 A.ep] 34)).alloc (.cells #[.int .u64 q, .int .u64 A.ep] 34)
            have hsz : (w3.alloc (.cells #[.int .u64 q, .int .u64 A.ep] 34)).heap.size = w3.heap.size + 1 := by simp
            have newB : ∀ j u, [Value.int .u64 q, .int .u64 A.ep][j]? = some u → ((w3.alloc (.cells #[.int .u64 q, .int .u64 A.ep] 34)).alloc (.cells #[.int .u64 q, .int .u64 A.ep] 34)).cell? ((⟨w3.heap.size + 1, 0, none⟩ : Addr).add j) = some u := fun j u hj => by
              have hl := (List.getElem?_eq_some_iff.1 hj)
              rw [Go.WideShapes.add_plain, Nat.zero_add, ← hsz]
              have := jnew_at (w3.alloc (.cells #[.int .u64 q, .int .u64 A.ep] 34)) #[.int .u64 q, .int .u64 A.ep] 34 j (by simpa using hl.1)
              rw [this]
              simpa using hl.2
            clear cC hl3 hb3 j0 j1 j2 j3 j4 j5 j6 hsz
            obtain ⟨i0, hi0, hz0, hz1, hz2⟩ := info_parts Try.infoTk
            obtain ⟨v1', w9, hrun9, own9, hgr9, hloc9⟩ := run_append_win (P := Try.prog) (w := (w3.alloc (.cells #[.int .u64 q, .int .u64 A.ep] 34)).alloc (.cells #[.int .u64 q, .int .u64 A.ep] 34)) w.heap.size 45 45 34 i0 (.agg #[.int .u64 0, .int .u64 0]) 2 16 Try.underlying45 hi0 hz0 hz1 hz2 rfl (by decide) u11 _ _ S5.o1 ⟨w3.heap.size + 1, 0, none⟩ 1 [.int .u64 q, .int .u64 A.ep] rfl newB (by simp [Value.oneCell']) (by rw [qT_len]; unfold maxLen; omega) (by rw [qT_len]; omega) S5.bel.size
            have S9 : Sq w w9 p (claimA A) v1' u12 (qT (claimA A)) (qS A) := S5.app1 (by rw [hqt, encK_app, List.length_append]; exact own9) hgr9 hloc9
            have S10 := S9.alloc (.cells #[.int .i64 0, .int .u64 0] 36)
            have newC : ∀ j u, [Value.int .i64 0, .int .u64 0][j]? = some u → (w9.alloc (.cells #[.int .i64 0, .int .u64 0] 36)).cell? ((⟨w9.heap.size, 0, none⟩ : Addr).add j) = some u := fun j u hj => by
              have hl := (List.getElem?_eq_some_iff.1 hj)
              rw [Go.WideShapes.add_plain, Nat.zero_add]
              have := jnew_at w9 #[.int .i64 0, .int .u64 0] 36 j (by simpa using hl.1)
              rw [this]
              simpa using hl.2
            obtain ⟨i1, hi1, hy0, hy1, hy2⟩ := info_parts Try.infoSl
            obtain ⟨v2', w11, hrun11, own11, hgr11, hloc11⟩ := run_append_win (P := Try.prog) (w := w9.alloc (.cells #[.int .i64 0, .int .u64 0] 36)) w.heap.size 46 46 36 i1 (.agg #[.int .i64 0, .int .u64 0]) 2 16 Try.underlying46 hi1 hy0 hy1 hy2 rfl (by decide) u12 _ _ S10.o2 ⟨w9.heap.size, 0, none⟩ 1 [.int .i64 0, .int .u64 0] rfl newC (by simp [Value.oneCell']) (by rw [qS_len]; unfold maxLen; omega) (by rw [qS_len]; omega) S10.bel.size
            have S11 : Hid (Sq w w11 p (claimA A) v1' v2' (qT (claimA A)) (qS (claimA A))) := S10.app2 (by rw [hqs, encP_app, List.length_append]; exact own11) hgr11 hloc11
            clear S5 S9 S10 own9 own11 hgr9 hgr11 hloc9 hloc11 newB newC hqt hqs hbP hi0 hz0 hz1 hz2 hi1 hy0 hy1 hy2
            go_wp2_with (at_builtin; first | refine wpList_append_run rfl _ _ _ rfl _ _ _ rfl rfl hrun9 ?_ | refine wpList_append_run rfl _ _ _ rfl _ _ _ rfl rfl hrun11 ?_)
            go_roundw
            case rel => exact ⟨claimA A, i + 1, by omega, by go_num, S11, by omega⟩
            case measure => simp [intOf]; omega
        · by_cases k2 : o.k = 2
          · have r1 := cell_regrown j1
            have r2 := cell_regrown j2
            have r3 := cell_regrown j3
            have r4 := cell_regrown j4
            go_wp2_with fail
            refine wp_region_quiet_tail 11 (by kernel_rfl) (by kernel_rfl) (by kernel_rfl) ?_
            simp only [List.take_succ_cons, List.take_zero, List.drop_succ_cons, List.drop_zero]
            repeat (go_big_quiet_step (fail))
            refine wpQuiet_nil ?_
            intro _ hw'
            obtain ⟨⟨dq, osq⟩, hw''⟩ := hw'
            subst hw''
            have S3 := HS.out.below (below_regrown wr dq osq)
            generalize grow (redrawn wr dq) osq = w3 at *
            have cT := layN (q := o.q) (e := o.e) (n := o.n) (g := o.g) S3.ln HQ.out.1 HQ.out.2
            unfold tkV slV at cT
            clear r1 r2 r3 r4
            unfold tailWp
            intro K hK
            go_simp
            refine cT.mono ?_
            rintro e w4 ⟨rfl, hl3, hb3⟩
            refine hK _ _ ?_
            clear hK
            unfold tailWp
            intro K hK
            go_simp
            refine hK _ _ ?_
            clear hK
            unfold tailWp
            have S4 := S3.step hl3 hb3
            have hok := HS.out.ln.ok
            clear cT hl3 hb3 S3 j0 j1 j2 j3 j4 j5 j6
            obtain ⟨a1, c1, rfl, hc1, hc2⟩ := S4.o1.form
            obtain ⟨a2, c2, rfl, hd1, hd2⟩ := S4.o2.form
            have hlT := qT_len (A := A)
            have hlS : (qS A).length = (qT A).length := by rw [qS_len, qT_len]
            have hJlt := fun hin => qJ_lt (q := o.q) (e := o.e) hok hin
            generalize hN2 : (qS A).length = N2 at *
            subst hlS
            cases hin : inC A o.q o.e
            · have e1 : layE A o.q o.e = 82 := by unfold layE; rw [hin]; rfl
              rw [q_lay_no hin] at S4
              rw [e1]
              generalize hN : (qT A).length = N at *
              have S4h : Hid (Sq w w4 p A (.slice a1 N c1) (.slice a2 N c2) (qT A) (qS A)) := S4
              clear S4 e1
              go_wp2_with fail
              go_loopw [17] (fun vk wr => ∃ k : Nat, k ≤ N ∧ vk = .int .i64 k ∧ Hid (Sq w wr p A (.slice a1 N c1) (.slice a2 N c2) (qT A) (qS A))) (fun vk _ => N - (intOf vk).toNat)
              case atStart => exact ⟨0, Nat.zero_le _, rfl, S4h⟩
              case round =>
                obtain ⟨k, hk, rfl, HK⟩ := hrel
                by_cases hkN : k < N
                · go_wp2_with fail
                  refine wp_region_quiet_below (by kernel_rfl) (by kernel_rfl) ?_
                  repeat (go_big_quiet_step (fail))
                  refine wpQuiet_nil ?_
                  intro _ hw'
                  obtain ⟨⟨dq, osq⟩, hw''⟩ := hw'
                  subst hw''
                  have HK2 : Hid (Sq w (grow (redrawn wr dq) osq) p A (.slice a1 N c1) (.slice a2 N c2) (qT A) (qS A)) := HK.out.below (below_regrown wr dq osq)
                  clear HK
                  generalize grow (redrawn wr dq) osq = w5 at *
                  go_wp2_with fail
                  go_roundw
                  case rel => exact ⟨k + 1, by omega, by go_num, HK2⟩
                  case measure => simp [intOf]; omega
                · go_wp2_with fail
                  exact ⟨⟨A, i + 1, by omega, by go_num, HK, by omega⟩, by simp [intOf]; omega⟩
            · have e1 : layE A o.q o.e = 0 := by unfold layE; rw [hin]; rfl
              obtain ⟨g1, g2⟩ := q_lay (n := o.n) (g := o.g) hin
              have hJlt := hJlt hin
              have hat : Hid (∀ (j : Nat) (u : Int × Int), (qT A)[j]? = some u → ((u.1 = o.q ∧ u.2 = o.e) ↔ j = qJ A o.q)) := fun j u hu => q_at hok HQ.out.1 HQ.out.2 hin hu
              have hep : Hid (∀ (j : Nat) (u : Int × Int), (qT A)[j]? = some u → u.2 = o.e) := fun j u hu => by
                have h1 := (inC_iff.1 hin).1
                obtain ⟨x, hx, hxu⟩ := List.mem_map.1 (List.mem_of_getElem? hu)
                rw [← hxu, h1]
              have hc3 := layA_c A o.q o.e o.n o.g
              rw [e1]
              generalize hN : (qT A).length = N at *
              generalize layA A o.q o.e o.n o.g = A2 at *
              generalize qJ A o.q = jj at *
              have S4h : Hid (Sq w w4 p A2 (.slice a1 N c1) (.slice a2 N c2) (qT A) (lstQ (qS A) jj (o.n, o.g) 0)) := S4
              have HG : Hid (qT A2 = qT A ∧ qS A2 = lstQ (qS A) jj (o.n, o.g) N) := ⟨g1, by rw [g2]; unfold lstQ; rw [if_pos (by omega)]⟩
              clear S4 e1 g1 g2 hin
              go_wp2_with fail
              go_loopw [17] (fun vk wr => ∃ k : Nat, k ≤ N ∧ vk = .int .i64 k ∧ Hid (Sq w wr p A2 (.slice a1 N c1) (.slice a2 N c2) (qT A) (lstQ (qS A) jj (o.n, o.g) k))) (fun vk _ => N - (intOf vk).toNat)
              case atStart => exact ⟨0, Nat.zero_le _, rfl, S4h⟩
              case round =>
                obtain ⟨k, hk, rfl, HK⟩ := hrel
                by_cases hkN : k < N
                · obtain ⟨u, hu⟩ : ∃ u, (qT A)[k]? = some u := ⟨(qT A)[k]'(by omega), List.getElem?_eq_getElem (by omega)⟩
                  obtain ⟨g, of1, cap2, hv2, _, _, t0, t1⟩ := win_tk HK.out.o1 hu
                  injection hv2 with hv2 hv3 hv4
                  subst hv2 hv4
                  clear hv3
                  have he := hep.out k u hu
                  have hiff := hat.out k u hu
                  obtain ⟨_, j1, j2, j3, j4, _, _⟩ := hJ.below HK.out.bel
                  have r0 := cell_regrown t0
                  have r1 := cell_regrown t1
                  have r2 := cell_regrown j1
                  have r3 := cell_regrown j2
                  rw [he] at r1
                  clear t0 t1 j1 j2 j3 j4
                  have hlen : k < (lstQ (qS A) jj (o.n, o.g) k).length := by rw [lstQ_len]; omega
                  by_cases hkj : k = jj
                  · have hu1 : u.1 = o.q := (hiff.2 hkj).1
                    rw [hu1] at r0
                    have HKJ : Hid (k = jj) := hkj
                    clear hiff he hu hkj hu1
                    go_wp2_with fail
                    refine wp_region_quiet_below (by kernel_rfl) (by kernel_rfl) ?_
                    repeat (go_big_quiet_step (fail))
                    refine wpQuiet_nil ?_
                    intro _ hw'
                    obtain ⟨⟨dq, osq⟩, hw''⟩ := hw'
                    subst hw''
                    have HK2 : Hid (Sq w (grow (redrawn wr dq) osq) p A2 (.slice (some ⟨g, of1, none⟩) N c1) (.slice a2 N c2) (qT A) (lstQ (qS A) jj (o.n, o.g) k)) := HK.out.below (below_regrown wr dq osq)
                    clear HK r0 r1 r2 r3
                    generalize grow (redrawn wr dq) osq = w5 at *
                    obtain ⟨y, hy⟩ : ∃ y, (lstQ (qS A) jj (o.n, o.g) k)[k]? = some y := ⟨_, List.getElem?_eq_getElem hlen⟩
                    obtain ⟨g2, of2, cp2, hw2, _, _, _, s0, s1, f0, f1⟩ := win_sl HK2.out.o2 hy
                    injection hw2 with hw2 hw3 hw4
                    subst hw2 hw4
                    clear hw3
                    obtain ⟨_, j1, j2, j3, j4, _, _⟩ := hJ.below HK2.out.bel
                    have HK3 := HK2.out.put (x := o.n) (y := o.g) hlen
                    rw [lstQ_hit HKJ.out] at HK3
                    have HK4 : Hid (Sq w ((w5.setCell ⟨g2, of2 + k * 2, none⟩ (.int .i64 o.n)).setCell ⟨g2, of2 + k * 2 + 1, none⟩ (.int .u64 o.g)) p A2 (.slice (some ⟨g, of1, none⟩) N c1) (.slice (some ⟨g2, of2, none⟩) N c2) (qT A) (lstQ (qS A) jj (o.n, o.g) (k + 1))) := HK3
                    clear HK2 HK3 hy
                    go_wp2_with fail
                    go_roundw
                    case rel => exact ⟨k + 1, by omega, by go_num, HK4⟩
                    case measure => simp [intOf]; omega
                  · have hu1 : ¬ u.1 = o.q := fun h => hkj (hiff.1 ⟨h, he⟩)
                    clear hiff he hu
                    go_wp2_with fail
                    refine wp_region_quiet_below (by kernel_rfl) (by kernel_rfl) ?_
                    repeat (go_big_quiet_step (fail))
                    refine wpQuiet_nil ?_
                    intro _ hw'
                    obtain ⟨⟨dq, osq⟩, hw''⟩ := hw'
                    subst hw''
                    have HK2 : Hid (Sq w (grow (redrawn wr dq) osq) p A2 (.slice (some ⟨g, of1, none⟩) N c1) (.slice a2 N c2) (qT A) (lstQ (qS A) jj (o.n, o.g) (k + 1))) := by
                      show Sq _ _ _ _ _ _ _ _
                      rw [lstQ_miss hkj]
                      exact HK.out.below (below_regrown wr dq osq)
                    clear HK r0 r1 r2 r3
                    generalize grow (redrawn wr dq) osq = w5 at *
                    go_wp2_with fail
                    go_roundw
                    case rel => exact ⟨k + 1, by omega, by go_num, HK2⟩
                    case measure => simp [intOf]; omega
                · obtain rfl : k = N := by omega
                  go_wp2_with fail
                  exact ⟨⟨A2, i + 1, by omega, by go_num, by rw [HG.out.1, HG.out.2]; exact HK, by omega⟩, by simp [intOf]; omega⟩
          · by_cases k6 : o.k = 6
            · have cT := takeN HS.out.ln
              cases hP : A.P with
              | nil =>
                have e1 : takeV A = .tuple #[.agg #[.int .i64 0, .int .u64 0], .agg #[.int .u64 0, .int .u64 0], .int .i64 82] := by unfold takeV; rw [hP]; rfl
                have e2 : takeA A = A := by unfold takeA; rw [hP]
                rw [e1, e2] at cT
                clear e1 e2
                go_wp2_with fail
                refine cT.mono ?_
                rintro e w3 ⟨rfl, hl3, hb3⟩
                have S4 : Hid (Sq w ((w3.alloc (.cells #[.int .i64 0, .int .u64 0] 36)).alloc (.cells #[.int .u64 0, .int .u64 0] 34)) p A u11 u12 (qT A) (qS A)) := ((HS.out.step hl3 hb3).alloc _).alloc _
                clear cT hl3 hb3 j0 j1 j2 j3 j4 j5 j6
                go_wp2_with fail
                go_roundw
                case rel => exact ⟨A, i + 1, by omega, by go_num, S4, by omega⟩
                case measure => simp [intOf]; omega
              | cons m P' =>
                obtain ⟨hqt, hqs⟩ := q_take hP
                obtain ⟨qm, hqm⟩ : ∃ qm, sqI A.st m.k = qm := ⟨_, rfl⟩
                have e1 : takeV A = .tuple #[.agg #[.int .i64 m.n, .int .u64 m.g], .agg #[.int .u64 qm, .int .u64 A.ep], .int .i64 0] := by unfold takeV; rw [hP, ← hqm]; rfl
                rw [e1] at cT
                rw [hqm] at hqt
                clear e1
                go_wp2_with fail
                refine cT.mono ?_
                rintro e w3 ⟨rfl, hl3, hb3⟩
                have hb5 := jalloc (jalloc (Below.refl _ w3) (.cells #[.int .i64 m.n, .int .u64 m.g] 36)) (.cells #[.int .u64 qm, .int .u64 A.ep] 34)
                have S5 := (HS.out.step hl3 hb3).below hb5
                rw [hqt, hqs] at S5
                obtain ⟨⟨x0, x1, _⟩, y0, y1, _⟩ := jtwo (w := w3) (x := .int .i64 m.n) (y := .int .u64 m.g) (u := .int .u64 qm) (v := .int .u64 A.ep) (T := 36) (U := 34) (Below.refl _ _)
                have hl1 := qT_len (A := takeA A)
                have hl2 := qS_len (A := takeA A)
                have hcc := takeA_c A
                have hPt : (takeA A).P = P' := by unfold takeA; rw [hP]
                have hCt : (takeA A).C = A.C := by unfold takeA; rw [hP]
                rw [hPt, hCt] at hl1 hl2
                have hPl : P'.length + A.C.length ≤ 128 := by have h9 : A.P.length = P'.length + 1 := by (rw [hP]; rfl)
                                                              omega
                clear hPt hCt hqm
                generalize takeA A = A2 at *
                generalize hus : qT A2 = us at *
                generalize hss : qS A2 = ss at *
                obtain ⟨b1, o1, c1, rfl, hc1, hc2, p0, p1⟩ := win_tk S5.o1 (j := 0) (u := (qm, A.ep)) rfl
                obtain ⟨b2, o2, c2, rfl, hd1, hd2, _, s0, s1, _⟩ := win_sl S5.o2 (j := 0) (u := (m.n, m.g)) rfl
                simp only [Nat.zero_mul, Nat.add_zero] at p0 p1 s0 s1
                obtain ⟨M, hM⟩ : ∃ M, us.length + 1 = M := ⟨_, rfl⟩
                have e3 : ((qm, A.ep) :: us).length = M := by simp [hM]
                have e4 : ((m.n, m.g) :: ss).length = M := by simp; omega
                rw [e3, e4] at S5
                rw [e3] at hc1 ⊢
                rw [e4] at hd1 ⊢
                obtain ⟨t1, ht1⟩ : ∃ t, t = Value.slice (if c1 = 1 then some ⟨b1, o1, none⟩ else (some (⟨b1, o1, none⟩ : Addr)).map (·.add 2)) (M - 1) (c1 - 1) := ⟨_, rfl⟩
                obtain ⟨t2, ht2⟩ : ∃ t, t = Value.slice (if c2 = 1 then some ⟨b2, o2, none⟩ else (some (⟨b2, o2, none⟩ : Addr)).map (·.add 2)) (M - 1) (c2 - 1) := ⟨_, rfl⟩
                have S6 := S5.tail
                rw [← ht1, ← ht2] at S6
                have hsl1 : ∀ W, (Instr.slice 45 (.slice (some ⟨b1, o1, none⟩) M c1) (some (.int .i64 1)) none none).run Try.prog W = .ok t1 W := fun W => by
                  rw [ht1, run_slice_l (P := Try.prog) W 45 (some ⟨b1, o1, none⟩) M c1 (by kernel_rfl) .i64 1 (by omega) (by omega)]
                  rfl
                have hsl2 : ∀ W, (Instr.slice 46 (.slice (some ⟨b2, o2, none⟩) M c2) (some (.int .i64 1)) none none).run Try.prog W = .ok t2 W := fun W => by
                  rw [ht2, run_slice_l (P := Try.prog) W 46 (some ⟨b2, o2, none⟩) M c2 (by kernel_rfl) .i64 1 (by omega) (by omega)]
                  rfl
                have HT : Hid (Sq w _ p A2 t1 t2 us ss) := S6
                clear S6 S5 ht1 ht2 cT hl3 hb3 hb5 j0 j1 j2 j3 j4 j5 j6 hqt hqs hl1 hl2
                have hMz : ((M : Int) == 0) = false := by simp; omega
                go_wp2_with fail
                generalize (w3.alloc (.cells #[.int .i64 m.n, .int .u64 m.g] 36)).alloc (.cells #[.int .u64 qm, .int .u64 A.ep] 34) = w5 at *
                generalize w3.heap.size = D at *
                have r0 := cell_regrown x0
                have r1 := cell_regrown x1
                have r2 := cell_regrown y0
                have r3 := cell_regrown y1
                have r4 := cell_regrown p0
                have r5 := cell_regrown p1
                have r6 := cell_regrown s0
                have r7 := cell_regrown s1
                clear x0 x1 y0 y1 p0 p1 s0 s1
                refine wp_region_quiet_below (by kernel_rfl) (by kernel_rfl) ?_
                repeat (go_big_quiet_step (fail))
                refine wpQuiet_nil ?_
                intro _ hw'
                obtain ⟨⟨dq, osq⟩, hw''⟩ := hw'
                subst hw''
                have HT2 : Hid (Sq w (grow (redrawn w5 dq) osq) p A2 t1 t2 us ss) := HT.out.below (below_regrown w5 dq osq)
                clear HT r0 r1 r2 r3 r4 r5 r6 r7
                generalize grow (redrawn w5 dq) osq = w6 at *
                go_wp2_with fail
                refine wp_region_quiet_below (by kernel_rfl) (by kernel_rfl) ?_
                repeat (go_big_quiet_step (fail))
                refine wpQuiet_nil ?_
                intro _ hw'
                obtain ⟨⟨dq, osq⟩, hw''⟩ := hw'
                subst hw''
                have HT3 : Hid (Sq w (grow (redrawn w6 dq) osq) p A2 t1 t2 us ss) := HT2.out.below (below_regrown w6 dq osq)
                clear HT2 hsl1 hsl2
                generalize grow (redrawn w6 dq) osq = w7 at *
                go_wp2_with fail
                go_roundw
                case rel => exact ⟨A2, i + 1, by omega, by go_num, by rw [hus, hss]; exact HT3, by omega⟩
                case measure => simp [intOf]; omega
            · by_cases k8 : o.k = 8
              · have cT := resetN HS.out.ln
                go_wp2_with fail
                refine cT.mono ?_
                rintro e w3 ⟨v, rfl, _, hl3, hb3⟩
                have S3 := HS.out.step hl3 hb3
                clear cT hl3 hb3 j0 j1 j2 j3 j4 j5 j6
                by_cases hz : resE A = 0
                · have S4 : Hid (Sq w w3 p (resA A) (.slice none 0 0) (.slice none 0 0) (qT (resA A)) (qS (resA A))) := by
                    show Sq _ _ _ _ _ _ _ _
                    rw [(q_res hz).1, (q_res hz).2]
                    exact Sq.start (S3.ln.less fun _ h => .inl h) S3.bel
                  rw [hz]
                  clear S3 hz
                  go_wp2_with fail
                  go_roundw
                  case rel => exact ⟨_, i + 1, by omega, by go_num, S4, by rw [resA_c]; omega⟩
                  case measure => simp [intOf]; omega
                · rw [q_res_no hz] at S3
                  have S4 : Hid (Sq w w3 p A u11 u12 (qT A) (qS A)) := S3
                  generalize resE A = er at *
                  have hz' : (er == 0) = false := by simp [hz]
                  clear S3
                  go_wp2_with fail
                  go_roundw
                  case rel => exact ⟨_, i + 1, by omega, by go_num, S4, by omega⟩
                  case measure => simp [intOf]; omega
              · by_cases k7 : o.k = 7
                · have cT := retN (q := o.q) (e := o.e) HS.out.ln HQ.out.1 HQ.out.2
                  unfold tkV at cT
                  go_wp2_with fail
                  refine cT.mono ?_
                  rintro e w3 ⟨rfl, hl3, hb3⟩
                  have S3 : Hid (Sq w w3 p (retA A o.q o.e) u11 u12 (qT (retA A o.q o.e)) (qS (retA A o.q o.e))) := by
                    show Sq _ _ _ _ _ _ _ _
                    rw [(q_ret o.q o.e).1, (q_ret o.q o.e).2]
                    exact HS.out.step hl3 hb3
                  clear cT hl3 hb3
                  go_wp2_with fail
                  go_roundw
                  case rel => exact ⟨_, i + 1, by omega, by go_num, S3, by rw [retA_c]; omega⟩
                  case measure => simp [intOf]; omega
                · have r1 := cell_regrown j1
                  have r2 := cell_regrown j2
                  have r5 := cell_regrown j5
                  have r6 := cell_regrown j6
                  go_wp2_with fail
                  refine wp_region_quiet_last (by simp) (by kernel_rfl) (by kernel_rfl) (by kernel_rfl) ?_
                  dsimp only [List.dropLast, List.getLast]
                  repeat (go_big_quiet_step (fail))
                  refine wpQuiet_nil ?_
                  intro _ hw'
                  obtain ⟨⟨dq, osq⟩, hw''⟩ := hw'
                  subst hw''
                  have S3 := HS.out.below (below_regrown wr dq osq)
                  generalize grow (redrawn wr dq) osq = w3 at *
                  have cT := pubN (q := o.q) (e := o.e) (t := o.t) (s := o.s) S3.ln HQ.out.1 HQ.out.2
                  unfold tkV smV at cT
                  clear r1 r2 r5 r6
                  intro K hK
                  go_simp
                  refine cT.mono ?_
                  rintro e w4 ⟨rfl, hl3, hb3⟩
                  refine hK _ _ ?_
                  clear hK
                  have S4 : Hid (Sq w w4 p (pubA A o.q o.e o.t o.s) u11 u12 (qT (pubA A o.q o.e o.t o.s)) (qS (pubA A o.q o.e o.t o.s))) := by
                    show Sq _ _ _ _ _ _ _ _
                    rw [(q_pub o.q o.e o.t o.s).1, (q_pub o.q o.e o.t o.s).2]
                    exact S3.step hl3 hb3
                  clear cT hl3 hb3 S3
                  go_wp2_with fail
                  go_roundw
                  case rel => exact ⟨_, i + 1, by omega, by go_num, S4, by rw [pubA_c]; omega⟩
                  case measure => simp [intOf]; omega
      · go_wp2_with fail
        go_ret
        exact ⟨rfl, HS.out.bel⟩
    · go_wp2_with fail
      all_goals (go_ret; exact ⟨rfl, HS.out.bel⟩)
end Go.Proofs.Ytmdoiokgfdolpaa
