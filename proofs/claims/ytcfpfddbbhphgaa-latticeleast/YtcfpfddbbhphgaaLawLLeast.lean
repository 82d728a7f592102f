/- PROVED: for all rows f and all a, b the statement LatticeLeast returns true: a join is an upper bound that flows to each, joins are the meets of the turned policy, and of labels that flow on to one another the upper one is a join (P2.6). No condition. -/
import Derived.Test.YtcfpfddbbhphgaaRows
import Derived.Test.YtcfpfddbbhphgaaLRefC
import Derived.Test.YtcfpfddbbhphgaaLAwake
import Derived.Test.YtcfpfddbbhphgaaRow
import Derived.ProofKit
import Derived.ShutString
import Derived.ChangeOld
namespace Go.Proofs.Ytcfpfddbbhphgaa.latticeLeast
open Go.ChangeShapes Go.WideShapes Go.ChangeAt Go.RowKit

theorem own : ownKnob Try.prog.godebug = none := by kernel_rfl
theorem laidOut : laidOutB Try.prog = true := by kernel_rfl


theorem jn_congr {n : Nat} {z y : Nat → Int} (hz : Bds n z) (hy : Bds n y) (h : ∀ j, j < n → z j = y j) {a b : Nat} (ha : a < n) (hb : b < n) : jn n z a b = jn n y a b := by
  refine eq_of_tb (jn_nonneg _ _ _ _) (jn_nonneg _ _ _ _) fun c => ?_
  rw [Bool.eq_iff_iff, tb_jn hz ha, tb_jn hy ha]
  unfold IsJoin
  constructor
  · rintro ⟨h1, h2, h3, h4⟩
    rw [← h a ha, ← h b hb, ← h c h1]
    exact ⟨h1, h2, h3, h4⟩
  · rintro ⟨h1, h2, h3, h4⟩
    rw [h a ha, h b hb, h c h1]
    exact ⟨h1, h2, h3, h4⟩
theorem mt_turn {n : Nat} {z : Nat → Int} (hP : Pol n z) {a b : Nat} (ha : a < n) (hb : b < n) : mt n (turnTo z n) a b = jn n z a b :=
  jn_congr hP.turn.turn.bds hP.bds (fun j hj => turn_turn hP.chk hP.bds j hj) ha hb
theorem shr_zero {n : Nat} {J : Int} (h0 : 0 ≤ J) (h : ∀ c, tb J c = true → c < n) : J / 2 ^ n = 0 := by
  have hlt : J.toNat < 2 ^ n := by
    refine Nat.lt_pow_two_of_testBit _ fun i hi => ?_
    cases ht : J.toNat.testBit i
    · rfl
    · exact absurd (h i ht) (by omega)
  refine Int.ediv_eq_zero_of_lt h0 ?_
  rw [pow_cast]; omega

set_option maxRecDepth 100000 in
set_option maxHeartbeats 4000000 in
theorem walk_bad (a : Option Addr) (la ca n : Nat) (z : Nat → Int) (p q : Int) (w : World) (hn17 : n ≤ 17)
    (hfa : ∀ w, Calls Try.prog 9 #[.slice a la ca] w fun e w' => e = .returned (.slice a n ca) ∧ w' = w)
    (ha : Cells w .u64 a n z) (hz : Bds n z) (hk : askE n z p q ≠ 0) :
    Calls Try.prog 8 #[.slice a la ca, .int .i64 p, .int .i64 q] w fun e w' => e = .returned (.bool true) ∧ Below w.heap.size w w' := by
  have h1 := fun w' h => joins_un a n ca z p q w' (by omega) h hz
  have e : jnV n z p q = 0 := by simp [jnV, hk]
  rw [e] at h1
  have HA : Hid (Cells w .u64 a n z) := ha
  have hne : (askE n z p q != 0) = true := by simp [hk]
  generalize askE n z p q = c at *
  clear e ha hz hk
  go_enter Try.func8, Try.ntmps8
  go_wp2_with fail
  refine (awake_any _).mono ?_
  rintro e w0 ⟨rfl, b0⟩
  go_wp2_with fail
  refine (hfa _).mono ?_
  rintro e w1 ⟨rfl, e1⟩
  subst e1
  go_wp2_with fail
  refine (h1 _ (HA.out.below b0)).mono ?_
  rintro e w2 ⟨rfl, b2⟩
  go_wp2_with fail
  go_ret
  exact ⟨rfl, Below.onto b0 b2⟩

set_option maxRecDepth 100000 in
set_option maxHeartbeats 8000000 in
theorem walk_ok (a : Option Addr) (la ca n : Nat) (z : Nat → Int) (p q : Nat) (w : World) (hp : p < n) (hq : q < n)
    (hfa : ∀ w, Calls Try.prog 9 #[.slice a la ca] w fun e w' => e = .returned (.slice a n ca) ∧ w' = w)
    (ha : Cells w .u64 a n z) (hP : Pol n z) (hk : askE n z p q = 0) :
    Calls Try.prog 8 #[.slice a la ca, .int .i64 p, .int .i64 q] w fun e w' => e = .returned (.bool true) ∧ Below w.heap.size w w' := by
  have hz := hP.bds
  have hn16 := hP.le
  have h1 := fun w' h => joins_un a n ca z p q w' (by omega) h hz
  have e : jnV n z p q = jn n z p q := by simp [jnV, hk]
  rw [e, hk] at h1
  have h2 := fun w' h => rturn_un a n ca z w' (by omega) h hz
  rw [hP.chk] at h2
  have hl : lenIf 0 n = n := by simp [lenIf]
  have hk2 : askE n (turnTo z n) p q = 0 := by
    have i1 : isB n (p : Int) = true := by rw [isB_nat]; simp [hp]
    have i2 : isB n (q : Int) = true := by rw [isB_nat]; simp [hq]
    simp [askE, hP.turn.ok, i1, i2]
  have h3 := fun t ct w' h => meets_un t n ct (turnTo z n) p q w' (by omega) h hP.turn.bds
  have e3 : mtV n (turnTo z n) p q = jn n z p q := by
    simp only [mtV, hk2, if_true, Int.toNat_natCast]
    exact mt_turn hP hp hq
  rw [e3, hk2] at h3
  have HJ : Hid (∀ c, tb (jn n z p q) c = true ↔ IsJoin n z p q c) := fun c => tb_jn hz hp c
  have J0 := jn_nonneg n z p q
  have J1 := jn_lt (by omega) z p q (n := n)
  have hsh : jn n z p q / 2 ^ n = 0 := shr_zero J0 fun c hc => ((HJ.out c).1 hc).1
  generalize jn n z p q = J at *
  have HA : Hid (Cells w .u64 a n z) := ha
  have HZ : Hid (Bds n z) := hz
  have HP : Hid (Pol n z) := hP
  obtain ⟨p0, p1⟩ := hz p hp
  obtain ⟨q0, q1⟩ := hz q hq
  clear e e3 ha hz hk hk2 hP
  go_enter Try.func8, Try.ntmps8
  go_wp2_with fail
  refine (awake_any _).mono ?_
  rintro e w0 ⟨rfl, b0⟩
  go_wp2_with fail
  refine (hfa _).mono ?_
  rintro e w1 ⟨rfl, e1⟩
  subst e1
  go_wp2_with fail
  refine (h1 _ (HA.out.below b0)).mono ?_
  rintro e w2 ⟨rfl, b2⟩
  have hb2 := Below.onto b0 b2
  clear h1 hfa b0 b2
  go_wp2_with fail
  go_loopw [9] (fun i wr => ∃ c : Nat, c ≤ n ∧ i = .int .i64 c ∧ Below w.heap.size w wr) (fun i _ => n - (intOf i).toNat)
  case atStart => exact ⟨0, Nat.zero_le _, rfl, hb2⟩
  case round =>
    clear hb2
    obtain ⟨c, hc, rfl, hbel⟩ := hrel
    by_cases hlt : c < n
    · cases ht : tb J c
      · have hh := fun w => rhas_at J c w J0 J1 (by omega) false ht
        clear ht h2 h3
        go_wp2_with fail
        refine (hh _).mono ?_
        rintro e w3 ⟨rfl, e3⟩
        subst e3
        go_wp2_with fail
        go_roundw
        case rel => exact ⟨c + 1, by omega, by go_num, hbel⟩
        case measure => simp [intOf]; omega
      · have hh := fun w => rhas_at J c w J0 J1 (by omega) true ht
        have HI : Hid (IsJoin n z p q c) := (HJ.out c).1 ht
        obtain ⟨_, ip, iq, _⟩ := HI.out
        have hhp := fun w => rhas_at (z p) c w p0 p1 (by omega) true ip
        have hhq := fun w => rhas_at (z q) c w q0 q1 (by omega) true iq
        obtain ⟨b2, o2, rfl, hcp⟩ := HA.out.below hbel p hp
        obtain ⟨b3, o3, e3, hcq⟩ := HA.out.below hbel q hq
        cases e3
        clear ht h2 h3 ip iq
        go_wp2_with fail
        refine (hh _).mono ?_
        rintro e w3 ⟨rfl, e3⟩
        subst e3
        go_wp2_with fail
        refine (hhp _).mono ?_
        rintro e w3 ⟨rfl, e3⟩
        subst e3
        go_wp2_with fail
        refine (hhq _).mono ?_
        rintro e w3 ⟨rfl, e3⟩
        subst e3
        clear hh hhp hhq hcp hcq
        go_wp2_with fail
        go_loopw [10] (fun i wr => ∃ d : Nat, d ≤ n ∧ i = .int .i64 d ∧ Below w.heap.size w wr) (fun i _ => n - (intOf i).toNat)
        case atStart => exact ⟨0, Nat.zero_le _, rfl, hbel⟩
        case round =>
          clear hbel
          obtain ⟨d, hd, rfl, hbel⟩ := hrel
          by_cases hld : d < n
          · obtain ⟨b4, o4, e4, hcp⟩ := HA.out.below hbel p hp
            cases e4
            obtain ⟨b5, o5, e5, hcq⟩ := HA.out.below hbel q hq
            cases e5
            obtain ⟨b6, o6, e6, hcc⟩ := HA.out.below hbel c hlt
            cases e6
            obtain ⟨c0, c1⟩ := HZ.out c hlt
            cases tp : tb (z p) d
            · have hhp := fun w => rhas_at (z p) d w p0 p1 (by omega) false tp
              clear tp
              go_wp2_with fail
              refine (hhp _).mono ?_
              rintro e w3 ⟨rfl, e3⟩
              subst e3
              go_wp2_with fail
              go_roundw
              case rel => exact ⟨d + 1, by omega, by go_num, hbel⟩
              case measure => simp [intOf]; omega
            · have hhp := fun w => rhas_at (z p) d w p0 p1 (by omega) true tp
              cases tq : tb (z q) d
              · have hhq := fun w => rhas_at (z q) d w q0 q1 (by omega) false tq
                clear tp tq
                go_wp2_with fail
                refine (hhp _).mono ?_
                rintro e w3 ⟨rfl, e3⟩
                subst e3
                go_wp2_with fail
                refine (hhq _).mono ?_
                rintro e w3 ⟨rfl, e3⟩
                subst e3
                go_wp2_with fail
                go_roundw
                case rel => exact ⟨d + 1, by omega, by go_num, hbel⟩
                case measure => simp [intOf]; omega
              · have hhq := fun w => rhas_at (z q) d w q0 q1 (by omega) true tq
                have hhc := fun w => rhas_at (z c) d w c0 c1 (by omega) true (HI.out.2.2.2 d tp tq)
                clear tp tq
                go_wp2_with fail
                refine (hhp _).mono ?_
                rintro e w3 ⟨rfl, e3⟩
                subst e3
                go_wp2_with fail
                refine (hhq _).mono ?_
                rintro e w3 ⟨rfl, e3⟩
                subst e3
                go_wp2_with fail
                refine (hhc _).mono ?_
                rintro e w3 ⟨rfl, e3⟩
                subst e3
                go_wp2_with fail
                go_roundw
                case rel => exact ⟨d + 1, by omega, by go_num, hbel⟩
                case measure => simp [intOf]; omega
          · obtain rfl : d = n := by omega
            go_wp2
            go_roundw
            case rel => exact ⟨c + 1, by omega, by go_num, hbel⟩
            case measure => simp [intOf]; omega
    · obtain rfl : c = n := by omega
      go_wp2_with fail
      refine (h2 _ (HA.out.below hbel)).mono ?_
      rintro e w3 ⟨t, ct, rfl, htc, b3⟩
      rw [hl] at htc
      rw [hl]
      have HT : Hid (Cells w3 .u64 t c (turnTo z c)) := htc
      have hb3 := Below.onto hbel b3
      clear htc h2 hbel b3
      go_wp2_with fail
      refine (h3 _ _ _ HT.out).mono ?_
      rintro e w4 ⟨rfl, b4⟩
      have hb4 := Below.onto hb3 b4
      clear h3 hb3 b4 HT
      obtain ⟨b2, o2, rfl, hcp⟩ := HA.out.below hb4 p hp
      cases tq : tb (z p) q
      · have hh := fun w => rhas_at (z p) q w p0 p1 (by omega) false tq
        clear tq
        go_wp2_with fail
        refine (hh _).mono ?_
        rintro e w5 ⟨rfl, e5⟩
        subst e5
        go_wp2_with fail
        go_ret
        exact ⟨rfl, hb4⟩
      · have hh := fun w => rhas_at (z p) q w p0 p1 (by omega) true tq
        have hj := fun w => rhas_at J q w J0 J1 (by omega) true ((HJ.out q).2 ⟨hq, tq, HP.out.refl hq, fun d _ h => h⟩)
        clear tq
        go_wp2_with fail
        refine (hh _).mono ?_
        rintro e w5 ⟨rfl, e5⟩
        subst e5
        go_wp2_with fail
        refine (hj _).mono ?_
        rintro e w5 ⟨rfl, e5⟩
        subst e5
        go_wp2_with fail
        go_ret
        exact ⟨rfl, hb4⟩

theorem walk (a : Option Addr) (la ca : Nat) (z : Nat → Int) (p q : Int) (w : World) (ra : IsRow .u64 w a la ca z) :
    Calls Try.prog 8 #[.slice a la ca, .int .i64 p, .int .i64 q] w fun e w' => e = .returned (.bool true) ∧ Below w.heap.size w w' := by
  have hz : Bds (min la 17) z := fun j hj => ra.u64 j (by omega)
  have hfa := fun w => few2_any a la ca w ra.2.2.1 ra.2.1
  have ha : Cells w .u64 a (min la 17) z := ra.1.mono (by omega)
  rcases askE_cases (min la 17) z p q with ⟨h1, h2⟩ | ⟨h1, h2, h3⟩ | ⟨h1, h2, x, y, rfl, rfl, hx, hy⟩
  · exact walk_bad a la ca _ z p q w (by omega) hfa ha hz (by rw [h2]; exact h1)
  · exact walk_bad a la ca _ z p q w (by omega) hfa ha hz (by rw [h3]; decide)
  · exact walk_ok a la ca _ z x y w hx hy hfa ha (pol_of hz h1) h2

set_option maxRecDepth 100000 in
theorem lifted (os : Os) (started : os.Started) (H : Type) (enc : TypeId × Value → H) :
    ReturnsInHanded {} Try.checked os 8 .any (Rows.latticeLeastSpec.pre6 enc Try.prog Try.f8 Rows.latticeLeastRow.domain false) (Rows.latticeLeastSpec.post enc Try.prog Try.f8 false true false false) := by
  refine returnsInHanded_of_change (C := Try.checked) own started (by kernel_rfl) Try.func8
    (ChangeSpec.witness6 (enc := enc) (C := Try.checked) false ⟨#[], #[.slice none 0 0, .int .i64 0, .int .i64 0], []⟩ 8 (by kernel_rfl) (by kernel_rfl) (by kernel_rfl) (by kernel_rfl)) ?_
  intro W base args ds gs before hval0 hW hcnd _
  have hval : ∀ (j : Nat) t v, Try.f8.params[j]? = some t → args[j]? = some v → Value.okWide Try.prog W .any base t v := hval0
  have hW' := hW
  obtain ⟨p, q, hA0, hV, rfl, hfz, hnd⟩ := hW
  have hA : DataW.TrodAll enc Try.prog W 0 (fun _ => true) true Try.f8.params.toList args.toList ds p := hA0
  rw [Try.params8] at hA hval
  obtain ⟨v0, vs0, d0, ds0, p0, q0, hargs, rfl, rfl, h0, r0⟩ := trodAll_cons hA
  obtain ⟨v1, vs1, d1, ds1, p1, q1, rfl, rfl, rfl, h1, r1⟩ := trodAll_cons r0
  obtain ⟨v2, vs2, d2, ds2, p2, q2, rfl, rfl, rfl, h2, r2⟩ := trodAll_cons r1
  obtain ⟨rfl, rfl, rfl⟩ := trodAll_nil r2
  obtain rfl : args = #[v0, v1, v2] := by cases args; simp_all
  obtain ⟨rfl, rfl⟩ := trodVars_none hV
  obtain ⟨a0, len0, cap0, rfl⟩ := okWide_slice Try.underlying22 (hval 0 22 v0 rfl rfl)
  have k0 := h0
  have lt0 : ∀ x ∈ p0, x.block < W.heap.size := by obtain ⟨m, hm⟩ := k0; exact DataW.trod_lt m _ _ _ hm
  obtain ⟨z0, w0⟩ : ∃ z, IsRow .u64 W a0 len0 cap0 z := by
    obtain ⟨fuel, hf⟩ := h0
    rcases open_ints Try.underlying22 Try.underlying34 (by kernel_rfl) hf with ⟨hcs, _⟩ | ⟨x, l, c, zs, hcs, _, hl, hm, hz, _, hcell, hwz⟩
    · simp [Value.cells] at hcs
      obtain ⟨rfl, rfl, rfl⟩ := hcs
      exact ⟨_, isRow_nil _ _⟩
    · simp [Value.cells] at hcs
      obtain ⟨rfl, rfl, rfl⟩ := hcs
      exact ⟨_, isRow_some hl hm (by simpa using hz) hcell hwz⟩
  obtain ⟨a1, rfl, rfl, rfl, w1⟩ := open_int Try.underlying3 (hval 1 3 v1 rfl rfl) h1
  obtain ⟨a2, rfl, rfl, rfl, w2⟩ := open_int Try.underlying3 (hval 2 3 v2 rfl rfl) h2
  clear hA0 hval0
  refine (walk a0 len0 cap0 z0 a1 a2 W w0).mono fun e W' ⟨he, bel⟩ => ?_
  subst he
  exact ⟨_, rfl, _, _, _, [], _, [], hW', trodAll_mk1 (shut_bool Try.underlying4 _), (trodAll_cons_mk (Below.trod laidOut (by kernel_rfl) (of_decide_eq_true (by kernel_rfl)) k0 bel lt0) (trodAll_cons_mk (shut_int Try.underlying3 w1) (trodAll_cons_mk (shut_int Try.underlying3 w2) trodAll_mk0))), rfl, bel.frame _, fun h => by cases h⟩

end Go.Proofs.Ytcfpfddbbhphgaa.latticeLeast
namespace Go.Proofs.Ytcfpfddbbhphgaa

/-- The statement LatticeLeast. -/
theorem LatticeLeastHolds : Rows.LatticeLeastSaid :=
  OpenClaim.holds_of_wide 8 Try.f8 rfl rfl rfl rfl rfl rfl rfl ⟨rfl, rfl, rfl, rfl, rfl⟩ rfl rfl rfl rfl rfl (by kernel_rfl) Try.func8 (by kernel_rfl)
    (of_decide_eq_true (by kernel_rfl)) (by unfold Func.isWrapper; first | (rw [if_pos (by decide +kernel)]; kernel_rfl) | (rw [if_neg (by decide +kernel)]; exact ⟨rfl, rfl⟩))
    (fun os started H enc _ => latticeLeast.lifted os started H enc)

end Go.Proofs.Ytcfpfddbbhphgaa
