/- PROVED: for every row of acts the statement ListOnce returns true: all lists together have each node that is in one, once, in the list that Of tells (P5.5). No condition. -/
import Derived.Test.YtiaacjollcccaaaRows
import Derived.Test.YtiaacjollcccaaaKLike
import Derived.Test.YtiaacjollcccaaaKRow
import Derived.ProofKit
import Derived.ShutString
import Derived.ChangeOld
import Derived.OpenShut
namespace Go.Proofs.Ytiaacjollcccaaa.listOnce
open Go.ChangeShapes Go.WideShapes Go.ChangeAt Go.RowKit

theorem own : ownKnob Try.prog.godebug = none := by kernel_rfl
theorem laidOut : laidOutB Try.prog = true := by kernel_rfl

/-- how many the first i lists have -/
def tot (R : Nat → List Nat) : Nat → Nat
  | 0 => 0
  | i + 1 => tot R i + (R i).length
/-- how many of the nodes below j are in a list -/
def cntW (R : Nat → List Nat) (m j : Nat) : Nat := ((List.range j).filter fun x => (whr R m x).isSome).length
theorem cntW_succ (R : Nat → List Nat) (m j : Nat) : cntW R m (j + 1) = cntW R m j + (if (whr R m j).isSome then 1 else 0) := by
  unfold cntW
  rw [List.range_succ, List.filter_append, List.length_append]
  cases h : (whr R m j).isSome <;> simp [h]
/-- the first i lists, one behind the other -/
def cat (R : Nat → List Nat) : Nat → List Nat
  | 0 => []
  | i + 1 => cat R i ++ R i
theorem cat_len (R : Nat → List Nat) (i : Nat) : (cat R i).length = tot R i := by
  induction i with
  | zero => rfl
  | succ i ih => simp [cat, tot, ih]
theorem cat_mem {R : Nat → List Nat} {i x : Nat} : x ∈ cat R i ↔ ∃ k, k < i ∧ x ∈ R k := by
  induction i with
  | zero => simp [cat]
  | succ i ih =>
    simp only [cat, List.mem_append, ih]
    constructor
    · rintro (⟨k, h1, h2⟩ | h)
      · exact ⟨k, by omega, h2⟩
      · exact ⟨i, by omega, h⟩
    · rintro ⟨k, h1, h2⟩
      by_cases e : k = i
      · subst e; exact .inr h2
      · exact .inl ⟨k, by omega, h2⟩
theorem cat_nod {n m : Nat} {R : Nat → List Nat} (ok : Okr n m R) {i : Nat} (hi : i ≤ m) : (cat R i).Nodup := by
  induction i with
  | zero => simp [cat]
  | succ i ih =>
    refine List.nodup_append.2 ⟨ih (by omega), ok.nod i (by omega), fun x hx y hy e => ?_⟩
    subst e
    obtain ⟨k, h1, h2⟩ := cat_mem.1 hx
    have := ok.dis k i x (by omega) (by omega) h2 hy
    omega
theorem count_all (N : Nat) (l : List Nat) (nd : l.Nodup) (h : ∀ x, x ∈ l → x < N) : l.length = ((List.range N).filter fun x => decide (x ∈ l)).length := by
  induction N generalizing l with
  | zero =>
    cases l with
    | nil => rfl
    | cons x l => exact absurd (h x (by simp)) (by omega)
  | succ N ih =>
    rw [List.range_succ, List.filter_append, List.length_append]
    by_cases hN : N ∈ l
    · obtain ⟨l1, l2, rfl⟩ := List.append_of_mem hN
      have h1 := ih (l1 ++ l2) (by grind) (fun x hx => by
        have h2 := h x (by grind)
        have h3 : x ≠ N := by rintro rfl; grind
        omega)
      have h2 : ((List.range N).filter fun x => decide (x ∈ l1 ++ N :: l2)) = ((List.range N).filter fun x => decide (x ∈ l1 ++ l2)) := by
        apply List.filter_congr
        intro x hx
        have : x ≠ N := by have := List.mem_range.1 hx; omega
        simp [this]
      rw [h2, ← h1]
      simp; omega
    · have h1 := ih l nd (fun x hx => by
        have h2 := h x hx
        have h3 : x ≠ N := by rintro rfl; exact hN hx
        omega)
      rw [← h1]
      simp [hN]
theorem tot_cnt {n m : Nat} {R : Nat → List Nat} (ok : Okr n m R) : tot R m = cntW R m n := by
  rw [← cat_len, count_all n (cat R m) (cat_nod ok (Nat.le_refl _)) (fun x hx => by obtain ⟨k, h1, h2⟩ := cat_mem.1 hx; exact ok.rng k h1 x h2)]
  unfold cntW
  congr 1
  apply List.filter_congr
  intro x _
  cases hw : whr R m x with
  | none =>
    have : x ∉ cat R m := fun hm => by obtain ⟨k, h1, h2⟩ := cat_mem.1 hm; exact whr_none hw k h1 h2
    simp [this]
  | some k =>
    have : x ∈ cat R m := cat_mem.2 ⟨k, (whr_some hw).1, (whr_some hw).2⟩
    simp [this]
theorem cnt_le {n m : Nat} {R : Nat → List Nat} {j : Nat} (h : j ≤ n) : cntW R m j ≤ cntW R m n := by
  induction n with
  | zero =>
    have e : j = 0 := by omega
    rw [e]
    exact Nat.le_refl _
  | succ n ih =>
    by_cases e : j = n + 1
    · subst e; exact Nat.le_refl _
    · have := ih (by omega)
      rw [cntW_succ]; omega
theorem tot_le {n m : Nat} {R : Nat → List Nat} (ok : Okr n m R) {i : Nat} (hi : i ≤ m) : tot R i ≤ n := by
  rw [← cat_len]
  exact len_le (cat_nod ok hi) (fun x hx => by obtain ⟨k, h1, h2⟩ := cat_mem.1 hx; exact ok.rng k (by omega) x h2)

set_option maxRecDepth 100000 in
set_option maxHeartbeats 4000000 in
theorem walk (a : Option Addr) (len cap : Nat) (K I X : Nat → Int) (w0 : World) (hS : ORow w0 a len cap K I X) :
    Calls Try.prog 5 #[.slice a len cap] w0 fun e w' => e = .returned (.bool true) ∧ Below w0.heap.size w0 w' := by
  have HS : Hid (ORow w0 a len cap K I X) := hS
  have hlen : len ≤ 9223372036854775807 := by have h1 := hS.2.1; have h2 := hS.2.2; unfold maxLen at h2; omega
  have hnew := new_k 10 4 w0 (by omega) (by omega)
  clear hS
  go_enter Try.func5, Try.ntmps5
  go_wp2_with fail
  refine hnew.mono ?_
  rintro e w1 ⟨o, rfl, hk1, hb1, ho⟩
  have HO : Hid (∀ b, o.has b → w0.heap.size ≤ b) := ho
  have HK1 : Hid (Kv w1 o 10 4 fun _ => []) := hk1
  have hr := rnew_k 10 4 w1 (by omega) (by omega)
  clear ho hk1 hnew
  go_wp2_with fail
  refine hr.mono ?_
  rintro e w2 ⟨p, b, rfl, hrx, hb2, hp, hb⟩
  have HB0 : Hid (Both w2 o p b w2.heap.size 10 4 fun _ => []) := ⟨HK1.out.below hb2, hrx, fun g hg => by have h1 := HK1.out.lt g hg; have h2 := hb2.size; exact ⟨by omega, by omega, by omega⟩⟩
  have B2 : Below w0.heap.size w0 w2 := Below.onto hb1 hb2
  have HM : Hid (∀ g, o.or b g → w0.heap.size ≤ g) := by
    rintro g (hg | rfl)
    · exact HO.out g hg
    · exact Nat.le_trans hb1.size hb
  clear hr hrx hb2 hp hb hb1 HK1 HO
  generalize w2.heap.size = BB at *
  go_wp2_with fail
  go_loopw [7] (fun vi wr => ∃ i : Nat, i ≤ 60 ∧ i ≤ len ∧ vi = .int .i64 i ∧ Below w0.heap.size w0 wr ∧ Hid (∃ R, Both wr o p b BB 10 4 R)) (fun vi _ => 60 - (intOf vi).toNat)
  case atStart => exact ⟨0, by omega, by omega, rfl, B2, _, HB0.out⟩
  case round =>
    obtain ⟨i, hi6, hil, rfl, hbel, HR⟩ := hrel
    by_cases hgo : i < len ∧ i < 60
    · obtain ⟨hg1, hg2⟩ := hgo
      obtain ⟨bb, off, rfl, q0, q1, q2⟩ := (HS.out.below hbel).1 i hg1
      obtain ⟨R, hR⟩ := HR.out
      have hcall := do_k o p b BB 10 4 R (K i) (I i) (X i) wr hR
      clear hR HR
      go_wp2_with fail
      refine hcall.mono ?_
      rintro e w3 ⟨rfl, ⟨R', hB3⟩, hb3⟩
      have HB3 : Hid (∃ R, Both w3 o p b BB 10 4 R) := ⟨R', hB3⟩
      have B3 : Below w0.heap.size w0 w3 := hbel.trans (hb3.below hbel.size HM.out)
      clear hcall hB3 hb3 q0 q1 q2
      go_wp2_with fail
      go_roundw
      case rel => exact ⟨i + 1, by omega, by omega, by go_num, B3, HB3.out⟩
      case measure => simp [intOf]; omega
    · have HD : Hid (i = len ∨ (i < len ∧ i = 60)) := by show i = len ∨ (i < len ∧ i = 60); omega
      obtain ⟨R, hR⟩ := HR.out
      have HB : Hid (Both wr o p b BB 10 4 R) := hR
      have HK : Hid (Okr 10 4 R) := hR.kv.okr
      clear hgo HR hR HS
      have hend : i = len ∨ (i < len ∧ i = 60) := HD.out
      clear HD
      generalize wr = wz at *
      rcases hend with rfl | ⟨hx9, rfl⟩
      all_goals
        go_wp2_with fail
        go_loopw [8, 9] (fun vs vi wx => ∃ q : Nat, q ≤ 4 ∧ vi = .int .i64 q ∧ vs = .int .i64 (tot R q : Int) ∧ Below wz.heap.size wz wx) (fun _ vi _ => 4 - (intOf vi).toNat)
        case atStart => exact ⟨0, by omega, rfl, rfl, Below.refl _ _⟩
        case round =>
          obtain ⟨q, hq, rfl, rfl, hbq⟩ := hrel
          have HBq : Hid (Both wr o p b BB 10 4 R) := HB.out.below hbq
          have ht0 := tot_le HK.out hq
          by_cases hlt : q < 4
          · have ht := told_k o 10 4 R (q : Int) wr HBq.out.kv (by omega)
            have er : rowR 4 R (q : Int) = R q := by
              have : inR 4 (q : Int) = true := inR_iff.2 (by omega)
              simp [rowR, this]
            rw [er] at ht
            have ht1 := tot_le HK.out (i := q + 1) (by omega)
            have HT : Hid (tot R (q + 1) = tot R q + (R q).length) := rfl
            have hl10 : (R q).length ≤ 10 := by have := HT.out; omega
            clear er
            go_wp2_with fail
            refine ht.mono ?_
            rintro e w3 ⟨v, rfl, hown, hb3⟩
            obtain ⟨aa, ca, rfl, hcells, _⟩ := cells_of_own hown (k := .i64) (z := atL (R q)) (fun j hj => encL_at2 hj)
            have HC : Hid (Cells w3 .i64 aa (R q).length (atL (R q))) := hcells
            have HB3 : Hid (Both w3 o p b BB 10 4 R) := HBq.out.below hb3
            have HB33 : Hid (Below wz.heap.size wz w3) := Below.onto hbq hb3
            clear ht hown hcells hb3
            go_wp2_with fail
            go_loopw [8, 11] (fun vs vk wx => ∃ k : Nat, k ≤ (R q).length ∧ vk = .int .i64 k ∧ vs = .int .i64 ((tot R q + k : Nat) : Int) ∧ Below w3.heap.size w3 wx) (fun _ vk _ => (R q).length - (intOf vk).toNat)
            case atStart => exact ⟨0, by omega, rfl, rfl, Below.refl _ _⟩
            case round =>
              obtain ⟨k, hk, rfl, rfl, hbk⟩ := hrel
              by_cases hkl : k < (R q).length
              · obtain ⟨b1, off, rfl, hcell⟩ := HC.out.below hbk k hkl
                obtain ⟨x, hx⟩ : ∃ x : Nat, x = (R q)[k] := ⟨_, rfl⟩
                have hxm : x ∈ R q := by rw [hx]; exact List.getElem_mem hkl
                have hx10 := HK.out.rng q hlt x hxm
                have e2 : atL (R q) k = (x : Int) := by rw [hx]; simp [atL, List.getD, hkl]
                rw [e2] at hcell
                have hof := of_k o 10 4 R (x : Int) wr (HB3.out.below hbk).kv
                have hin : inR 10 (x : Int) = true := inR_iff.2 (by omega)
                have hwx : whr R 4 x = some q := by
                  obtain ⟨s, e1, e3, _, hinv⟩ := HB.out.kv
                  rw [← e3]
                  exact whr_at hinv.toInv0 (by omega) hxm
                rw [show ofI 10 4 R (x : Int) = (q : Int) by simp [ofI, hin, hwx], show ofB 10 4 R (x : Int) = true by simp [ofB, hin, hwx]] at hof
                have HX : Hid (x = (R q)[k]) := hx
                have j1 : ¬ (x : Int) < 0 := by omega
                have j2 : ¬ (10 : Int) ≤ (x : Int) := by omega
                clear hx e2 hin hwx hxm
                go_wp2_with fail
                refine hof.mono ?_
                rintro e w4 ⟨rfl, hb4⟩
                have hbw : Below wr.heap.size wr w4 := hb4.below (Nat.le_refl _) (fun _ h => h.elim)
                have hcell4 := (hbw.cell (p := ⟨b1, off + k, none⟩) (cell_lt hcell)).trans hcell
                have B4 : Below w3.heap.size w3 w4 := Below.onto hbk hbw
                clear hof hb4 hcell hbw
                go_wp2_with fail
                go_loopw [14] (fun vm wx => ∃ z : Nat, z ≤ k ∧ vm = .int .i64 z ∧ Below w3.heap.size w3 wx) (fun vm _ => k - (intOf vm).toNat)
                case atStart => exact ⟨0, by omega, rfl, B4⟩
                case round =>
                  clear hcell4
                  obtain ⟨z, hz, rfl, hbz⟩ := hrel
                  by_cases hzk : z < k
                  · obtain ⟨b2, off2, e5, hcz⟩ := HC.out.below hbz z (by omega)
                    obtain ⟨b3, off3, e6, hck⟩ := HC.out.below hbz k hkl
                    cases e5
                    cases e6
                    have hne : (atL (R q) z == atL (R q) k) = false := by
                      have hnd := HK.out.nod q hlt
                      have h1 : (R q)[z]'(by omega) ≠ (R q)[k] := fun e => by
                        have := (List.getElem_inj hnd).1 e
                        omega
                      have hz2 : z < (R q).length := by omega
                      simp [atL, List.getD, hkl, hz2]
                      intro e
                      exact h1 (by omega)
                    go_wp2_with fail
                    go_quiet (fail)
                    go_wp2_with fail
                    go_roundw
                    case rel => exact ⟨z + 1, by omega, by go_num, below_drewN hbz nq⟩
                    case measure => simp [intOf]; omega
                  · obtain rfl : z = k := by omega
                    go_wp2_with fail
                    go_roundw
                    case rel => exact ⟨z + 1, by omega, by go_num, by go_num, hbz⟩
                    case measure => simp [intOf]; omega
              · obtain rfl : k = (R q).length := by omega
                go_wp2_with fail
                go_roundw
                case rel => exact ⟨q + 1, by omega, by go_num, by rw [HT.out], Below.onto HB33.out hbk⟩
                case measure => simp [intOf]; omega
          · have HTC : Hid (tot R q = cntW R 4 10) := by
              have hq4 : q = 4 := by omega
              show _ = _
              rw [hq4]
              exact tot_cnt HK.out
            have hnlt : ¬ (q : Int) < 4 := by omega
            clear hlt hq
            go_wp2_with fail
            go_loopw [8, 15] (fun vs vn wx => ∃ z : Nat, z ≤ 10 ∧ vn = .int .i64 z ∧ vs = .int .i64 ((tot R q : Int) - (cntW R 4 z : Int)) ∧ Below wz.heap.size wz wx) (fun _ vn _ => 10 - (intOf vn).toNat)
            case atStart => exact ⟨0, by omega, rfl, by simp [cntW], hbq⟩
            case round =>
              obtain ⟨z, hz, rfl, rfl, hbz⟩ := hrel
              have hcz : cntW R 4 z ≤ cntW R 4 10 := cnt_le hz
              have hct := HTC.out
              by_cases hz10 : z < 10
              · have hof := of_k o 10 4 R (z : Int) wr (HB.out.below hbz).kv
                have hin : inR 10 (z : Int) = true := inR_iff.2 (by omega)
                have HSu : Hid (cntW R 4 (z + 1) = cntW R 4 z + (if (whr R 4 z).isSome then 1 else 0)) := cntW_succ R 4 z
                have hcz1 : cntW R 4 (z + 1) ≤ cntW R 4 10 := cnt_le (by omega)
                have e1 : ofB 10 4 R (z : Int) = (whr R 4 z).isSome := by simp [ofB, hin]
                rw [e1] at hof
                clear e1 hin
                cases hs : (whr R 4 z).isSome
                · rw [hs] at hof
                  have e2 : cntW R 4 (z + 1) = cntW R 4 z := by have := HSu.out; rw [hs] at this; simpa using this
                  have HE : Hid (cntW R 4 (z + 1) = cntW R 4 z) := e2
                  clear e2 hs HSu hct hcz hcz1
                  go_wp2_with fail
                  refine hof.mono ?_
                  rintro e w4 ⟨rfl, hb4⟩
                  have B4 : Below wz.heap.size wz w4 := Below.onto hbz (hb4.below (Nat.le_refl _) (fun _ h => h.elim))
                  clear hof hb4
                  go_wp2_with fail
                  go_roundw
                  case rel => exact ⟨z + 1, by omega, by go_num, by rw [HE.out], B4⟩
                  case measure => simp [intOf]; omega
                · rw [hs] at hof
                  have e2 : cntW R 4 (z + 1) = cntW R 4 z + 1 := by have := HSu.out; rw [hs] at this; simpa using this
                  have HE : Hid (cntW R 4 (z + 1) = cntW R 4 z + 1) := e2
                  have j3 : (-9223372036854775808 : Int) ≤ (tot R q : Int) - (cntW R 4 z : Int) - 1 := by omega
                  have j4 : (tot R q : Int) - (cntW R 4 z : Int) - 1 ≤ 9223372036854775807 := by omega
                  clear e2 hs HSu hct hcz hcz1
                  go_wp2_with fail
                  refine hof.mono ?_
                  rintro e w4 ⟨rfl, hb4⟩
                  have B4 : Below wz.heap.size wz w4 := Below.onto hbz (hb4.below (Nat.le_refl _) (fun _ h => h.elim))
                  clear hof hb4
                  go_wp2_with fail
                  go_roundw
                  case rel => exact ⟨z + 1, by omega, by go_num, by rw [HE.out]; go_num, B4⟩
                  case measure => simp [intOf]; omega
              · obtain rfl : z = 10 := by omega
                have e3 : (tot R q : Int) - (cntW R 4 10 : Int) = 0 := by omega
                rw [e3]
                clear e3 hct hcz
                go_wp2_with fail
                refine (alive_k _).mono ?_
                rintro e w4 ⟨rfl, hb4⟩
                go_wp2_with fail
                go_ret
                exact ⟨rfl, Below.onto (Below.onto hbel hbz) hb4⟩

set_option maxRecDepth 100000 in
theorem lifted (os : Os) (started : os.Started) (H : Type) (enc : TypeId × Value → H) :
    ReturnsInHanded {} Try.checked os 5 .any (Rows.listOnceSpec.pre6 enc Try.prog Try.f5 Rows.listOnceRow.domain false) (Rows.listOnceSpec.post enc Try.prog Try.f5 false true false false) := by
  refine returnsInHanded_of_change (C := Try.checked) own started (by kernel_rfl) Try.func5
    (ChangeSpec.witness6 (enc := enc) (C := Try.checked) false ⟨#[], #[.slice none 0 0], []⟩ 8 (by kernel_rfl) (by kernel_rfl) (by kernel_rfl) (by kernel_rfl)) ?_
  intro W base args ds gs before hval0 hW hcnd _
  have hval : ∀ (j : Nat) t v, Try.f5.params[j]? = some t → args[j]? = some v → Value.okWide Try.prog W .any base t v := hval0
  have hW' := hW
  obtain ⟨p, q, hA0, hV, rfl, hfz, hnd⟩ := hW
  have hA : DataW.TrodAll enc Try.prog W 0 (fun _ => true) true Try.f5.params.toList args.toList ds p := hA0
  rw [Try.params5] at hA hval
  obtain ⟨v0, vs0, d0, ds0, p0, q0, hargs, rfl, rfl, h0, r0⟩ := trodAll_cons hA
  obtain ⟨rfl, rfl, rfl⟩ := trodAll_nil r0
  obtain rfl : args = #[v0] := by cases args; simp_all
  obtain ⟨rfl, rfl⟩ := trodVars_none hV
  have k0 := h0
  have lt0 : ∀ x ∈ p0, x.block < W.heap.size := by obtain ⟨m, hm⟩ := k0; exact DataW.trod_lt m _ _ _ hm
  obtain ⟨a, len, cap, K, I, X, rfl, w0⟩ := open_ops (hval 0 22 v0 rfl rfl) h0
  clear hA0 hval0
  refine (walk a len cap K I X W w0).mono fun e W' ⟨he, bel⟩ => ?_
  subst he
  exact ⟨_, rfl, _, _, _, [], _, [], hW', trodAll_mk1 (shut_bool Try.underlying4 _), (trodAll_cons_mk (Below.trod laidOut (by kernel_rfl) (of_decide_eq_true (by kernel_rfl)) k0 bel lt0) trodAll_mk0), rfl, bel.frame _, fun h => by cases h⟩

end Go.Proofs.Ytiaacjollcccaaa.listOnce
namespace Go.Proofs.Ytiaacjollcccaaa

/-- The statement ListOnce. -/
theorem ListOnceHolds : Rows.ListOnceSaid :=
  OpenClaim.holds_of_wide 5 Try.f5 rfl rfl rfl rfl rfl rfl rfl ⟨rfl, rfl, rfl, rfl, rfl⟩ rfl rfl rfl rfl rfl (by kernel_rfl) Try.func5 (by kernel_rfl)
    (of_decide_eq_true (by kernel_rfl)) (by unfold Func.isWrapper; first | (rw [if_pos (by decide +kernel)]; kernel_rfl) | (rw [if_neg (by decide +kernel)]; exact ⟨rfl, rfl⟩))
    (fun os started H enc _ => listOnce.lifted os started H enc)

end Go.Proofs.Ytiaacjollcccaaa
