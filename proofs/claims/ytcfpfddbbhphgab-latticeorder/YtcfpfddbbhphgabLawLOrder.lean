/- PROVED: for all rows f the statement LatticeOrder returns true: in the order each label stands once, behind all that are below it (P2.9). No condition. -/
import Derived.Test.YtcfpfddbbhphgabRows
import Derived.Test.YtcfpfddbbhphgabLOrdU
import Derived.Test.YtcfpfddbbhphgabLAwake
import Derived.BigQuiet
import Derived.Test.YtcfpfddbbhphgabRow
import Derived.ProofKit
import Derived.ShutString
import Derived.ChangeOld
namespace Go.Proofs.Ytcfpfddbbhphgab.latticeOrder
open Go.ChangeShapes Go.WideShapes Go.ChangeAt Go.RowKit

theorem own : ownKnob Try.prog.godebug = none := by kernel_rfl
theorem laidOut : laidOutB Try.prog = true := by kernel_rfl


theorem ord_at {n : Nat} {z : Nat → Int} : ∀ {k : Nat} {L : List Nat} {s : Int}, n ≤ 16 → OrdIs n z k L s → ∀ i, i < k → ∃ s' x, OrdIs n z i (L.take i) s' ∧ IsNext n z s' x ∧ natAt L i = (x : Int) ∧ L.take (i + 1) = L.take i ++ [x] := by
  intro k
  induction k with
  | zero => intro L s _ _ i hi; omega
  | succ k ih =>
    rintro L s hn ⟨L', s', a, h1, h2, rfl, rfl⟩ i hi
    have hl := (h1.inv hn).1
    by_cases e : i = k
    · subst e
      refine ⟨s', a, ?_, h2, ?_, ?_⟩
      · rw [List.take_left' hl]; exact h1
      · simp [natAt, ← hl]
      · rw [List.take_left' hl, List.take_of_length_le (by simp; omega)]
    · obtain ⟨t, x, g1, g2, g3, g4⟩ := ih hn h1 i (by omega)
      have e1 : (L' ++ [a]).take i = L'.take i := List.take_append_of_le_length (by omega)
      have e2 : (L' ++ [a]).take (i + 1) = L'.take (i + 1) := List.take_append_of_le_length (by omega)
      refine ⟨t, x, by rw [e1]; exact g1, g2, ?_, by rw [e1, e2]; exact g4⟩
      rw [← g3]
      unfold natAt
      rw [List.getElem?_append_left (by omega)]
def SeenL (L : List Nat) (s : Int) : Prop := 0 ≤ s ∧ s < 18446744073709551616 ∧ ∀ j, tb s j = true ↔ j ∈ L

set_option maxRecDepth 100000 in
set_option maxHeartbeats 4000000 in
theorem walk_bad (a : Option Addr) (la ca n : Nat) (z : Nat → Int) (w : World) (hn17 : n ≤ 17)
    (hfa : ∀ w, Calls Try.prog 7 #[.slice a la ca] w fun e w' => e = .returned (.slice a n ca) ∧ w' = w)
    (ha : Cells w .u64 a n z) (hz : Bds n z) (hk : polE n z ≠ 0) :
    Calls Try.prog 5 #[.slice a la ca] w fun e w' => e = .returned (.bool true) ∧ Below w.heap.size w w' := by
  have h1 := fun w' h => order_bad a n ca z w' (by omega) h hz hk
  have HA : Hid (Cells w .u64 a n z) := ha
  have hne : (polE n z != 0) = true := by simp [hk]
  generalize polE n z = c at *
  clear ha hz hk
  go_enter Try.func5, Try.ntmps5
  go_wp2_with fail
  refine (awake_any _).mono ?_
  rintro e w0 ⟨rfl, b0⟩
  go_wp2_with fail
  refine (hfa _).mono ?_
  rintro e w1 ⟨rfl, e1⟩
  subst e1
  go_wp2_with fail
  refine (h1 _ (HA.out.below b0)).mono ?_
  rintro e w2 ⟨rfl, b2⟩
  go_wp2_with fail
  go_ret
  exact ⟨rfl, Below.onto b0 b2⟩

set_option maxRecDepth 100000 in
set_option maxHeartbeats 8000000 in
theorem walk_ok (a : Option Addr) (la ca n : Nat) (z : Nat → Int) (w : World)
    (hfa : ∀ w, Calls Try.prog 7 #[.slice a la ca] w fun e w' => e = .returned (.slice a n ca) ∧ w' = w)
    (ha : Cells w .u64 a n z) (hP : Pol n z) :
    Calls Try.prog 5 #[.slice a la ca] w fun e w' => e = .returned (.bool true) ∧ Below w.heap.size w w' := by
  have hn16 := hP.le
  have h1 := fun w' h => (order_ok a n ca z w' h hP.bds hP.ok).mono fun e w'' ⟨v, L, s, he, hO, ho, hb⟩ => givesO_own (w := w') hP he hO ho hb
  have HA : Hid (Cells w .u64 a n z) := ha
  have HP : Hid (Pol n z) := hP
  have hok := hP.ok
  clear ha hP
  go_enter Try.func5, Try.ntmps5
  go_wp2_with fail
  refine (awake_any _).mono ?_
  rintro e w0 ⟨rfl, b0⟩
  go_wp2_with fail
  refine (hfa _).mono ?_
  rintro e w1 ⟨rfl, e1⟩
  subst e1
  go_wp2_with fail
  refine (h1 _ (HA.out.below b0)).mono ?_
  rintro e w2 ⟨o, co, L, rfl, ho, hL, b2⟩
  rw [hok]
  have hb2 := Below.onto b0 b2
  have HO : Hid (Cells w2 .i64 o L.length (natAt L)) := ho
  obtain ⟨s, hs⟩ : ∃ s, OrdIs n z n L s := by
    rcases hL with ⟨h, _⟩ | ⟨_, h⟩
    · exact absurd hok h
    · exact h
  have hlen : L.length = n := (hs.inv hn16).1
  have HAt : Hid (∀ i, i < n → ∃ s' x, OrdIs n z i (L.take i) s' ∧ IsNext n z s' x ∧ natAt L i = (x : Int) ∧ L.take (i + 1) = L.take i ++ [x]) := ord_at hn16 hs
  rw [hlen] at HO ⊢
  clear h1 hfa b0 b2 ho hL hs hlen hok
  go_wp2_with fail
  go_loopw [5, 6] (fun t i wr => ∃ (k : Nat) (sn : Int), k ≤ n ∧ i = .int .i64 k ∧ t = .int .u64 sn ∧ Hid (SeenL (L.take k) sn) ∧ Below w2.heap.size w2 wr) (fun _ i _ => n - (intOf i).toNat)
  case atStart => exact ⟨0, 0, Nat.zero_le _, rfl, rfl, ⟨by omega, by omega, fun j => by rw [tb_zero]; simp⟩, Below.refl _ _⟩
  case round =>
    obtain ⟨k, sn, hk, rfl, rfl, hS, hbel⟩ := hrel
    by_cases hlt : k < n
    · obtain ⟨s', x, hO, hN, hx, hT⟩ := HAt.out k hlt
      obtain ⟨s0, s1, hsm⟩ := hS.out
      have HSm : Hid (∀ j, tb sn j = true ↔ j ∈ L.take k) := hsm
      have HIn : Hid (∀ j, tb s' j = true ↔ j < n ∧ j ∉ L.take k) := (hO.inv hn16).2.2.2.1
      have hxn := hN.1
      have HNx : Hid (IsNext n z s' x) := hN
      have HT : Hid (L.take (k + 1) = L.take k ++ [x]) := hT
      have hnx : tb sn x = false := by
        cases ht : tb sn x
        · rfl
        · exact absurd ((HSm.out x).1 ht) (((HIn.out x).1 hN.2.1)).2
      have hh := fun w => rhas_at sn x w s0 s1 (by omega) false hnx
      obtain ⟨g1, o1, rfl, hc1⟩ := HO.out.below hbel k hlt
      rw [hx] at hc1
      obtain ⟨x0, x1⟩ := HP.out.bds x hxn
      have HX : Hid (natAt L k = (x : Int)) := hx
      clear hO hN hx hT hsm hnx
      go_wp2_with fail
      refine (hh _).mono ?_
      rintro e w3 ⟨rfl, e3⟩
      subst e3
      clear hh hc1
      go_wp2_with fail
      go_loopw [7] (fun i wr => ∃ b : Nat, b ≤ n ∧ i = .int .i64 b ∧ Below w2.heap.size w2 wr) (fun i _ => n - (intOf i).toNat)
      case atStart => exact ⟨0, Nat.zero_le _, rfl, hbel⟩
      case round =>
        clear hbel
        obtain ⟨b, hb, rfl, hbel⟩ := hrel
        obtain ⟨g2, o2, e2, hc1⟩ := HO.out.below hbel k hlt
        cases e2
        rw [HX.out] at hc1
        by_cases hlb : b < n
        · obtain ⟨y0, y1⟩ := HP.out.bds b hlb
          obtain ⟨g3, o3, rfl, hcb⟩ := HA.out.below (Below.onto hb2 hbel) b hlb
          obtain ⟨g4, o4, e4, hcx⟩ := HA.out.below (Below.onto hb2 hbel) x hxn
          cases e4
          cases t1 : tb (z b) x
          · have h1 := fun w => rhas_at (z b) x w y0 y1 (by omega) false t1
            clear t1
            go_wp2_with fail
            go_quiet ((go_at_call 17; with_reducible exact Calls.quiet_of_same (h1 _)))
            go_wp2
            go_roundw
            case rel => exact ⟨b + 1, by omega, by go_num, below_drewN hbel nq⟩
            case measure => simp [intOf]; omega
          · have h1 := fun w => rhas_at (z b) x w y0 y1 (by omega) true t1
            cases t2 : tb (z x) b
            · have hin : tb sn b = true := by
                have hbl := frB_iff.1 HNx.out.2.2.1 b ((tb_blw HP.out hxn b).2 ⟨hlb, t1, t2⟩)
                refine (HSm.out b).2 (Classical.byContradiction fun hh => ?_)
                rw [(HIn.out b).2 ⟨hlb, hh⟩] at hbl
                cases hbl
              have h2 := fun w => rhas_at (z x) b w x0 x1 (by omega) false t2
              have h3 := fun w => rhas_at sn b w s0 s1 (by omega) true hin
              clear t1 t2 hin
              go_wp2_with fail
              go_quiet ((go_at_call 17; first | (with_reducible exact Calls.quiet_of_same (h1 _)) | (with_reducible exact Calls.quiet_of_same (h2 _)) | (with_reducible exact Calls.quiet_of_same (h3 _))))
              go_wp2
              go_roundw
              case rel => exact ⟨b + 1, by omega, by go_num, below_drewN hbel nq⟩
              case measure => simp [intOf]; omega
            · have h2 := fun w => rhas_at (z x) b w x0 x1 (by omega) true t2
              clear t1 t2
              go_wp2_with fail
              go_quiet ((go_at_call 17; first | (with_reducible exact Calls.quiet_of_same (h1 _)) | (with_reducible exact Calls.quiet_of_same (h2 _))))
              go_wp2
              go_roundw
              case rel => exact ⟨b + 1, by omega, by go_num, below_drewN hbel nq⟩
              case measure => simp [intOf]; omega
        · obtain rfl : b = n := by omega
          have HO2 : Hid (bits .or .u64 sn (IntKind.u64.wrap (2 ^ x)) = setI sn x) := or_bit' s0 s1 (by omega)
          have HSn : Hid (SeenL (L.take (k + 1)) (setI sn x)) := ⟨setI_nonneg _ _, setI_lt s1 (by omega), fun j => by
            rw [HT.out, tb_setI, Bool.or_eq_true, decide_eq_true_iff, HSm.out]
            simp only [List.mem_append, List.mem_singleton]
            exact ⟨fun h => h.imp id Eq.symm, fun h => h.imp id Eq.symm⟩⟩
          go_wp2_with fail
          go_roundw
          case rel => exact ⟨k + 1, setI sn x, by omega, by go_num, by rw [← HO2.out], HSn, hbel⟩
          case measure => simp [intOf]; omega
    · obtain rfl : k = n := by omega
      go_wp2_with fail
      go_ret
      exact ⟨rfl, Below.onto hb2 hbel⟩

theorem walk (a : Option Addr) (la ca : Nat) (z : Nat → Int) (w : World) (ra : IsRow .u64 w a la ca z) :
    Calls Try.prog 5 #[.slice a la ca] w fun e w' => e = .returned (.bool true) ∧ Below w.heap.size w w' := by
  have hz : Bds (min la 17) z := fun j hj => ra.u64 j (by omega)
  have hfa := fun w => few2_any a la ca w ra.2.2.1 ra.2.1
  have ha : Cells w .u64 a (min la 17) z := ra.1.mono (by omega)
  by_cases hk : polE (min la 17) z = 0
  · exact walk_ok a la ca _ z w hfa ha (pol_of hz hk)
  · exact walk_bad a la ca _ z w (by omega) hfa ha hz hk

set_option maxRecDepth 100000 in
theorem lifted (os : Os) (started : os.Started) (H : Type) (enc : TypeId × Value → H) :
    ReturnsInHanded {} Try.checked os 5 .any (Rows.latticeOrderSpec.pre6 enc Try.prog Try.f5 Rows.latticeOrderRow.domain false) (Rows.latticeOrderSpec.post enc Try.prog Try.f5 false true false false) := by
  refine returnsInHanded_of_change (C := Try.checked) own started (by kernel_rfl) Try.func5
    (ChangeSpec.witness6 (enc := enc) (C := Try.checked) false ⟨#[], #[.slice none 0 0], []⟩ 8 (by kernel_rfl) (by kernel_rfl) (by kernel_rfl) (by kernel_rfl)) ?_
  intro W base args ds gs before hval0 hW hcnd _
  have hval : ∀ (j : Nat) t v, Try.f5.params[j]? = some t → args[j]? = some v → Value.okWide Try.prog W .any base t v := hval0
  have hW' := hW
  obtain ⟨p, q, hA0, hV, rfl, hfz, hnd⟩ := hW
  have hA : DataW.TrodAll enc Try.prog W 0 (fun _ => true) true Try.f5.params.toList args.toList ds p := hA0
  rw [Try.params5] at hA hval
  obtain ⟨v0, vs0, d0, ds0, p0, q0, hargs, rfl, rfl, h0, r0⟩ := trodAll_cons hA
  obtain ⟨rfl, rfl, rfl⟩ := trodAll_nil r0
  obtain rfl : args = #[v0] := by cases args; simp_all
  obtain ⟨rfl, rfl⟩ := trodVars_none hV
  obtain ⟨a0, len0, cap0, rfl⟩ := okWide_slice Try.underlying22 (hval 0 22 v0 rfl rfl)
  have k0 := h0
  have lt0 : ∀ x ∈ p0, x.block < W.heap.size := by obtain ⟨m, hm⟩ := k0; exact DataW.trod_lt m _ _ _ hm
  obtain ⟨z0, w0⟩ : ∃ z, IsRow .u64 W a0 len0 cap0 z := by
    obtain ⟨fuel, hf⟩ := h0
    rcases open_ints Try.underlying22 Try.underlying35 (by kernel_rfl) hf with ⟨hcs, _⟩ | ⟨x, l, c, zs, hcs, _, hl, hm, hz, _, hcell, hwz⟩
    · simp [Value.cells] at hcs
      obtain ⟨rfl, rfl, rfl⟩ := hcs
      exact ⟨_, isRow_nil _ _⟩
    · simp [Value.cells] at hcs
      obtain ⟨rfl, rfl, rfl⟩ := hcs
      exact ⟨_, isRow_some hl hm (by simpa using hz) hcell hwz⟩
  clear hA0 hval0
  refine (walk a0 len0 cap0 z0 W w0).mono fun e W' ⟨he, bel⟩ => ?_
  subst he
  exact ⟨_, rfl, _, _, _, [], _, [], hW', trodAll_mk1 (shut_bool Try.underlying4 _), (trodAll_cons_mk (Below.trod laidOut (by kernel_rfl) (of_decide_eq_true (by kernel_rfl)) k0 bel lt0) trodAll_mk0), rfl, bel.frame _, fun h => by cases h⟩

end Go.Proofs.Ytcfpfddbbhphgab.latticeOrder
namespace Go.Proofs.Ytcfpfddbbhphgab

/-- The statement LatticeOrder. -/
theorem LatticeOrderHolds : Rows.LatticeOrderSaid :=
  OpenClaim.holds_of_wide 5 Try.f5 rfl rfl rfl rfl rfl rfl rfl ⟨rfl, rfl, rfl, rfl, rfl⟩ rfl rfl rfl rfl rfl (by kernel_rfl) Try.func5 (by kernel_rfl)
    (of_decide_eq_true (by kernel_rfl)) (by unfold Func.isWrapper; first | (rw [if_pos (by decide +kernel)]; kernel_rfl) | (rw [if_neg (by decide +kernel)]; exact ⟨rfl, rfl⟩))
    (fun os started H enc _ => latticeOrder.lifted os started H enc)

end Go.Proofs.Ytcfpfddbbhphgab
