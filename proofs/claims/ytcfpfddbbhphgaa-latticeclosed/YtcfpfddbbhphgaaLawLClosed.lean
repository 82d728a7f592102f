/- PROVED: for all rows f the statement LatticeClosed returns true: the closure of any flows is a policy, with what is missing flows are their closure, and nothing is missing just if they are a policy (P2.5). No condition. -/
import Derived.Test.YtcfpfddbbhphgaaRows
import Derived.Test.YtcfpfddbbhphgaaLMissU
import Derived.Test.YtcfpfddbbhphgaaLClosed
import Derived.BigRegion
import Derived.Test.YtcfpfddbbhphgaaRow
import Derived.ProofKit
import Derived.ShutString
import Derived.ChangeOld
namespace Go.Proofs.Ytcfpfddbbhphgaa.latticeClosed
open Go.ChangeShapes Go.WideShapes Go.ChangeAt Go.RowKit

theorem own : ownKnob Try.prog.godebug = none := by kernel_rfl
theorem laidOut : laidOutB Try.prog = true := by kernel_rfl


set_option maxRecDepth 100000 in
set_option maxHeartbeats 4000000 in
theorem walk_bad (a : Option Addr) (la ca n : Nat) (z : Nat → Int) (w : World) (hn17 : n ≤ 17)
    (hfa : ∀ w, Calls Try.prog 9 #[.slice a la ca] w fun e w' => e = .returned (.slice a n ca) ∧ w' = w)
    (ha : Cells w .u64 a n z) (hz : Bds n z) (hk : shpE n z ≠ 0) :
    Calls Try.prog 7 #[.slice a la ca] w fun e w' => e = .returned (.bool true) ∧ Below w.heap.size w w' := by
  have h1 := fun w' h => missing_bad a n ca z w' (by omega) h hz hk
  have HA : Hid (Cells w .u64 a n z) := ha
  have hne : (shpE n z != 0) = true := by simp [hk]
  generalize shpE n z = c at *
  clear ha hz hk
  go_enter Try.func7, Try.ntmps7
  go_wp2_with fail
  refine (awake_any _).mono ?_
  rintro e w0 ⟨rfl, b0⟩
  go_wp2_with fail
  refine (hfa _).mono ?_
  rintro e w1 ⟨rfl, e1⟩
  subst e1
  go_wp2_with fail
  refine (h1 _ (HA.out.below b0)).mono ?_
  rintro e w2 ⟨rfl, b2⟩
  go_wp2_with fail
  go_ret
  exact ⟨rfl, Below.onto b0 b2⟩

attribute [local go_sem ↓] wp_at wp_succ wp_zero wpIn_at wpIn_succ wpIn_zero
set_option maxRecDepth 100000 in
set_option maxHeartbeats 8000000 in
theorem walk_ok (ad : Addr) (la ca n : Nat) (z : Nat → Int) (w : World)
    (hfa : ∀ w, Calls Try.prog 9 #[.slice (some ad) la ca] w fun e w' => e = .returned (.slice (some ad) n ca) ∧ w' = w)
    (ha : Cells w .u64 (some ad) n z) (hz : Bds n z) (hk : shpE n z = 0) :
    Calls Try.prog 7 #[.slice (some ad) la ca] w fun e w' => e = .returned (.bool true) ∧ Below w.heap.size w w' := by
  obtain ⟨i0, hi, hz0, hz1, hz2⟩ := info_parts Try.info23
  obtain ⟨hn1, hn16, hchk⟩ := shpE_ok hk
  have h1 := fun w' h => missing_un (some ad) n ca z w' (by omega) h hz
  have e : msV n z = msTo n z n := by simp [msV, hk]
  rw [e, hk] at h1
  have h2 := fun w' h => rclosure_un (some ad) n ca z w' (by omega) h hz
  rw [hchk] at h2
  have hl : lenIf 0 n = n := by simp [lenIf]
  have hpc := pol_clo hz hk
  have h3 := fun t ct w' h => check2_un t n ct (clo n z) w' (by omega) h hpc.bds
  rw [hpc.ok] at h3
  have h4 := fun w' h => check2_un (some ad) n ca z w' (by omega) h hz
  have HAt : Hid (∀ k, k < (msTo n z n).length → ∃ p q : Nat, p < n ∧ q < n ∧ fstAt (msTo n z n) k = p ∧ sndAt (msTo n z n) k = q ∧ (msTo n z n).take (k + 1) = (msTo n z n).take k ++ [(p, q)]) := fun k hk' => ms_at hz hk hk'
  have HEnd : Hid (∀ j, j < n → laidF z (msTo n z n) j = clo n z j) := laid_clo hz hk
  have HBd : Hid (∀ k, Bds n (laidF z ((msTo n z n).take k))) := fun k => laidF_nonneg hz _ fun p hp => (mem_msTo.1 (List.mem_of_mem_take hp)).2.1
  have HNil : Hid ((((msTo n z n).length : Int) == 0) = (polE n z == 0)) := by
    show _ = _
    rw [Bool.eq_iff_iff, beq_iff_eq, beq_iff_eq, ← ms_nil hz hk, ← List.length_eq_zero_iff]
    omega
  have hlen : (msTo n z n).length ≤ n * 64 := msTo_len n z n
  generalize msTo n z n = L at *
  have HA : Hid (Cells w .u64 (some ad) n z) := ha
  generalize polE n z = pe at *
  clear e ha hz hk hchk hpc
  go_enter Try.func7, Try.ntmps7
  go_wp2_with fail
  refine (awake_any _).mono ?_
  rintro e w0 ⟨rfl, b0⟩
  go_wp2_with fail
  refine (hfa _).mono ?_
  rintro e w1 ⟨rfl, e1⟩
  subst e1
  go_wp2_with fail
  refine (h1 _ (HA.out.below b0)).mono ?_
  rintro e w2 ⟨m, cm, rfl, hm, b2⟩
  have HM : Hid (FCells w2 m L.length (fstAt L) (sndAt L)) := hm
  have hb2 := Below.onto b0 b2
  clear h1 hfa b0 b2 hm
  go_wp2_with fail
  refine (h2 _ (HA.out.below hb2)).mono ?_
  rintro e w3 ⟨c, cc, rfl, hc, b3⟩
  rw [hl] at hc
  rw [hl]
  have HC3 : Hid (Cells w3 .u64 c n (clo n z)) := hc
  have HM3 : Hid (FCells w3 m L.length (fstAt L) (sndAt L)) := HM.out.below b3
  have hb3 := Below.onto hb2 b3
  clear h2 hb2 b3 hc HM
  go_wp2_with (at_builtin; refine wpList_append_own _ rfl _ _ 22 rfl w3.heap.size 34 i0 (.int .u64 0) 1 8 Try.underlying22 hi hz0 hz1 hz2 rfl (by decide) _ _ _ rfl (World.ownsRow_made w3 #[] 0 (Nat.le_refl _) (Nat.zero_le _) rfl) ad n ca (encU n z) rfl ?qc1 ?qc2 ?qc3 ?qc4 ?qc5 ?qc6 ?_)
  case qc1 => simp [encU]
  case qc2 =>
    intro j u hj
    have hjn : j < n := by
      have := (List.getElem?_eq_some_iff.1 hj).1
      simpa [encU] using this
    obtain ⟨b, off, e, hcell⟩ := HA.out.below hb3 j hjn
    cases e
    rw [encU_at n z j hjn] at hj
    rw [Addr.add_lit]
    refine Lib.cell?_alloc_some _ ?_
    rw [hcell]; exact hj
  case qc3 => intro u hu; obtain ⟨x, _, rfl⟩ := List.mem_map.1 hu; rfl
  case qc4 => unfold maxLen; omega
  case qc5 => omega
  case qc6 => simp
  intro v' w4 hown hgrow hnil
  have hown' : w4.ownsRow w3.heap.size 34 1 v' n (encU n z) := by simpa using hown
  have b4 : Below w3.heap.size w3 w4 := ((Below.refl _ w3).alloc (Nat.le_refl _) _).grown hgrow (by simp) (by intro k hk; simp [Value.ownBlock] at hk; omega)
  clear hown hgrow hnil
  rcases hown'.2 with ⟨_, h0⟩ | ⟨g, cap, cur, rfl, hg, _⟩
  · omega
  clear hg
  have ho : OutC w4 w3.heap.size g n cap (laidF z (L.take 0)) := hown'
  clear hown'
  go_wp2_with fail
  go_loopw [8] (fun i wr => ∃ k : Nat, k ≤ L.length ∧ i = .int .i64 k ∧ OutC wr w3.heap.size g n cap (laidF z (L.take k)) ∧ Below w3.heap.size w3 wr) (fun i _ => L.length - (intOf i).toNat)
  case atStart => exact ⟨0, Nat.zero_le _, rfl, ho, b4⟩
  case round =>
    clear ho b4
    obtain ⟨k, hk, rfl, ho, hbel⟩ := hrel
    by_cases hlt : k < L.length
    · obtain ⟨p, q, hp, hq, ep, eq, et⟩ := HAt.out k hlt
      have HT : Hid (L.take (k + 1) = L.take k ++ [(p, q)]) := et
      obtain ⟨gm, rfl, hm1, hm2⟩ := HM3.out.below hbel k hlt
      rw [ep] at hm1
      rw [eq] at hm2
      have hcell := ho.cell hp
      have hfr := ho.frozen p
      obtain ⟨s0, s1⟩ := HBd.out k p hp
      have HO : Hid (bits .or .u64 (laidF z (L.take k) p) (IntKind.u64.wrap (2 ^ q)) = setI (laidF z (L.take k) p) q) := or_bit' s0 s1 (by omega)
      have hgg := ho.ge
      have HOut : Hid (OutC wr w3.heap.size g n cap (laidF z (L.take k))) := ho
      have hc64 : (q : Int) < 64 := by omega
      have hup : upd (laidF z (L.take k)) p (setI (laidF z (L.take k) p) q) = laidF z (L.take (k + 1)) := by rw [HT.out, laidF_snoc]
      have HU : Hid (upd (laidF z (L.take k)) p (setI (laidF z (L.take k) p) q) = laidF z (L.take (k + 1))) := hup
      clear ep eq et ho hup h3 h4
      generalize laidF z (L.take k) p = S at *
      go_wp2
      go_region
      all_goals go_wp2
      all_goals go_roundw
      case rel =>
        refine ⟨k + 1, by omega, by go_num, ?_, (hbel.setCell (p := ⟨g, p, none⟩) hgg _).drew⟩
        rw [← HU.out, ← HO.out]
        exact HOut.out.set p _
      case measure => simp [intOf]; omega
    · obtain rfl : k = L.length := by omega
      rw [List.take_length] at ho
      have HG : Hid (Cells wr .u64 (some ⟨g, 0, none⟩) n (laidF z L)) := ho.cells
      have HC4 : Hid (Cells wr .u64 c n (clo n z)) := HC3.out.below hbel
      have hb4 := Below.onto hb3 hbel
      clear ho hbel hb3 HC3 HM3 hk hlt
      go_wp2_with fail
      refine (h3 _ _ _ HC4.out).mono ?_
      rintro e w5 ⟨rfl, b5⟩
      have hb5 := Below.onto hb4 b5
      have HG5 : Hid (Cells w5 .u64 (some ⟨g, 0, none⟩) n (laidF z L)) := HG.out.below b5
      have HC5 : Hid (Cells w5 .u64 c n (clo n z)) := HC4.out.below b5
      clear hb4 b5 HG HC4 h3
      go_wp2_with fail
      refine (rsame2_true _ _ n cap cc _ _ _ (by omega) HG5.out HC5.out HEnd.out).mono ?_
      rintro e w6 ⟨rfl, b6⟩
      have hb6 := Below.onto hb5 b6
      clear hb5 b6 HG5 HC5
      go_wp2_with fail
      refine (h4 _ (HA.out.below hb6)).mono ?_
      rintro e w7 ⟨rfl, b7⟩
      have hb7 := Below.onto hb6 b7
      go_wp2_with fail
      go_ret
      exact ⟨ret_bool (by rw [HNil.out]; simp), hb7⟩

theorem walk (a : Option Addr) (la ca : Nat) (z : Nat → Int) (w : World) (ra : IsRow .u64 w a la ca z) :
    Calls Try.prog 7 #[.slice a la ca] w fun e w' => e = .returned (.bool true) ∧ Below w.heap.size w w' := by
  have hz : Bds (min la 17) z := fun j hj => ra.u64 j (by omega)
  have hfa := fun w => few2_any a la ca w ra.2.2.1 ra.2.1
  have ha : Cells w .u64 a (min la 17) z := ra.1.mono (by omega)
  by_cases hk : shpE (min la 17) z = 0
  · cases a with
    | none =>
      have := ra.2.1 rfl
      have := (shpE_ok hk).1
      omega
    | some ad => exact walk_ok ad la ca _ z w hfa ha hz hk
  · exact walk_bad a la ca _ z w (by omega) hfa ha hz hk

set_option maxRecDepth 100000 in
theorem lifted (os : Os) (started : os.Started) (H : Type) (enc : TypeId × Value → H) :
    ReturnsInHanded {} Try.checked os 7 .any (Rows.latticeClosedSpec.pre6 enc Try.prog Try.f7 Rows.latticeClosedRow.domain false) (Rows.latticeClosedSpec.post enc Try.prog Try.f7 false true false false) := by
  refine returnsInHanded_of_change (C := Try.checked) own started (by kernel_rfl) Try.func7
    (ChangeSpec.witness6 (enc := enc) (C := Try.checked) false ⟨#[], #[.slice none 0 0], []⟩ 8 (by kernel_rfl) (by kernel_rfl) (by kernel_rfl) (by kernel_rfl)) ?_
  intro W base args ds gs before hval0 hW hcnd _
  have hval : ∀ (j : Nat) t v, Try.f7.params[j]? = some t → args[j]? = some v → Value.okWide Try.prog W .any base t v := hval0
  have hW' := hW
  obtain ⟨p, q, hA0, hV, rfl, hfz, hnd⟩ := hW
  have hA : DataW.TrodAll enc Try.prog W 0 (fun _ => true) true Try.f7.params.toList args.toList ds p := hA0
  rw [Try.params7] at hA hval
  obtain ⟨v0, vs0, d0, ds0, p0, q0, hargs, rfl, rfl, h0, r0⟩ := trodAll_cons hA
  obtain ⟨rfl, rfl, rfl⟩ := trodAll_nil r0
  obtain rfl : args = #[v0] := by cases args; simp_all
  obtain ⟨rfl, rfl⟩ := trodVars_none hV
  obtain ⟨a0, len0, cap0, rfl⟩ := okWide_slice Try.underlying22 (hval 0 22 v0 rfl rfl)
  have k0 := h0
  have lt0 : ∀ x ∈ p0, x.block < W.heap.size := by obtain ⟨m, hm⟩ := k0; exact DataW.trod_lt m _ _ _ hm
  obtain ⟨z0, w0⟩ : ∃ z, IsRow .u64 W a0 len0 cap0 z := by
    obtain ⟨fuel, hf⟩ := h0
    rcases open_ints Try.underlying22 Try.underlying34 (by kernel_rfl) hf with ⟨hcs, _⟩ | ⟨x, l, c, zs, hcs, _, hl, hm, hz, _, hcell, hwz⟩
    · simp [Value.cells] at hcs
      obtain ⟨rfl, rfl, rfl⟩ := hcs
      exact ⟨_, isRow_nil _ _⟩
    · simp [Value.cells] at hcs
      obtain ⟨rfl, rfl, rfl⟩ := hcs
      exact ⟨_, isRow_some hl hm (by simpa using hz) hcell hwz⟩
  clear hA0 hval0
  refine (walk a0 len0 cap0 z0 W w0).mono fun e W' ⟨he, bel⟩ => ?_
  subst he
  exact ⟨_, rfl, _, _, _, [], _, [], hW', trodAll_mk1 (shut_bool Try.underlying4 _), (trodAll_cons_mk (Below.trod laidOut (by kernel_rfl) (of_decide_eq_true (by kernel_rfl)) k0 bel lt0) trodAll_mk0), rfl, bel.frame _, fun h => by cases h⟩

end Go.Proofs.Ytcfpfddbbhphgaa.latticeClosed
namespace Go.Proofs.Ytcfpfddbbhphgaa

/-- The statement LatticeClosed. -/
theorem LatticeClosedHolds : Rows.LatticeClosedSaid :=
  OpenClaim.holds_of_wide 7 Try.f7 rfl rfl rfl rfl rfl rfl rfl ⟨rfl, rfl, rfl, rfl, rfl⟩ rfl rfl rfl rfl rfl (by kernel_rfl) Try.func7 (by kernel_rfl)
    (of_decide_eq_true (by kernel_rfl)) (by unfold Func.isWrapper; first | (rw [if_pos (by decide +kernel)]; kernel_rfl) | (rw [if_neg (by decide +kernel)]; exact ⟨rfl, rfl⟩))
    (fun os started H enc _ => latticeClosed.lifted os started H enc)

end Go.Proofs.Ytcfpfddbbhphgaa
