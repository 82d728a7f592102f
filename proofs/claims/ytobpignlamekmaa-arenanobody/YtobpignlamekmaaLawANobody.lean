/- PROVED: for every act the statement ArenaNobody returns true: an arena that nobody made refuses all (P6.1, rule 3). No condition. -/
import Derived.Test.YtobpignlamekmaaRows
import Derived.Test.YtobpignlamekmaaANobody
import Derived.Test.YtobpignlamekmaaARow
import Derived.ProofKit
import Derived.ShutString
import Derived.ChangeOld
import Derived.OpenShut
namespace Go.Proofs.Ytobpignlamekmaa.arenaNobody
open Go.ChangeShapes Go.WideShapes Go.ChangeAt Go.RowKit

theorem own : ownKnob Try.prog.godebug = none := by kernel_rfl
theorem laidOut : laidOutB Try.prog = true := by kernel_rfl

set_option maxRecDepth 100000 in
set_option maxHeartbeats 16000000 in
theorem walk (ki pi ni gi xi : Int) (w : World) :
    Calls Try.prog 7 #[.agg #[.int .i64 ki, .int .i64 pi, .int .i64 ni, .int .u64 gi, .int .u64 xi]] w fun e w' => e = .returned (.bool true) ∧ Below w.heap.size w w' := by
  have F0 := five_box w (.int .i64 ki) (.int .i64 pi) (.int .i64 ni) (.int .u64 gi) (.int .u64 xi) 38
  have b0 := below_box w (.cells #[.int .i64 ki, .int .i64 pi, .int .i64 ni, .int .u64 gi, .int .u64 xi] 38)
  obtain ⟨W0, hW0⟩ : ∃ W0, w.alloc (.cells #[.int .i64 ki, .int .i64 pi, .int .i64 ni, .int .u64 gi, .int .u64 xi] 38) = W0 := ⟨_, rfl⟩
  rw [hW0] at F0 b0
  have b1 := below_box W0 (.cells #[.slice none 0 0, .slice none 0 0, .pointer none] 64)
  have N1 : Nob (W0.alloc (.cells #[.slice none 0 0, .slice none 0 0, .pointer none] 64)) (.pointer (some ⟨W0.heap.size, 0, none⟩)) := .inr ⟨_, rfl, new_at W0 #[.slice none 0 0, .slice none 0 0, .pointer none] 64 2 (by simp)⟩
  obtain ⟨W1, hW1⟩ : ∃ W1, W0.alloc (.cells #[.slice none 0 0, .slice none 0 0, .pointer none] 64) = W1 := ⟨_, rfl⟩
  rw [hW1] at b1 N1
  have b2 := below_box W1 (.cells #[.pointer none, .pointer (some ⟨W0.heap.size, 0, none⟩)] 26)
  have T2 := two_box W1 (.pointer none) (.pointer (some ⟨W0.heap.size, 0, none⟩)) 26
  obtain ⟨W2, hW2⟩ : ∃ W2, W1.alloc (.cells #[.pointer none, .pointer (some ⟨W0.heap.size, 0, none⟩)] 26) = W2 := ⟨_, rfl⟩
  rw [hW2] at b2 T2
  have HF : Hid (Five W2 w.heap.size (.int .i64 ki) (.int .i64 pi) (.int .i64 ni) (.int .u64 gi) (.int .u64 xi)) := (F0.below b1).below b2
  have HN : Hid (Nob W2 (.pointer (some ⟨W0.heap.size, 0, none⟩))) := N1.below b2
  have HT : Hid (Two W2 W1.heap.size (.pointer none) (.pointer (some ⟨W0.heap.size, 0, none⟩))) := T2
  have B2 := Below.onto (Below.onto b0 b1) b2
  have HX0 : Hid (w.heap.size = w.heap.size) := rfl
  generalize hB0 : w.heap.size = Bo at *
  generalize hB1 : W1.heap.size = Bs at *
  generalize hBz : W0.heap.size = Bz at *
  clear F0 b0 N1 b1 T2 b2 HX0
  go_enter Try.func7, Try.ntmps7
  go_wp2_with fail
  go_loopw [25] (fun vi wr => ∃ i : Nat, i ≤ 2 ∧ vi = .int .i64 i ∧ Below W2.heap.size W2 wr) (fun vi _ => 2 - (intOf vi).toNat)
  case atStart => exact ⟨0, by omega, rfl, Below.refl _ _⟩
  case round =>
    obtain ⟨i, hi, rfl, hbel⟩ := hrel
    by_cases hlt : i < 2
    · obtain ⟨v, hv, hnob⟩ : ∃ v, wr.cell? ⟨Bs, i, none⟩ = some (.pointer v) ∧ Nob wr (.pointer v) := by
        obtain ⟨t0, t1⟩ := HT.out.below hbel
        obtain rfl | rfl : i = 0 ∨ i = 1 := by omega
        · exact ⟨_, t0, .inl rfl⟩
        · exact ⟨_, t1, HN.out.below hbel⟩
      have HV : Hid (Nob wr (.pointer v)) := hnob
      have HF1 : Hid (Five wr _ _ _ _ _ _) := HF.out.below hbel
      obtain ⟨c0, c1, c2, c3, c4⟩ := HF1.out
      have h1 := alloc_n (.pointer v) pi wr HV.out
      clear hnob
      go_wp2_with fail
      refine h1.mono ?_
      rintro e w3 ⟨rfl, hb3⟩
      have hbx := below_box w3 (.cells #[.int .i64 0, .int .u64 0] 36)
      have D3 := Below.onto hb3 hbx
      have HF3 : Hid (Five _ _ _ _ _ _ _) := HF1.out.below D3
      have T3 : Hid (Two _ _ _ _) := two_box w3 (.int .i64 0) (.int .u64 0) 36
      have HV3 : Hid (Nob _ (.pointer v)) := HV.out.below D3
      have B3 := Below.onto hbel D3
      generalize hX3 : w3.heap.size = X3 at *
      clear c0 c1 c2 c3 c4 h1 hb3 hbx D3 hv HF1 HV
      obtain ⟨c0, c1, c2, c3, c4⟩ := HF3.out
      have h2 := read_n (.pointer v) ni gi _ HV3.out
      go_wp2_with fail
      refine h2.mono ?_
      rintro e w4 ⟨rfl, hb4⟩
      have HF4 : Hid (Five _ _ _ _ _ _ _) := HF3.out.below hb4
      have T4 : Hid (Two _ _ _ _) := T3.out.below hb4
      have HV4 : Hid (Nob _ (.pointer v)) := HV3.out.below hb4
      have B4 := Below.onto B3 hb4
      clear c0 c1 c2 c3 c4 h2 hb4 HF3 T3 HV3 B3
      obtain ⟨c0, c1, c2, c3, c4⟩ := HF4.out
      have h3 := counts_n (.pointer v) pi w4 HV4.out
      have h4 := part_n (.pointer v) ni w4 HV4.out
      have h5 := look_n (.pointer v) ni w4 HV4.out
      have h6 := held_n (.pointer v) pi 5 w4 HV4.out
      go_wp2_with fail
      refine h3.mono ?_
      rintro e w5 ⟨rfl, e5⟩
      subst e5
      go_wp2_with fail
      refine h4.mono ?_
      rintro e w5 ⟨rfl, e5⟩
      subst e5
      go_wp2_with fail
      refine h5.mono ?_
      rintro e w5 ⟨rfl, e5⟩
      subst e5
      go_wp2_with fail
      refine h6.mono ?_
      rintro e w6 ⟨rfl, hb6⟩
      have HF6 : Hid (Five _ _ _ _ _ _ _) := HF4.out.below hb6
      have T6 : Hid (Two _ _ _ _) := T4.out.below hb6
      have HV6 : Hid (Nob _ (.pointer v)) := HV4.out.below hb6
      have B6 := Below.onto B4 hb6
      clear c0 c1 c2 c3 c4 h3 h4 h5 h6 hb6 HF4 T4 HV4 B4
      obtain ⟨c0, c1, c2, c3, c4⟩ := HF6.out
      have h7 := write_n (.pointer v) ni gi xi w6 HV6.out
      go_wp2_with fail
      refine h7.mono ?_
      rintro e w7 ⟨rfl, hb7⟩
      have HF7 : Hid (Five _ _ _ _ _ _ _) := HF6.out.below hb7
      have T7 : Hid (Two _ _ _ _) := T6.out.below hb7
      have HV7 : Hid (Nob _ (.pointer v)) := HV6.out.below hb7
      have B7 := Below.onto B6 hb7
      clear c0 c1 c2 c3 c4 h7 hb7 HF6 T6 HV6 B6
      obtain ⟨c0, c1, c2, c3, c4⟩ := HF7.out
      have h8 := free_n (.pointer v) ni gi w7 HV7.out
      go_wp2_with fail
      refine h8.mono ?_
      rintro e w8 ⟨rfl, hb8⟩
      obtain ⟨t0, t1⟩ := T7.out.below hb8
      have B8 := Below.onto B7 hb8
      clear c0 c1 c2 c3 c4 h8 hb8 HF7 T7 HV7 B7
      go_wp2_with fail
      go_roundw
      case rel => exact ⟨i + 1, by omega, by go_num, B8⟩
      case measure => simp [intOf]; omega
    · obtain rfl : i = 2 := by omega
      go_wp2_with fail
      refine (awake_a _).mono ?_
      rintro e w4 ⟨rfl, hb4⟩
      go_wp2_with fail
      go_ret
      have BB := Below.onto (Below.onto (hB0 ▸ B2) hbel) hb4
      exact ⟨rfl, hB0 ▸ BB⟩

set_option maxRecDepth 100000 in
theorem lifted (os : Os) (started : os.Started) (H : Type) (enc : TypeId × Value → H) :
    ReturnsInHanded {} Try.checked os 7 .any (Rows.arenaNobodySpec.pre6 enc Try.prog Try.f7 Rows.arenaNobodyRow.domain false) (Rows.arenaNobodySpec.post enc Try.prog Try.f7 false true false false) := by
  refine returnsInHanded_of_change (C := Try.checked) own started (by kernel_rfl) Try.func7
    (ChangeSpec.witness6 (enc := enc) (C := Try.checked) false ⟨#[], #[.agg #[.int .i64 0, .int .i64 0, .int .i64 0, .int .u64 0, .int .u64 0]], []⟩ 8 (by kernel_rfl) (by kernel_rfl) (by kernel_rfl) (by kernel_rfl)) ?_
  intro W base args ds gs before hval0 hW hcnd _
  have hval : ∀ (j : Nat) t v, Try.f7.params[j]? = some t → args[j]? = some v → Value.okWide Try.prog W .any base t v := hval0
  have hW' := hW
  obtain ⟨p, q, hA0, hV, rfl, hfz, hnd⟩ := hW
  have hA : DataW.TrodAll enc Try.prog W 0 (fun _ => true) true Try.f7.params.toList args.toList ds p := hA0
  rw [Try.params7] at hA hval
  obtain ⟨v0, vs0, d0, ds0, p0, q0, hargs, rfl, rfl, h0, r0⟩ := trodAll_cons hA
  obtain ⟨rfl, rfl, rfl⟩ := trodAll_nil r0
  obtain rfl : args = #[v0] := by cases args; simp_all
  obtain ⟨rfl, rfl⟩ := trodVars_none hV
  have k0 := h0
  have lt0 : ∀ x ∈ p0, x.block < W.heap.size := by obtain ⟨m, hm⟩ := k0; exact DataW.trod_lt m _ _ _ hm
  obtain ⟨ok, op, on, og, ox, rfl, w0⟩ := open_aop (hval 0 38 v0 rfl rfl) h0
  clear hA0 hval0
  refine (walk ok op on og ox W).mono fun e W' ⟨he, bel⟩ => ?_
  subst he
  exact ⟨_, rfl, _, _, _, [], _, [], hW', trodAll_mk1 (shut_bool Try.underlying4 _), (trodAll_cons_mk (Below.trod laidOut (by kernel_rfl) (of_decide_eq_true (by kernel_rfl)) k0 bel lt0) trodAll_mk0), rfl, bel.frame _, fun h => by cases h⟩

end Go.Proofs.Ytobpignlamekmaa.arenaNobody
namespace Go.Proofs.Ytobpignlamekmaa

/-- The statement ArenaNobody. -/
theorem ArenaNobodyHolds : Rows.ArenaNobodySaid :=
  OpenClaim.holds_of_wide 7 Try.f7 rfl rfl rfl rfl rfl rfl rfl ⟨rfl, rfl, rfl, rfl, rfl⟩ rfl rfl rfl rfl rfl (by kernel_rfl) Try.func7 (by kernel_rfl)
    (of_decide_eq_true (by kernel_rfl)) (by unfold Func.isWrapper; first | (rw [if_pos (by decide +kernel)]; kernel_rfl) | (rw [if_neg (by decide +kernel)]; exact ⟨rfl, rfl⟩))
    (fun os started H enc _ => arenaNobody.lifted os started H enc)

end Go.Proofs.Ytobpignlamekmaa
