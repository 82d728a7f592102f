/- PROVED: for every reply the statement WireReplies returns true: wire.ReplyBytes answers as the document says (P3.3). No condition. -/
import Derived.Test.YtmhkkdbfejajeaaRows
import Derived.Test.YtmhkkdbfejajeaaWAlive
import Derived.Test.YtmhkkdbfejajeaaWRow
import Derived.ProofKit
import Derived.ShutString
import Derived.ChangeOld
import Derived.OpenShut
namespace Go.Proofs.Ytmhkkdbfejajeaa.wireReplies
open Go.ChangeShapes Go.WideShapes Go.ChangeAt Go.RowKit

theorem own : ownKnob Try.prog.godebug = none := by kernel_rfl
theorem laidOut : laidOutB Try.prog = true := by kernel_rfl

set_option maxRecDepth 100000 in
set_option maxHeartbeats 4000000 in
theorem walk (k a h p : Int) (hi : RpyIs k a h p) (w : World) :
    Calls Try.prog 6 #[.agg #[.int .u8 k, .int .u8 a, .int .u32 h, .int .u64 p]] w fun e w' => e = .returned (.bool true) ∧ Below w.heap.size w w' := by
  obtain ⟨_, _, ⟨h0, h1⟩, p0, p1⟩ := hi
  cases hok : repB k a h p
  · have c1 := fun w => rpb_no k a h p w hok
    have c2 := fun w => rrpb_no k a h p w hok
    have cn := conv_nil
    clear hok
    go_enter Try.func6, Try.ntmps6
    go_wp2_with fail
    refine (c1 _).mono ?_
    rintro e w1 ⟨rfl, h1⟩
    have hB : Below (w.heap.size + 1) _ w1 := h1.mono (by simp)
    obtain ⟨x0, x1, x2, x3⟩ := agg4_cells _ _ _ _ _ _ _ hB
    have hb1 : Below w.heap.size w w1 := ((Below.refl _ w).alloc (Nat.le_refl _) _).trans (hB.mono (by omega))
    clear h1 hB
    go_wp2_with fail
    refine (c2 _).mono ?_
    rintro e w2 ⟨rfl, h2⟩
    have hb2 := Below.onto hb1 h2
    clear h2 hb1 x0 x1 x2 x3 c1 c2
    go_wp2_with fail
    refine (walive_any _).mono ?_
    rintro e w3 ⟨rfl, h3⟩
    go_wp2_with fail
    go_ret
    exact ⟨rfl, Below.onto hb2 h3⟩
  · have c1 := fun w => rpb_ok k a h p w h0 h1 hok
    have c2 := fun w => rrpb_ok k a h p w h0 h1 p0 p1 hok
    clear hok
    generalize layZ k a 0 h p = z at *
    go_enter Try.func6, Try.ntmps6
    go_wp2_with fail
    refine (c1 _).mono ?_
    rintro e w1 ⟨B, rfl, hl, _, h1⟩
    have hB : Below (w.heap.size + 1) _ w1 := h1.mono (by simp)
    obtain ⟨x0, x1, x2, x3⟩ := agg4_cells _ _ _ _ _ _ _ hB
    have hb1 : Below w.heap.size w w1 := ((Below.refl _ w).alloc (Nat.le_refl _) _).trans (hB.mono (by omega))
    have HC : Hid (Cells w1 .u8 (some ⟨B, 0, none⟩) 16 z) := hl.cells
    clear h1 hB hl
    go_wp2_with fail
    refine (c2 _).mono ?_
    rintro e w2 ⟨b, cap, rfl, hc, h2⟩
    have hb2 := Below.onto hb1 h2
    have v1 := conv_at (cap := 16) (HC.out.below h2)
    have v2 := conv_at (cap := cap) hc
    clear h2 hb1 x0 x1 x2 x3 c1 c2 HC hc
    generalize strZ 16 z = t at *
    go_wp2_with fail
    refine (walive_any _).mono ?_
    rintro e w3 ⟨rfl, h3⟩
    go_wp2_with fail
    go_ret
    exact ⟨rfl, Below.onto hb2 h3⟩

set_option maxRecDepth 100000 in
theorem lifted (os : Os) (started : os.Started) (H : Type) (enc : TypeId × Value → H) :
    ReturnsInHanded {} Try.checked os 6 .any (Rows.wireRepliesSpec.pre6 enc Try.prog Try.f6 Rows.wireRepliesRow.domain false) (Rows.wireRepliesSpec.post enc Try.prog Try.f6 false true false false) := by
  refine returnsInHanded_of_change (C := Try.checked) own started (by kernel_rfl) Try.func6
    (ChangeSpec.witness6 (enc := enc) (C := Try.checked) false ⟨#[], #[.agg #[.int .u8 0, .int .u8 0, .int .u32 0, .int .u64 0]], []⟩ 8 (by kernel_rfl) (by kernel_rfl) (by kernel_rfl) (by kernel_rfl)) ?_
  intro W base args ds gs before hval0 hW hcnd _
  have hval : ∀ (j : Nat) t v, Try.f6.params[j]? = some t → args[j]? = some v → Value.okWide Try.prog W .any base t v := hval0
  have hW' := hW
  obtain ⟨p, q, hA0, hV, rfl, hfz, hnd⟩ := hW
  have hA : DataW.TrodAll enc Try.prog W 0 (fun _ => true) true Try.f6.params.toList args.toList ds p := hA0
  rw [Try.params6] at hA hval
  obtain ⟨v0, vs0, d0, ds0, p0, q0, hargs, rfl, rfl, h0, r0⟩ := trodAll_cons hA
  obtain ⟨rfl, rfl, rfl⟩ := trodAll_nil r0
  obtain rfl : args = #[v0] := by cases args; simp_all
  obtain ⟨rfl, rfl⟩ := trodVars_none hV
  have k0 := h0
  have lt0 : ∀ x ∈ p0, x.block < W.heap.size := by obtain ⟨m, hm⟩ := k0; exact DataW.trod_lt m _ _ _ hm
  obtain ⟨sk, sa, sh, sp, rfl, w0⟩ := open_rpy (hval 0 43 v0 rfl rfl) h0
  clear hA0 hval0
  refine (walk sk sa sh sp w0 W).mono fun e W' ⟨he, bel⟩ => ?_
  subst he
  exact ⟨_, rfl, _, _, _, [], _, [], hW', trodAll_mk1 (shut_bool Try.underlying4 _), (trodAll_cons_mk (Below.trod laidOut (by kernel_rfl) (of_decide_eq_true (by kernel_rfl)) k0 bel lt0) trodAll_mk0), rfl, bel.frame _, fun h => by cases h⟩

end Go.Proofs.Ytmhkkdbfejajeaa.wireReplies
namespace Go.Proofs.Ytmhkkdbfejajeaa

/-- The statement WireReplies. -/
theorem WireRepliesHolds : Rows.WireRepliesSaid :=
  OpenClaim.holds_of_wide 6 Try.f6 rfl rfl rfl rfl rfl rfl rfl ⟨rfl, rfl, rfl, rfl, rfl⟩ rfl rfl rfl rfl rfl (by kernel_rfl) Try.func6 (by kernel_rfl)
    (of_decide_eq_true (by kernel_rfl)) (by unfold Func.isWrapper; first | (rw [if_pos (by decide +kernel)]; kernel_rfl) | (rw [if_neg (by decide +kernel)]; exact ⟨rfl, rfl⟩))
    (fun os started H enc _ => wireReplies.lifted os started H enc)

end Go.Proofs.Ytmhkkdbfejajeaa
