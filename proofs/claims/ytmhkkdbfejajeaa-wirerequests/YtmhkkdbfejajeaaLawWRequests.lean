/- PROVED: for every request the statement WireRequests returns true: wire.Check and wire.Bytes answer as the document says (P3.1). No condition. -/
import Derived.Test.YtmhkkdbfejajeaaRows
import Derived.Test.YtmhkkdbfejajeaaWUn
import Derived.Test.YtmhkkdbfejajeaaWRow
import Derived.ProofKit
import Derived.ShutString
import Derived.ChangeOld
import Derived.OpenShut
namespace Go.Proofs.Ytmhkkdbfejajeaa.wireRequests
open Go.ChangeShapes Go.WideShapes Go.ChangeAt Go.RowKit

theorem own : ownKnob Try.prog.godebug = none := by kernel_rfl
theorem laidOut : laidOutB Try.prog = true := by kernel_rfl

/-- what is kept through the statement's last line -/
def K (w : World) (k a r h p : Int) (s1 s2 : Option Addr) (n : Nat) (z : Nat → Int) (W : World) : Prop :=
  Has5 W w.heap.size (.int .u8 k) (.int .u8 a) (.int .u8 r) (.int .u32 h) (.int .u64 p) ∧ Cells W .u8 s1 n z ∧ Cells W .u8 s2 n z ∧ Below w.heap.size w W
theorem K.on {w W W' : World} {k a r h p : Int} {s1 s2 : Option Addr} {n : Nat} {z : Nat → Int} (hK : K w k a r h p s1 s2 n z W) (hb : Below W.heap.size W W') : K w k a r h p s1 s2 n z W' :=
  ⟨hK.1.below hb, hK.2.1.below hb, hK.2.2.1.below hb, Below.onto hK.2.2.2 hb⟩
set_option maxRecDepth 100000 in
set_option maxHeartbeats 4000000 in
theorem walk_0 (k a r h p : Int) (hi : ReqIs k a r h p) (w : World) (hok : okB k a r h p = false) :
    Calls Try.prog 3 #[.agg #[.int .u8 k, .int .u8 a, .int .u8 r, .int .u32 h, .int .u64 p]] w fun e w' => e = .returned (.bool true) ∧ Below w.heap.size w w' := by
  obtain ⟨_, _, ⟨r0, _⟩, _⟩ := hi
  have cb := fun w => bytes_no k a r h p w r0 hok
  have crb := fun w => rbytes_no k a r h p w hok
  have cn := conv_nil
  have ck := fun W => check_any k a r h p W r0
  have ci := fun W => is_any k a r h p W
  rw [hok] at ck ci
  rw [show errI false = 30 from rfl] at ck
  clear hok r0
  go_enter Try.func3, Try.ntmps3
  go_wp2_with fail
  refine (cb _).mono ?_
  rintro e w1 ⟨rfl, h1⟩
  have A := (has5_new w (.int .u8 k) (.int .u8 a) (.int .u8 r) (.int .u32 h) (.int .u64 p) 26).below h1
  have B1 := Below.onto (below_alloc w _) h1
  have HA : Hid (Has5 _ w.heap.size _ _ _ _ _) := A
  obtain ⟨x0, x1, x2, x3, x4⟩ := A
  clear h1 cb
  go_wp2_with fail
  refine (crb _).mono ?_
  rintro e w2 ⟨rfl, h2⟩
  have hK : K w k a r h p none none 0 (fun _ => 0) w2 := ⟨HA.out.below h2, fun j hj => absurd hj (by omega), fun j hj => absurd hj (by omega), Below.onto B1 h2⟩
  generalize hKK : K w k a r h p none none 0 (fun _ => 0) = L at *
  have on : ∀ {W W'}, L W → Below W.heap.size W W' → L W' := by subst hKK; exact fun h hb => K.on h hb
  have lb : ∀ {W}, L W → Below w.heap.size w W := by subst hKK; exact fun h => h.2.2.2
  have toS : ∀ W, L W → W.cell? ⟨w.heap.size, 0, none⟩ = some (.int .u8 k) ∧ W.cell? ⟨w.heap.size, 1, none⟩ = some (.int .u8 a) ∧ W.cell? ⟨w.heap.size, 2, none⟩ = some (.int .u8 r) ∧ W.cell? ⟨w.heap.size, 3, none⟩ = some (.int .u32 h) ∧ W.cell? ⟨w.heap.size, 4, none⟩ = some (.int .u64 p) ∧ L W := by
    intro W hL
    have hc := by rw [← hKK] at hL; exact hL.1
    exact ⟨hc.1, hc.2.1, hc.2.2.1, hc.2.2.2.1, hc.2.2.2.2, hL⟩
  have dK : w2.drew.cell? ⟨w.heap.size, 0, none⟩ = some (.int .u8 k) ∧ w2.drew.cell? ⟨w.heap.size, 1, none⟩ = some (.int .u8 a) ∧ w2.drew.cell? ⟨w.heap.size, 2, none⟩ = some (.int .u8 r) ∧ w2.drew.cell? ⟨w.heap.size, 3, none⟩ = some (.int .u32 h) ∧ w2.drew.cell? ⟨w.heap.size, 4, none⟩ = some (.int .u64 p) ∧ L w2.drew := toS _ (on hK (Below.refl _ _).drew)
  have ck' : ∀ W, (W.cell? ⟨w.heap.size, 0, none⟩ = some (.int .u8 k) ∧ W.cell? ⟨w.heap.size, 1, none⟩ = some (.int .u8 a) ∧ W.cell? ⟨w.heap.size, 2, none⟩ = some (.int .u8 r) ∧ W.cell? ⟨w.heap.size, 3, none⟩ = some (.int .u32 h) ∧ W.cell? ⟨w.heap.size, 4, none⟩ = some (.int .u64 p) ∧ L W) → Calls Try.prog 11 #[.agg #[.int .u8 k, .int .u8 a, .int .u8 r, .int .u32 h, .int .u64 p]] W fun e w' => e = .returned (.int .i64 30) ∧ L w' := fun W h => (ck W).mono fun e w' ⟨he, hb⟩ => ⟨he, on h.2.2.2.2.2 hb⟩
  have ci' : ∀ W, (W.cell? ⟨w.heap.size, 0, none⟩ = some (.int .u8 k) ∧ W.cell? ⟨w.heap.size, 1, none⟩ = some (.int .u8 a) ∧ W.cell? ⟨w.heap.size, 2, none⟩ = some (.int .u8 r) ∧ W.cell? ⟨w.heap.size, 3, none⟩ = some (.int .u32 h) ∧ W.cell? ⟨w.heap.size, 4, none⟩ = some (.int .u64 p) ∧ L W) → Calls Try.prog 12 #[.agg #[.int .u8 k, .int .u8 a, .int .u8 r, .int .u32 h, .int .u64 p]] W fun e w' => e = .returned (.bool false) ∧ L w' := fun W h => (ci W).mono fun e w' ⟨he, hb⟩ => ⟨he, on h.2.2.2.2.2 hb⟩
  have ca' : ∀ W, (W.cell? ⟨w.heap.size, 0, none⟩ = some (.int .u8 k) ∧ W.cell? ⟨w.heap.size, 1, none⟩ = some (.int .u8 a) ∧ W.cell? ⟨w.heap.size, 2, none⟩ = some (.int .u8 r) ∧ W.cell? ⟨w.heap.size, 3, none⟩ = some (.int .u32 h) ∧ W.cell? ⟨w.heap.size, 4, none⟩ = some (.int .u64 p) ∧ L W) → Calls Try.prog 13 #[] W fun e w' => e = .returned (.bool true) ∧ L w' := fun W h => (walive_any W).mono fun e w' ⟨he, hb⟩ => ⟨he, on h.2.2.2.2.2 hb⟩
  clear x0 x1 x2 x3 x4 HA B1 h2 crb hKK ck ci hK
  go_wp2_with fail
  go_region_held3 (fun W => W.cell? ⟨w.heap.size, 0, none⟩ = some (.int .u8 k) ∧ W.cell? ⟨w.heap.size, 1, none⟩ = some (.int .u8 a) ∧ W.cell? ⟨w.heap.size, 2, none⟩ = some (.int .u8 r) ∧ W.cell? ⟨w.heap.size, 3, none⟩ = some (.int .u32 h) ∧ W.cell? ⟨w.heap.size, 4, none⟩ = some (.int .u64 p) ∧ L W) (first | assumption | exact toS _ (by assumption)) (first
    | (go_at_call 11; refine (ck' _ ?_).mono ?_; assumption; rintro e w' ⟨rfl, hL⟩)
    | (go_at_call 12; refine (ci' _ ?_).mono ?_; assumption; rintro e w' ⟨rfl, hL⟩)
    | (go_at_call 13; refine (ca' _ ?_).mono ?_; assumption; rintro e w' ⟨rfl, hL⟩))
  go_wp2_with fail
  go_ret
  exact ⟨rfl, lb (by assumption)⟩
set_option maxRecDepth 100000 in
set_option maxHeartbeats 4000000 in
theorem walk_1 (k a r h p : Int) (hi : ReqIs k a r h p) (w : World) (hok : okB k a r h p = true) :
    Calls Try.prog 3 #[.agg #[.int .u8 k, .int .u8 a, .int .u8 r, .int .u32 h, .int .u64 p]] w fun e w' => e = .returned (.bool true) ∧ Below w.heap.size w w' := by
  obtain ⟨_, _, ⟨r0, _⟩, ⟨h0, h1⟩, p0, p1⟩ := hi
  have cb := fun w => bytes_ok k a r h p w r0 h0 h1 hok
  have crb := fun w => rbytes_ok k a r h p w h0 h1 p0 p1 hok
  have ck := fun W => check_any k a r h p W r0
  have ci := fun W => is_any k a r h p W
  rw [hok] at ck ci
  rw [show errI true = 0 from rfl] at ck
  clear hok r0 h0 h1 p0 p1
  generalize layZ k a r h p = z at *
  go_enter Try.func3, Try.ntmps3
  go_wp2_with fail
  refine (cb _).mono ?_
  rintro e w1 ⟨D, rfl, hl, _, h1⟩
  have hd := hl.cells
  have A := (has5_new w (.int .u8 k) (.int .u8 a) (.int .u8 r) (.int .u32 h) (.int .u64 p) 26).below h1
  have B1 := Below.onto (below_alloc w _) h1
  have HA : Hid (Has5 _ w.heap.size _ _ _ _ _) := A
  obtain ⟨x0, x1, x2, x3, x4⟩ := A
  have HD : Hid (Cells w1 .u8 (some ⟨D, 0, none⟩) 16 z) := hd
  clear hd hl
  clear h1 cb
  go_wp2_with fail
  refine (crb _).mono ?_
  rintro e w2 ⟨D2, cap2, rfl, hc, h2⟩
  have hK : K w k a r h p (some ⟨D, 0, none⟩) (some ⟨D2, 0, none⟩) 16 z w2 := ⟨HA.out.below h2, HD.out.below h2, hc, Below.onto B1 h2⟩
  have v1 : ∀ W, K w k a r h p (some ⟨D, 0, none⟩) (some ⟨D2, 0, none⟩) 16 z W → (convert 27 9 (.slice (some ⟨D, 0, none⟩) 16 16)).run Try.prog W = .ok (.string (strZ 16 z)) W := fun W h => conv_at h.2.1
  have v2 : ∀ W, K w k a r h p (some ⟨D, 0, none⟩) (some ⟨D2, 0, none⟩) 16 z W → (convert 27 9 (.slice (some ⟨D2, 0, none⟩) 16 cap2)).run Try.prog W = .ok (.string (strZ 16 z)) W := fun W h => conv_at h.2.2.1
  clear hc HD
  generalize hKK : K w k a r h p (some ⟨D, 0, none⟩) (some ⟨D2, 0, none⟩) 16 z = L at *
  generalize strZ 16 z = t at *
  have on : ∀ {W W'}, L W → Below W.heap.size W W' → L W' := by subst hKK; exact fun h hb => K.on h hb
  have lb : ∀ {W}, L W → Below w.heap.size w W := by subst hKK; exact fun h => h.2.2.2
  have toS : ∀ W, L W → W.cell? ⟨w.heap.size, 0, none⟩ = some (.int .u8 k) ∧ W.cell? ⟨w.heap.size, 1, none⟩ = some (.int .u8 a) ∧ W.cell? ⟨w.heap.size, 2, none⟩ = some (.int .u8 r) ∧ W.cell? ⟨w.heap.size, 3, none⟩ = some (.int .u32 h) ∧ W.cell? ⟨w.heap.size, 4, none⟩ = some (.int .u64 p) ∧ (convert 27 9 (.slice (some ⟨D, 0, none⟩) 16 16)).run Try.prog W = .ok (.string t) W ∧ (convert 27 9 (.slice (some ⟨D2, 0, none⟩) 16 cap2)).run Try.prog W = .ok (.string t) W ∧ L W := by
    intro W hL
    have hc := by rw [← hKK] at hL; exact hL.1
    exact ⟨hc.1, hc.2.1, hc.2.2.1, hc.2.2.2.1, hc.2.2.2.2, v1 W hL, v2 W hL, hL⟩
  have dK : w2.drew.cell? ⟨w.heap.size, 0, none⟩ = some (.int .u8 k) ∧ w2.drew.cell? ⟨w.heap.size, 1, none⟩ = some (.int .u8 a) ∧ w2.drew.cell? ⟨w.heap.size, 2, none⟩ = some (.int .u8 r) ∧ w2.drew.cell? ⟨w.heap.size, 3, none⟩ = some (.int .u32 h) ∧ w2.drew.cell? ⟨w.heap.size, 4, none⟩ = some (.int .u64 p) ∧ (convert 27 9 (.slice (some ⟨D, 0, none⟩) 16 16)).run Try.prog w2.drew = .ok (.string t) w2.drew ∧ (convert 27 9 (.slice (some ⟨D2, 0, none⟩) 16 cap2)).run Try.prog w2.drew = .ok (.string t) w2.drew ∧ L w2.drew := toS _ (on hK (Below.refl _ _).drew)
  have ck' : ∀ W, (W.cell? ⟨w.heap.size, 0, none⟩ = some (.int .u8 k) ∧ W.cell? ⟨w.heap.size, 1, none⟩ = some (.int .u8 a) ∧ W.cell? ⟨w.heap.size, 2, none⟩ = some (.int .u8 r) ∧ W.cell? ⟨w.heap.size, 3, none⟩ = some (.int .u32 h) ∧ W.cell? ⟨w.heap.size, 4, none⟩ = some (.int .u64 p) ∧ (convert 27 9 (.slice (some ⟨D, 0, none⟩) 16 16)).run Try.prog W = .ok (.string t) W ∧ (convert 27 9 (.slice (some ⟨D2, 0, none⟩) 16 cap2)).run Try.prog W = .ok (.string t) W ∧ L W) → Calls Try.prog 11 #[.agg #[.int .u8 k, .int .u8 a, .int .u8 r, .int .u32 h, .int .u64 p]] W fun e w' => e = .returned (.int .i64 0) ∧ L w' := fun W h => (ck W).mono fun e w' ⟨he, hb⟩ => ⟨he, on h.2.2.2.2.2.2.2 hb⟩
  have ci' : ∀ W, (W.cell? ⟨w.heap.size, 0, none⟩ = some (.int .u8 k) ∧ W.cell? ⟨w.heap.size, 1, none⟩ = some (.int .u8 a) ∧ W.cell? ⟨w.heap.size, 2, none⟩ = some (.int .u8 r) ∧ W.cell? ⟨w.heap.size, 3, none⟩ = some (.int .u32 h) ∧ W.cell? ⟨w.heap.size, 4, none⟩ = some (.int .u64 p) ∧ (convert 27 9 (.slice (some ⟨D, 0, none⟩) 16 16)).run Try.prog W = .ok (.string t) W ∧ (convert 27 9 (.slice (some ⟨D2, 0, none⟩) 16 cap2)).run Try.prog W = .ok (.string t) W ∧ L W) → Calls Try.prog 12 #[.agg #[.int .u8 k, .int .u8 a, .int .u8 r, .int .u32 h, .int .u64 p]] W fun e w' => e = .returned (.bool true) ∧ L w' := fun W h => (ci W).mono fun e w' ⟨he, hb⟩ => ⟨he, on h.2.2.2.2.2.2.2 hb⟩
  have ca' : ∀ W, (W.cell? ⟨w.heap.size, 0, none⟩ = some (.int .u8 k) ∧ W.cell? ⟨w.heap.size, 1, none⟩ = some (.int .u8 a) ∧ W.cell? ⟨w.heap.size, 2, none⟩ = some (.int .u8 r) ∧ W.cell? ⟨w.heap.size, 3, none⟩ = some (.int .u32 h) ∧ W.cell? ⟨w.heap.size, 4, none⟩ = some (.int .u64 p) ∧ (convert 27 9 (.slice (some ⟨D, 0, none⟩) 16 16)).run Try.prog W = .ok (.string t) W ∧ (convert 27 9 (.slice (some ⟨D2, 0, none⟩) 16 cap2)).run Try.prog W = .ok (.string t) W ∧ L W) → Calls Try.prog 13 #[] W fun e w' => e = .returned (.bool true) ∧ L w' := fun W h => (walive_any W).mono fun e w' ⟨he, hb⟩ => ⟨he, on h.2.2.2.2.2.2.2 hb⟩
  clear x0 x1 x2 x3 x4 HA B1 h2 crb hKK ck ci hK v1 v2
  go_wp2_with fail
  go_region_held3 (fun W => W.cell? ⟨w.heap.size, 0, none⟩ = some (.int .u8 k) ∧ W.cell? ⟨w.heap.size, 1, none⟩ = some (.int .u8 a) ∧ W.cell? ⟨w.heap.size, 2, none⟩ = some (.int .u8 r) ∧ W.cell? ⟨w.heap.size, 3, none⟩ = some (.int .u32 h) ∧ W.cell? ⟨w.heap.size, 4, none⟩ = some (.int .u64 p) ∧ (convert 27 9 (.slice (some ⟨D, 0, none⟩) 16 16)).run Try.prog W = .ok (.string t) W ∧ (convert 27 9 (.slice (some ⟨D2, 0, none⟩) 16 cap2)).run Try.prog W = .ok (.string t) W ∧ L W) (first | assumption | exact toS _ (by assumption)) (first
    | (go_at_call 11; refine (ck' _ ?_).mono ?_; assumption; rintro e w' ⟨rfl, hL⟩)
    | (go_at_call 12; refine (ci' _ ?_).mono ?_; assumption; rintro e w' ⟨rfl, hL⟩)
    | (go_at_call 13; refine (ca' _ ?_).mono ?_; assumption; rintro e w' ⟨rfl, hL⟩))
  go_wp2_with fail
  go_ret
  exact ⟨rfl, lb (by assumption)⟩
theorem walk (k a r h p : Int) (hi : ReqIs k a r h p) (w : World) :
    Calls Try.prog 3 #[.agg #[.int .u8 k, .int .u8 a, .int .u8 r, .int .u32 h, .int .u64 p]] w fun e w' => e = .returned (.bool true) ∧ Below w.heap.size w w' := by
  cases hok : okB k a r h p
  · exact walk_0 k a r h p hi w hok
  · exact walk_1 k a r h p hi w hok

set_option maxRecDepth 100000 in
theorem lifted (os : Os) (started : os.Started) (H : Type) (enc : TypeId × Value → H) :
    ReturnsInHanded {} Try.checked os 3 .any (Rows.wireRequestsSpec.pre6 enc Try.prog Try.f3 Rows.wireRequestsRow.domain false) (Rows.wireRequestsSpec.post enc Try.prog Try.f3 false true false false) := by
  refine returnsInHanded_of_change (C := Try.checked) own started (by kernel_rfl) Try.func3
    (ChangeSpec.witness6 (enc := enc) (C := Try.checked) false ⟨#[], #[.agg #[.int .u8 0, .int .u8 0, .int .u8 0, .int .u32 0, .int .u64 0]], []⟩ 8 (by kernel_rfl) (by kernel_rfl) (by kernel_rfl) (by kernel_rfl)) ?_
  intro W base args ds gs before hval0 hW hcnd _
  have hval : ∀ (j : Nat) t v, Try.f3.params[j]? = some t → args[j]? = some v → Value.okWide Try.prog W .any base t v := hval0
  have hW' := hW
  obtain ⟨p, q, hA0, hV, rfl, hfz, hnd⟩ := hW
  have hA : DataW.TrodAll enc Try.prog W 0 (fun _ => true) true Try.f3.params.toList args.toList ds p := hA0
  rw [Try.params3] at hA hval
  obtain ⟨v0, vs0, d0, ds0, p0, q0, hargs, rfl, rfl, h0, r0⟩ := trodAll_cons hA
  obtain ⟨rfl, rfl, rfl⟩ := trodAll_nil r0
  obtain rfl : args = #[v0] := by cases args; simp_all
  obtain ⟨rfl, rfl⟩ := trodVars_none hV
  have k0 := h0
  have lt0 : ∀ x ∈ p0, x.block < W.heap.size := by obtain ⟨m, hm⟩ := k0; exact DataW.trod_lt m _ _ _ hm
  obtain ⟨k, a, r, h, p, rfl, w0⟩ := open_req (hval 0 26 v0 rfl rfl) h0
  clear hA0 hval0
  refine (walk k a r h p w0 W).mono fun e W' ⟨he, bel⟩ => ?_
  subst he
  exact ⟨_, rfl, _, _, _, [], _, [], hW', trodAll_mk1 (shut_bool Try.underlying4 _), (trodAll_cons_mk (Below.trod laidOut (by kernel_rfl) (of_decide_eq_true (by kernel_rfl)) k0 bel lt0) trodAll_mk0), rfl, bel.frame _, fun h => by cases h⟩

end Go.Proofs.Ytmhkkdbfejajeaa.wireRequests
namespace Go.Proofs.Ytmhkkdbfejajeaa

/-- The statement WireRequests. -/
theorem WireRequestsHolds : Rows.WireRequestsSaid :=
  OpenClaim.holds_of_wide 3 Try.f3 rfl rfl rfl rfl rfl rfl rfl ⟨rfl, rfl, rfl, rfl, rfl⟩ rfl rfl rfl rfl rfl (by kernel_rfl) Try.func3 (by kernel_rfl)
    (of_decide_eq_true (by kernel_rfl)) (by unfold Func.isWrapper; first | (rw [if_pos (by decide +kernel)]; kernel_rfl) | (rw [if_neg (by decide +kernel)]; exact ⟨rfl, rfl⟩))
    (fun os started H enc _ => wireRequests.lifted os started H enc)

end Go.Proofs.Ytmhkkdbfejajeaa
