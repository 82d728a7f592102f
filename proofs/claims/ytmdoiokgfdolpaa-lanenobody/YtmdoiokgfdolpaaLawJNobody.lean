/- PROVED: for every act the statement LaneNobody returns true: a lane that nobody made refuses all (P8.1, rule 3). No condition. -/
import Derived.Test.YtmdoiokgfdolpaaRows
import Derived.Test.YtmdoiokgfdolpaaJNobody
import Derived.Test.YtmdoiokgfdolpaaJAwake
import Derived.Deep.RegionHeld3
import Derived.Test.YtmdoiokgfdolpaaJRow
import Derived.ProofKit
import Derived.ShutString
import Derived.ChangeOld
import Derived.OpenShut
namespace Go.Proofs.Ytmdoiokgfdolpaa.laneNobody
open Go.ChangeShapes Go.WideShapes Go.ChangeAt Go.RowKit

theorem own : ownKnob Try.prog.godebug = none := by kernel_rfl
theorem laidOut : laidOutB Try.prog = true := by kernel_rfl

theorem zero390 (w : World) : (w.alloc (.cells Try.zeroCells67 67)).cell? ⟨w.heap.size, 390, none⟩ = some (.map none) := by
  have hb : (w.alloc (.cells Try.zeroCells67 67)).heap[w.heap.size]? = some (.cells Try.zeroCells67 67 (0, 0)) := World.alloc_heap_new w _
  have z : Try.zeroCells67[390]? = some (.map none) := by kernel_rfl
  rw [cell_of_row _ _ 390 _ 67 (0, 0) hb]
  exact z
theorem joAt_new (w : World) (o : Jo) : JoAt (w.alloc (.cells #[.int .i64 o.k, .int .u64 o.q, .int .u64 o.e, .int .i64 o.n, .int .u64 o.g, .int .i64 o.t, .int .i64 o.s] 40)) w.heap.size 0 o :=
  ⟨jnew_at w _ _ 0 (by simp), jnew_at w _ _ 1 (by simp), jnew_at w _ _ 2 (by simp), jnew_at w _ _ 3 (by simp), jnew_at w _ _ 4 (by simp), jnew_at w _ _ 5 (by simp), jnew_at w _ _ 6 (by simp)⟩
set_option maxRecDepth 100000 in
set_option maxHeartbeats 16000000 in
theorem walk (o : Jo) (w : World) :
    Calls Try.prog 8 #[joV o] w fun e w' => e = .returned (.bool true) ∧ Below w.heap.size w w' := by
  have J0 := joAt_new w o
  have b0 := jalloc (Below.refl _ w) (.cells #[.int .i64 o.k, .int .u64 o.q, .int .u64 o.e, .int .i64 o.n, .int .u64 o.g, .int .i64 o.t, .int .i64 o.s] 40)
  obtain ⟨W0, hW0⟩ : ∃ W0, w.alloc (.cells #[.int .i64 o.k, .int .u64 o.q, .int .u64 o.e, .int .i64 o.n, .int .u64 o.g, .int .i64 o.t, .int .i64 o.s] 40) = W0 := ⟨_, rfl⟩
  rw [hW0] at J0 b0
  have b1 := jalloc (Below.refl _ W0) (.cells Try.zeroCells67 67)
  have N1 : Nob (W0.alloc (.cells Try.zeroCells67 67)) (pV W0.heap.size) := .inr ⟨_, rfl, zero390 W0⟩
  obtain ⟨W1, hW1⟩ : ∃ W1, W0.alloc (.cells Try.zeroCells67 67) = W1 := ⟨_, rfl⟩
  rw [hW1] at b1 N1
  have b2 := jalloc (Below.refl _ W1) (.cells #[.pointer none, pV W0.heap.size] 25)
  have T2 := b2_new W1 (.pointer none) (pV W0.heap.size) 25
  obtain ⟨W2, hW2⟩ : ∃ W2, W1.alloc (.cells #[.pointer none, pV W0.heap.size] 25) = W2 := ⟨_, rfl⟩
  rw [hW2] at b2 T2
  have HF : Hid (JoAt W2 w.heap.size 0 o) := (J0.below b1).below b2
  have HN : Hid (Nob W2 (pV W0.heap.size)) := N1.below b2
  have HT : Hid (B2 W2 W1.heap.size (.pointer none) (pV W0.heap.size)) := T2
  have D2 := Below.onto (Below.onto b0 b1) b2
  have cA := jawake
  generalize hB0 : w.heap.size = Bo at *
  generalize hB1 : W1.heap.size = Bs at *
  generalize hBz : W0.heap.size = Bz at *
  clear J0 b0 N1 b1 T2 b2
  unfold joV
  go_enter Try.func8, Try.ntmps8
  go_wp2_with fail
  go_loopw [24] (fun vi wr => ∃ i : Nat, i ≤ 2 ∧ vi = .int .i64 i ∧ Below W2.heap.size W2 wr) (fun vi _ => 2 - (intOf vi).toNat)
  case atStart => exact ⟨0, by omega, rfl, Below.refl _ _⟩
  case round =>
    obtain ⟨i, hi, rfl, hbel⟩ := hrel
    clear hW0 hW1 hW2
    by_cases hlt : i < 2
    · obtain ⟨v, hv, hnob⟩ : ∃ v, wr.cell? ⟨Bs, i, none⟩ = some (.pointer v) ∧ Nob wr (.pointer v) := by
        obtain ⟨t0, t1⟩ := HT.out.below hbel
        obtain rfl | rfl : i = 0 ∨ i = 1 := by omega
        · exact ⟨_, t0, .inl rfl⟩
        · exact ⟨_, t1, HN.out.below hbel⟩
      have JF : Hid (JoAt wr Bo 0 o) := HF.out.below hbel
      have NV : Hid (Nob wr (.pointer v)) := hnob
      clear hnob cA HF HN HT
      have c1 := nclaim (.pointer v) wr NV.out
      unfold tkV at c1
      go_wp2_with fail
      refine c1.mono ?_
      rintro e w3 ⟨rfl, h3⟩
      have d3 := jalloc h3 (.cells #[.int .u64 0, .int .u64 0] 34)
      have JF3 : Hid (JoAt (w3.alloc (.cells #[.int .u64 0, .int .u64 0] 34)) Bo 0 o) := JF.out.below d3
      have NV3 : Hid (Nob (w3.alloc (.cells #[.int .u64 0, .int .u64 0] 34)) (.pointer v)) := NV.out.below d3
      have D3 := Below.onto hbel d3
      have ba : Hid (B2 (w3.alloc (.cells #[.int .u64 0, .int .u64 0] 34)) w3.heap.size (.int .u64 0) (.int .u64 0)) := b2_new w3 _ _ _
      have c2 := ntake (.pointer v) _ NV3.out
      unfold tkV slV at c2
      clear c1 h3 d3 JF NV hv hbel
      go_wp2_with fail
      generalize w3.alloc (.cells #[.int .u64 0, .int .u64 0] 34) = w4 at *
      generalize w3.heap.size = X6 at *
      refine c2.mono ?_
      rintro e w5 ⟨rfl, h5⟩
      have d5 := jalloc (jalloc h5 (.cells #[.int .i64 0, .int .u64 0] 36)) (.cells #[.int .u64 0, .int .u64 0] 34)
      have JF5 : Hid (JoAt ((w5.alloc (.cells #[.int .i64 0, .int .u64 0] 36)).alloc (.cells #[.int .u64 0, .int .u64 0] 34)) Bo 0 o) := JF3.out.below d5
      have NV5 : Hid (Nob ((w5.alloc (.cells #[.int .i64 0, .int .u64 0] 36)).alloc (.cells #[.int .u64 0, .int .u64 0] 34)) (.pointer v)) := NV3.out.below d5
      have D5 := Below.onto D3 d5
      have ba5 : Hid (B2 ((w5.alloc (.cells #[.int .i64 0, .int .u64 0] 36)).alloc (.cells #[.int .u64 0, .int .u64 0] 34)) X6 (.int .u64 0) (.int .u64 0)) := ba.out.below d5
      have b8 := jtwo (w := w5) (x := .int .i64 0) (y := .int .u64 0) (u := .int .u64 0) (v := .int .u64 0) (T := 36) (U := 34) (Below.refl _ _)
      have bs5 : Hid (B2 ((w5.alloc (.cells #[.int .i64 0, .int .u64 0] 36)).alloc (.cells #[.int .u64 0, .int .u64 0] 34)) w5.heap.size (.int .i64 0) (.int .u64 0)) := ⟨b8.1.1, b8.1.2.1⟩
      have bt5 : Hid (B2 ((w5.alloc (.cells #[.int .i64 0, .int .u64 0] 36)).alloc (.cells #[.int .u64 0, .int .u64 0] 34)) (w5.heap.size + 1) (.int .u64 0) (.int .u64 0)) := ⟨b8.2.1, b8.2.2.1⟩
      have c3 := nret (.pointer v) o.q o.e _ NV5.out
      unfold tkV slV at c3
      obtain ⟨j0, j1, j2, j3, j4, j5, j6⟩ := JF5.out
      rw [Nat.zero_add] at j1 j2 j3 j4 j5 j6
      clear c2 h5 d5 JF3 NV3 ba D3 b8
      go_wp2_with fail
      generalize (w5.alloc (.cells #[.int .i64 0, .int .u64 0] 36)).alloc (.cells #[.int .u64 0, .int .u64 0] 34) = w6 at *
      generalize w5.heap.size = X8 at *
      refine c3.mono ?_
      rintro e w7 ⟨rfl, h7⟩
      have d7 := jalloc h7 (.cells #[.int .i64 0, .int .u64 0] 36)
      have JF7 : Hid (JoAt (w7.alloc (.cells #[.int .i64 0, .int .u64 0] 36)) Bo 0 o) := JF5.out.below d7
      have NV7 : Hid (Nob (w7.alloc (.cells #[.int .i64 0, .int .u64 0] 36)) (.pointer v)) := NV5.out.below d7
      have D7 := Below.onto D5 d7
      have ba7 : Hid (B2 (w7.alloc (.cells #[.int .i64 0, .int .u64 0] 36)) X6 (.int .u64 0) (.int .u64 0)) := ba5.out.below d7
      have bs7 : Hid (B2 (w7.alloc (.cells #[.int .i64 0, .int .u64 0] 36)) X8 (.int .i64 0) (.int .u64 0)) := bs5.out.below d7
      have bt7 : Hid (B2 (w7.alloc (.cells #[.int .i64 0, .int .u64 0] 36)) (X8 + 1) (.int .u64 0) (.int .u64 0)) := bt5.out.below d7
      have bv7 : Hid (B2 (w7.alloc (.cells #[.int .i64 0, .int .u64 0] 36)) w7.heap.size (.int .i64 0) (.int .u64 0)) := b2_new w7 _ _ _
      have c4 := nreset (.pointer v) _ NV7.out
      clear c3 h7 d7 JF5 NV5 ba5 bs5 bt5 D5 j0 j1 j2 j3 j4 j5 j6
      go_wp2_with fail
      generalize w7.alloc (.cells #[.int .i64 0, .int .u64 0] 36) = w8 at *
      generalize w7.heap.size = X11 at *
      refine c4.mono ?_
      rintro e w9 ⟨rfl, h9⟩
      subst h9
      have c5 := nfirst (.pointer v) _ NV7.out
      unfold smV tkV at c5
      clear c4
      go_wp2_with fail
      refine c5.mono ?_
      rintro e w10 ⟨rfl, h10⟩
      have d10 := jalloc (jalloc h10 (.cells #[.int .i64 0, .int .i64 0] 38)) (.cells #[.int .u64 0, .int .u64 0] 34)
      have JF10 : Hid (JoAt ((w10.alloc (.cells #[.int .i64 0, .int .i64 0] 38)).alloc (.cells #[.int .u64 0, .int .u64 0] 34)) Bo 0 o) := JF7.out.below d10
      have NV10 : Hid (Nob ((w10.alloc (.cells #[.int .i64 0, .int .i64 0] 38)).alloc (.cells #[.int .u64 0, .int .u64 0] 34)) (.pointer v)) := NV7.out.below d10
      have D10 := Below.onto D7 d10
      have ba10 : Hid (B2 ((w10.alloc (.cells #[.int .i64 0, .int .i64 0] 38)).alloc (.cells #[.int .u64 0, .int .u64 0] 34)) X6 (.int .u64 0) (.int .u64 0)) := ba7.out.below d10
      have bs10 : Hid (B2 ((w10.alloc (.cells #[.int .i64 0, .int .i64 0] 38)).alloc (.cells #[.int .u64 0, .int .u64 0] 34)) X8 (.int .i64 0) (.int .u64 0)) := bs7.out.below d10
      have bt10 : Hid (B2 ((w10.alloc (.cells #[.int .i64 0, .int .i64 0] 38)).alloc (.cells #[.int .u64 0, .int .u64 0] 34)) (X8 + 1) (.int .u64 0) (.int .u64 0)) := bt7.out.below d10
      have bv10 : Hid (B2 ((w10.alloc (.cells #[.int .i64 0, .int .i64 0] 38)).alloc (.cells #[.int .u64 0, .int .u64 0] 34)) X11 (.int .i64 0) (.int .u64 0)) := bv7.out.below d10
      have c6 := nlay (.pointer v) o.q o.e o.n o.g _ NV10.out
      unfold slV tkV at c6
      obtain ⟨j0, j1, j2, j3, j4, j5, j6⟩ := JF10.out
      rw [Nat.zero_add] at j1 j2 j3 j4 j5 j6
      clear c5 h10 d10 JF7 NV7 ba7 bs7 bt7 bv7 D7
      go_wp2_with fail
      generalize (w10.alloc (.cells #[.int .i64 0, .int .i64 0] 38)).alloc (.cells #[.int .u64 0, .int .u64 0] 34) = w11 at *
      generalize w10.heap.size = X16 at *
      refine c6.mono ?_
      rintro e w12 ⟨rfl, h12⟩
      have JF12 : Hid (JoAt w12 Bo 0 o) := JF10.out.below h12
      have NV12 : Hid (Nob w12 (.pointer v)) := NV10.out.below h12
      have D12 := Below.onto D10 h12
      have ba12 := ba10.out.below h12
      have bs12 := bs10.out.below h12
      have bt12 := bt10.out.below h12
      have bv12 := bv10.out.below h12
      have c7 := npub (.pointer v) o.q o.e o.t o.s _ NV12.out
      unfold smV tkV at c7
      clear j0 j1 j2 j3 j4 j5 j6 c6 JF10 NV10 ba10 bs10 bt10 bv10 D10 h12
      obtain ⟨j0, j1, j2, j3, j4, j5, j6⟩ := JF12.out
      rw [Nat.zero_add] at j1 j2 j3 j4 j5 j6
      go_wp2_with fail
      refine c7.mono ?_
      rintro e w13 ⟨rfl, h13⟩
      have JF13 : Hid (JoAt w13 Bo 0 o) := JF12.out.below h13
      have NV13 : Hid (Nob w13 (.pointer v)) := NV12.out.below h13
      have D13 := Below.onto D12 h13
      obtain ⟨ba0, ba1⟩ := ba12.below h13
      obtain ⟨bs0, bs1⟩ := bs12.below h13
      obtain ⟨bt0, bt1⟩ := bt12.below h13
      obtain ⟨bv0, bv1⟩ := bv12.below h13
      have c8 := nready (.pointer v) o.q o.e _ NV13.out
      unfold tkV at c8
      clear j0 j1 j2 j3 j4 j5 j6 c7 JF12 NV12 ba12 bs12 bt12 bv12 D12 h13
      obtain ⟨j0, j1, j2, j3, j4, j5, j6⟩ := JF13.out
      rw [Nat.zero_add] at j1 j2 j3 j4 j5 j6
      go_wp2_with fail
      refine c8.mono ?_
      rintro e w14 ⟨rfl, h14⟩
      have c9 := nstate (.pointer v) _ (NV13.out.below h14)
      unfold staZ at c9
      go_wp2_with fail
      refine c9.mono ?_
      rintro e w15 ⟨rfl, h15⟩
      have D15 := Below.onto (Below.onto D13 h14) h15
      go_wp2_with fail
      go_roundw
      case rel => exact ⟨i + 1, by omega, by go_num, D15⟩
      case measure => simp [intOf]; omega
    · obtain rfl : i = 2 := by omega
      have c := cA wr
      go_wp2_with fail
      refine c.mono ?_
      rintro e w3 ⟨rfl, hb3⟩
      go_wp2_with fail
      go_ret
      exact ⟨rfl, D2.trans ((Below.onto hbel hb3).mono (by rw [← hB0]; exact D2.size))⟩

set_option maxRecDepth 100000 in
theorem lifted (os : Os) (started : os.Started) (H : Type) (enc : TypeId × Value → H) :
    ReturnsInHanded {} Try.checked os 8 .any (Rows.laneNobodySpec.pre6 enc Try.prog Try.f8 Rows.laneNobodyRow.domain false) (Rows.laneNobodySpec.post enc Try.prog Try.f8 false true false false) := by
  refine returnsInHanded_of_change (C := Try.checked) own started (by kernel_rfl) Try.func8
    (ChangeSpec.witness6 (enc := enc) (C := Try.checked) false ⟨#[], #[.agg #[.int .i64 0, .int .u64 0, .int .u64 0, .int .i64 0, .int .u64 0, .int .i64 0, .int .i64 0]], []⟩ 8 (by kernel_rfl) (by kernel_rfl) (by kernel_rfl) (by kernel_rfl)) ?_
  intro W base args ds gs before hval0 hW hcnd _
  have hval : ∀ (j : Nat) t v, Try.f8.params[j]? = some t → args[j]? = some v → Value.okWide Try.prog W .any base t v := hval0
  have hW' := hW
  obtain ⟨p, q, hA0, hV, rfl, hfz, hnd⟩ := hW
  have hA : DataW.TrodAll enc Try.prog W 0 (fun _ => true) true Try.f8.params.toList args.toList ds p := hA0
  rw [Try.params8] at hA hval
  obtain ⟨v0, vs0, d0, ds0, p0, q0, hargs, rfl, rfl, h0, r0⟩ := trodAll_cons hA
  obtain ⟨rfl, rfl, rfl⟩ := trodAll_nil r0
  obtain rfl : args = #[v0] := by cases args; simp_all
  obtain ⟨rfl, rfl⟩ := trodVars_none hV
  have k0 := h0
  have lt0 : ∀ x ∈ p0, x.block < W.heap.size := by obtain ⟨m, hm⟩ := k0; exact DataW.trod_lt m _ _ _ hm
  obtain ⟨o, rfl, w0⟩ := open_lop (hval 0 40 v0 rfl rfl) h0
  clear hA0 hval0
  refine (walk o W).mono fun e W' ⟨he, bel⟩ => ?_
  subst he
  exact ⟨_, rfl, _, _, _, [], _, [], hW', trodAll_mk1 (shut_bool Try.underlying4 _), (trodAll_cons_mk (Below.trod laidOut (by kernel_rfl) (of_decide_eq_true (by kernel_rfl)) k0 bel lt0) trodAll_mk0), rfl, bel.frame _, fun h => by cases h⟩

end Go.Proofs.Ytmdoiokgfdolpaa.laneNobody
namespace Go.Proofs.Ytmdoiokgfdolpaa

/-- The statement LaneNobody. -/
theorem LaneNobodyHolds : Rows.LaneNobodySaid :=
  OpenClaim.holds_of_wide 8 Try.f8 rfl rfl rfl rfl rfl rfl rfl ⟨rfl, rfl, rfl, rfl, rfl⟩ rfl rfl rfl rfl rfl (by kernel_rfl) Try.func8 (by kernel_rfl)
    (of_decide_eq_true (by kernel_rfl)) (by unfold Func.isWrapper; first | (rw [if_pos (by decide +kernel)]; kernel_rfl) | (rw [if_neg (by decide +kernel)]; exact ⟨rfl, rfl⟩))
    (fun os started H enc _ => laneNobody.lifted os started H enc)

end Go.Proofs.Ytmdoiokgfdolpaa
