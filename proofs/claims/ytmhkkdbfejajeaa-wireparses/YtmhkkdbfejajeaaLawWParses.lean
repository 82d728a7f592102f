/- PROVED: for every b the statement WireParses returns true: wire.Parse and wire.ParseReply answer as the document says at any bytes (P3.1, P3.3). No condition (the statement looks at the first 400 bytes). -/
import Derived.Test.YtmhkkdbfejajeaaRows
import Derived.Test.YtmhkkdbfejajeaaWUn
import Derived.Test.YtmhkkdbfejajeaaWRow
import Derived.ProofKit
import Derived.ShutString
import Derived.ChangeOld
import Derived.OpenShut
namespace Go.Proofs.Ytmhkkdbfejajeaa.wireParses
open Go.ChangeShapes Go.WideShapes Go.ChangeAt Go.RowKit

theorem own : ownKnob Try.prog.godebug = none := by kernel_rfl
theorem laidOut : laidOutB Try.prog = true := by kernel_rfl

set_option maxRecDepth 100000 in
set_option maxHeartbeats 4000000 in
theorem walk (a : Option Addr) (len cap : Nat) (z : Nat → Int) (w : World) (hr : ByRow w a len cap z) :
    Calls Try.prog 4 #[.slice a len cap] w fun e w' => e = .returned (.bool true) ∧ Below w.heap.size w w' := by
  have c0 := wcut_any a len cap w hr.2.2.1 hr.2.2.2.1
  have HR : Hid (ByRow w a (min len 400) cap z) := hr.cut _ (by omega)
  clear hr
  generalize min len 400 = n at *
  have c1 := fun w hr => parse_un a n cap z w hr
  have c2 := fun w hr => rparse_un a n cap z w hr
  have c3 := fun w hr => parser_un a n cap z w hr
  have c4 := fun w hr => rparser_un a n cap z w hr
  generalize sel (reqB n z) (z 0) = x0 at *
  generalize sel (reqB n z) (z 1) = x1 at *
  generalize sel (reqB n z) (z 2) = x2 at *
  generalize sel (reqB n z) (n4 z) = x3 at *
  generalize sel (reqB n z) (n8 z) = x4 at *
  generalize errI (reqB n z) = x5 at *
  generalize sel (rpyB n z) (z 0) = y0 at *
  generalize sel (rpyB n z) (z 1) = y1 at *
  generalize sel (rpyB n z) (n4 z) = y3 at *
  generalize sel (rpyB n z) (n8 z) = y4 at *
  generalize errI (rpyB n z) = y5 at *
  go_enter Try.func4, Try.ntmps4
  go_wp2_with fail
  refine c0.mono ?_
  rintro e w0 ⟨rfl, e0⟩
  subst e0
  go_wp2_with fail
  refine (c1 _ HR.out).mono ?_
  rintro e w1 ⟨rfl, h1⟩
  have r1 := HR.out.below h1
  have A1 := has5_new w1 (.int .u8 x0) (.int .u8 x1) (.int .u8 x2) (.int .u32 x3) (.int .u64 x4) 26
  have R1 := r1.below (below_alloc w1 (.cells #[.int .u8 x0, .int .u8 x1, .int .u8 x2, .int .u32 x3, .int .u64 x4] 26))
  have B1 := Below.onto h1 (below_alloc w1 (.cells #[.int .u8 x0, .int .u8 x1, .int .u8 x2, .int .u32 x3, .int .u64 x4] 26))
  have HA : Hid (Has5 _ w1.heap.size _ _ _ _ _ ∧ ByRow _ a n cap z) := ⟨A1, R1⟩
  clear c0 c1 r1 A1 R1 h1 HR
  go_wp2_with fail
  refine (c2 _ HA.out.2).mono ?_
  rintro e w2 ⟨rfl, h2⟩
  have A1 := (HA.out.1.below h2).below (below_alloc w2 (.cells #[.int .u8 x0, .int .u8 x1, .int .u8 x2, .int .u32 x3, .int .u64 x4] 26))
  have A2 := has5_new w2 (.int .u8 x0) (.int .u8 x1) (.int .u8 x2) (.int .u32 x3) (.int .u64 x4) 26
  have R2 := (HA.out.2.below h2).below (below_alloc w2 (.cells #[.int .u8 x0, .int .u8 x1, .int .u8 x2, .int .u32 x3, .int .u64 x4] 26))
  have B2 := Below.onto (Below.onto B1 h2) (below_alloc w2 (.cells #[.int .u8 x0, .int .u8 x1, .int .u8 x2, .int .u32 x3, .int .u64 x4] 26))
  have HA2 : Hid ((Has5 _ w1.heap.size _ _ _ _ _ ∧ Has5 _ w2.heap.size _ _ _ _ _) ∧ ByRow _ a n cap z) := ⟨⟨A1, A2⟩, R2⟩
  clear c2 A1 A2 R2 h2 HA B1
  go_wp2_with fail
  refine (c3 _ HA2.out.2).mono ?_
  rintro e w3 ⟨rfl, h3⟩
  have A1 := (HA2.out.1.1.below h3).below (below_alloc w3 (.cells #[.int .u8 y0, .int .u8 y1, .int .u32 y3, .int .u64 y4] 43))
  have A2 := (HA2.out.1.2.below h3).below (below_alloc w3 (.cells #[.int .u8 y0, .int .u8 y1, .int .u32 y3, .int .u64 y4] 43))
  have A3 := has4_new w3 (.int .u8 y0) (.int .u8 y1) (.int .u32 y3) (.int .u64 y4) 43
  have R3 := (HA2.out.2.below h3).below (below_alloc w3 (.cells #[.int .u8 y0, .int .u8 y1, .int .u32 y3, .int .u64 y4] 43))
  have B3 := Below.onto (Below.onto B2 h3) (below_alloc w3 (.cells #[.int .u8 y0, .int .u8 y1, .int .u32 y3, .int .u64 y4] 43))
  have HA3 : Hid ((Has5 _ w1.heap.size _ _ _ _ _ ∧ Has5 _ w2.heap.size _ _ _ _ _ ∧ Has4 _ w3.heap.size _ _ _ _) ∧ ByRow _ a n cap z) := ⟨⟨A1, A2, A3⟩, R3⟩
  clear c3 A1 A2 A3 R3 h3 HA2 B2
  go_wp2_with fail
  refine (c4 _ HA3.out.2).mono ?_
  rintro e w4 ⟨rfl, h4⟩
  have A1 := HA3.out.1.1.below h4
  have A2 := HA3.out.1.2.1.below h4
  have A3 := HA3.out.1.2.2.below h4
  have B4 := Below.onto B3 h4
  have l1 := A1.lt
  have l2 := A2.lt
  have l3 := A3.lt
  have s4 := B4.size
  obtain ⟨p0, p1, p2, p3, p4⟩ := A1
  obtain ⟨q0, q1, q2, q3, q4⟩ := A2
  obtain ⟨r0, r1, r2, r3⟩ := A3
  clear c4 h4 HA3 B3
  go_wp2_with fail
  refine (walive_any _).mono ?_
  rintro e w5 ⟨rfl, h5⟩
  have B5 := Below.onto (B4.alloc s4 _) h5
  go_wp2_with fail
  go_ret
  exact ⟨rfl, B5⟩

set_option maxRecDepth 100000 in
theorem lifted (os : Os) (started : os.Started) (H : Type) (enc : TypeId × Value → H) :
    ReturnsInHanded {} Try.checked os 4 .any (Rows.wireParsesSpec.pre6 enc Try.prog Try.f4 Rows.wireParsesRow.domain false) (Rows.wireParsesSpec.post enc Try.prog Try.f4 false true false false) := by
  refine returnsInHanded_of_change (C := Try.checked) own started (by kernel_rfl) Try.func4
    (ChangeSpec.witness6 (enc := enc) (C := Try.checked) false ⟨#[], #[.slice none 0 0], []⟩ 8 (by kernel_rfl) (by kernel_rfl) (by kernel_rfl) (by kernel_rfl)) ?_
  intro W base args ds gs before hval0 hW hcnd _
  have hval : ∀ (j : Nat) t v, Try.f4.params[j]? = some t → args[j]? = some v → Value.okWide Try.prog W .any base t v := hval0
  have hW' := hW
  obtain ⟨p, q, hA0, hV, rfl, hfz, hnd⟩ := hW
  have hA : DataW.TrodAll enc Try.prog W 0 (fun _ => true) true Try.f4.params.toList args.toList ds p := hA0
  rw [Try.params4] at hA hval
  obtain ⟨v0, vs0, d0, ds0, p0, q0, hargs, rfl, rfl, h0, r0⟩ := trodAll_cons hA
  obtain ⟨rfl, rfl, rfl⟩ := trodAll_nil r0
  obtain rfl : args = #[v0] := by cases args; simp_all
  obtain ⟨rfl, rfl⟩ := trodVars_none hV
  obtain ⟨a0, len0, cap0, rfl⟩ := okWide_slice Try.underlying27 (hval 0 27 v0 rfl rfl)
  have k0 := h0
  have lt0 : ∀ x ∈ p0, x.block < W.heap.size := by obtain ⟨m, hm⟩ := k0; exact DataW.trod_lt m _ _ _ hm
  obtain ⟨z0, w0⟩ : ∃ z, ByRow W a0 len0 cap0 z := by
    obtain ⟨fuel, hf⟩ := h0
    rcases open_ints Try.underlying27 Try.underlying5 (by kernel_rfl) hf with ⟨hcs, _⟩ | ⟨x, l, c, zs, hcs, _, hl, hm, hz, _, hcell, hwz⟩
    · simp [Value.cells] at hcs
      obtain ⟨rfl, rfl, rfl⟩ := hcs
      exact ⟨_, byRow_nil _⟩
    · simp [Value.cells] at hcs
      obtain ⟨rfl, rfl, rfl⟩ := hcs
      exact ⟨_, byRow_some hl hm (by simpa using hz) hcell hwz⟩
  clear hA0 hval0
  refine (walk a0 len0 cap0 z0 W w0).mono fun e W' ⟨he, bel⟩ => ?_
  subst he
  exact ⟨_, rfl, _, _, _, [], _, [], hW', trodAll_mk1 (shut_bool Try.underlying4 _), (trodAll_cons_mk (Below.trod laidOut (by kernel_rfl) (of_decide_eq_true (by kernel_rfl)) k0 bel lt0) trodAll_mk0), rfl, bel.frame _, fun h => by cases h⟩

end Go.Proofs.Ytmhkkdbfejajeaa.wireParses
namespace Go.Proofs.Ytmhkkdbfejajeaa

/-- The statement WireParses. -/
theorem WireParsesHolds : Rows.WireParsesSaid :=
  OpenClaim.holds_of_wide 4 Try.f4 rfl rfl rfl rfl rfl rfl rfl ⟨rfl, rfl, rfl, rfl, rfl⟩ rfl rfl rfl rfl rfl (by kernel_rfl) Try.func4 (by kernel_rfl)
    (of_decide_eq_true (by kernel_rfl)) (by unfold Func.isWrapper; first | (rw [if_pos (by decide +kernel)]; kernel_rfl) | (rw [if_neg (by decide +kernel)]; exact ⟨rfl, rfl⟩))
    (fun os started H enc _ => wireParses.lifted os started H enc)

end Go.Proofs.Ytmhkkdbfejajeaa
