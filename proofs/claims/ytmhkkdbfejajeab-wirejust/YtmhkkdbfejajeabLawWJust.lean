/- PROVED: for every b the statement WireJust returns true: what is parsed, as a request or as a reply, has just these bytes (P3.6). No condition (the statement looks at the first 400 bytes). -/
import Derived.Test.YtmhkkdbfejajeabRows
import Derived.Test.YtmhkkdbfejajeabWUn
import Derived.Test.YtmhkkdbfejajeabWRow
import Derived.ProofKit
import Derived.ShutString
import Derived.ChangeOld
import Derived.OpenShut
namespace Go.Proofs.Ytmhkkdbfejajeab.wireJust
open Go.ChangeShapes Go.WideShapes Go.ChangeAt Go.RowKit

theorem own : ownKnob Try.prog.godebug = none := by kernel_rfl
theorem laidOut : laidOutB Try.prog = true := by kernel_rfl

theorem just_req {n : Nat} {z : Nat → Int} (h : reqB n z = true) : n = 16 ∧ z 3 = 0 ∧ okB (z 0) (z 1) (z 2) (n4 z) (n8 z) = true := by
  simpa [reqB] using h
theorem just_rpy {n : Nat} {z : Nat → Int} (h : rpyB n z = true) : n = 16 ∧ z 3 = 0 ∧ z 2 = 0 ∧ repB (z 0) (z 1) (n4 z) (n8 z) = true := by
  simpa [rpyB] using h
theorem n4_lt {z : Nat → Int} (hb : Byt z 16) : 0 ≤ n4 z ∧ n4 z < 4294967296 := numI_lt (hb.part 4 4 (by omega))
set_option maxRecDepth 100000 in
set_option maxHeartbeats 4000000 in
theorem walk_00 (a : Option Addr) (len cap : Nat) (z : Nat → Int) (w : World) (hr : ByRow w a len cap z) (hq : reqB (min len 400) z = false) (hs : rpyB (min len 400) z = false) :
    Calls Try.prog 3 #[.slice a len cap] w fun e w' => e = .returned (.bool true) ∧ Below w.heap.size w w' := by
  have c0 := wcut_any a len cap w hr.2.2.1 hr.2.2.2.1
  have HR : Hid (ByRow w a (min len 400) cap z) := hr.cut _ (by omega)
  clear hr
  generalize min len 400 = n at *
  have c1 := fun w hr => parse_un a n cap z w hr
  have c3 := fun w hr => parser_un a n cap z w hr
  rw [hq] at c1
  rw [hs] at c3
  change ∀ w (_ : ByRow w a n cap z), Calls _ _ _ _ (fun e w' => e = .returned (.tuple #[.agg #[.int .u8 0, .int .u8 0, .int .u8 0, .int .u32 0, .int .u64 0], .int .i64 30]) ∧ _) at c1
  change ∀ w (_ : ByRow w a n cap z), Calls _ _ _ _ (fun e w' => e = .returned (.tuple #[.agg #[.int .u8 0, .int .u8 0, .int .u32 0, .int .u64 0], .int .i64 30]) ∧ _) at c3
  clear hq hs
  go_enter Try.func3, Try.ntmps3
  go_wp2_with fail
  refine (c0).mono ?_
  rintro e w0 ⟨rfl, e0⟩
  subst e0
  clear c0
  go_wp2_with fail
  refine (c1 _ HR.out).mono ?_
  rintro e w1 ⟨rfl, h1⟩
  have E1 := Below.onto h1 (below_alloc w1 (.cells #[.int .u8 0, .int .u8 0, .int .u8 0, .int .u32 0, .int .u64 0] 28))
  clear c1 h1
  go_wp2_with fail
  refine (c3 _ (HR.out.below E1)).mono ?_
  rintro e w3 ⟨rfl, h3⟩
  have E3 := Below.onto (Below.onto E1 h3) (below_alloc w3 (.cells #[.int .u8 0, .int .u8 0, .int .u32 0, .int .u64 0] 36))
  clear c3 h3 E1
  go_wp2_with fail
  refine (walive_any _).mono ?_
  rintro e w5 ⟨rfl, h5⟩
  have E5 := Below.onto E3 h5
  go_wp2_with fail
  go_ret
  exact ⟨rfl, E5⟩
set_option maxRecDepth 100000 in
set_option maxHeartbeats 4000000 in
theorem walk_01 (a : Option Addr) (len cap : Nat) (z : Nat → Int) (w : World) (hr : ByRow w a len cap z) (hq : reqB (min len 400) z = false) (hs : rpyB (min len 400) z = true) :
    Calls Try.prog 3 #[.slice a len cap] w fun e w' => e = .returned (.bool true) ∧ Below w.heap.size w w' := by
  have c0 := wcut_any a len cap w hr.2.2.1 hr.2.2.2.1
  have HR : Hid (ByRow w a (min len 400) cap z) := hr.cut _ (by omega)
  clear hr
  generalize min len 400 = n at *
  have c1 := fun w hr => parse_un a n cap z w hr
  have c3 := fun w hr => parser_un a n cap z w hr
  rw [hq] at c1
  rw [hs] at c3
  change ∀ w (_ : ByRow w a n cap z), Calls _ _ _ _ (fun e w' => e = .returned (.tuple #[.agg #[.int .u8 0, .int .u8 0, .int .u8 0, .int .u32 0, .int .u64 0], .int .i64 30]) ∧ _) at c1
  change ∀ w (_ : ByRow w a n cap z), Calls _ _ _ _ (fun e w' => e = .returned (.tuple #[.agg #[.int .u8 (z 0), .int .u8 (z 1), .int .u32 (n4 z), .int .u64 (n8 z)], .int .i64 0]) ∧ _) at c3
  obtain ⟨rfl, h3, h2, hrk⟩ := just_rpy hs
  obtain ⟨b, off, rfl⟩ := cells_some HR.out.1 (by omega)
  have hby := HR.out.2.2.2.2
  obtain ⟨m0, m1⟩ := n4_lt hby
  have v2 := fun w (h : ByRow w (some ⟨b, off, none⟩) 16 cap z) => conv_at (cap := cap) h.1
  have cs := fun w => rpb_ok (z 0) (z 1) (n4 z) (n8 z) w m0 m1 hrk
  have v3 := fun w D (h : Lay w D 16 (layZ (z 0) (z 1) 0 (n4 z) (n8 z))) => conv_at (cap := 16) (h.cells.congr (by have := lay_read hby h3; rw [h2] at this; exact this))
  clear hq hs h3 hby m0 m1 h2 hrk
  generalize strZ 16 z = t at *
  generalize z 0 = x0 at *
  generalize z 1 = x1 at *
  generalize n4 z = x3 at *
  generalize n8 z = x4 at *
  go_enter Try.func3, Try.ntmps3
  go_wp2_with fail
  refine (c0).mono ?_
  rintro e w0 ⟨rfl, e0⟩
  subst e0
  clear c0
  go_wp2_with fail
  refine (c1 _ HR.out).mono ?_
  rintro e w1 ⟨rfl, h1⟩
  have E1 := Below.onto h1 (below_alloc w1 (.cells #[.int .u8 0, .int .u8 0, .int .u8 0, .int .u32 0, .int .u64 0] 28))
  clear c1 h1
  go_wp2_with fail
  refine (c3 _ (HR.out.below E1)).mono ?_
  rintro e w3 ⟨rfl, h3⟩
  have E3 := Below.onto (Below.onto E1 h3) (below_alloc w3 (.cells #[.int .u8 x0, .int .u8 x1, .int .u32 x3, .int .u64 x4] 36))
  clear c3 h3 E1
  go_wp2_with fail
  refine (cs _).mono ?_
  rintro e w4 ⟨D4, rfl, hl, _, h4⟩
  have E4 := Below.onto E3 h4
  have u1 := v3 _ _ hl
  have u2 := v2 _ (HR.out.below E4)
  clear hl h4 cs v3 E3
  go_wp2_with fail
  refine (walive_any _).mono ?_
  rintro e w5 ⟨rfl, h5⟩
  have E5 := Below.onto E4 h5
  go_wp2_with fail
  go_ret
  exact ⟨rfl, E5⟩
set_option maxRecDepth 100000 in
set_option maxHeartbeats 4000000 in
theorem walk_10 (a : Option Addr) (len cap : Nat) (z : Nat → Int) (w : World) (hr : ByRow w a len cap z) (hq : reqB (min len 400) z = true) (hs : rpyB (min len 400) z = false) :
    Calls Try.prog 3 #[.slice a len cap] w fun e w' => e = .returned (.bool true) ∧ Below w.heap.size w w' := by
  have c0 := wcut_any a len cap w hr.2.2.1 hr.2.2.2.1
  have HR : Hid (ByRow w a (min len 400) cap z) := hr.cut _ (by omega)
  clear hr
  generalize min len 400 = n at *
  have c1 := fun w hr => parse_un a n cap z w hr
  have c3 := fun w hr => parser_un a n cap z w hr
  rw [hq] at c1
  rw [hs] at c3
  change ∀ w (_ : ByRow w a n cap z), Calls _ _ _ _ (fun e w' => e = .returned (.tuple #[.agg #[.int .u8 (z 0), .int .u8 (z 1), .int .u8 (z 2), .int .u32 (n4 z), .int .u64 (n8 z)], .int .i64 0]) ∧ _) at c1
  change ∀ w (_ : ByRow w a n cap z), Calls _ _ _ _ (fun e w' => e = .returned (.tuple #[.agg #[.int .u8 0, .int .u8 0, .int .u32 0, .int .u64 0], .int .i64 30]) ∧ _) at c3
  obtain ⟨rfl, h3, hok⟩ := just_req hq
  obtain ⟨b, off, rfl⟩ := cells_some HR.out.1 (by omega)
  have hby := HR.out.2.2.2.2
  obtain ⟨m0, m1⟩ := n4_lt hby
  have v2 := fun w (h : ByRow w (some ⟨b, off, none⟩) 16 cap z) => conv_at (cap := cap) h.1
  have cb := fun w => bytes_ok (z 0) (z 1) (z 2) (n4 z) (n8 z) w (hby 2 (by omega)).1 m0 m1 hok
  have v1 := fun w D (h : Lay w D 16 (layZ (z 0) (z 1) (z 2) (n4 z) (n8 z))) => conv_at (cap := 16) (h.cells.congr (lay_read hby h3))
  clear hq hs h3 hby m0 m1 hok
  generalize strZ 16 z = t at *
  generalize z 0 = x0 at *
  generalize z 1 = x1 at *
  generalize z 2 = x2 at *
  generalize n4 z = x3 at *
  generalize n8 z = x4 at *
  go_enter Try.func3, Try.ntmps3
  go_wp2_with fail
  refine (c0).mono ?_
  rintro e w0 ⟨rfl, e0⟩
  subst e0
  clear c0
  go_wp2_with fail
  refine (c1 _ HR.out).mono ?_
  rintro e w1 ⟨rfl, h1⟩
  have E1 := Below.onto h1 (below_alloc w1 (.cells #[.int .u8 x0, .int .u8 x1, .int .u8 x2, .int .u32 x3, .int .u64 x4] 28))
  clear c1 h1
  go_wp2_with fail
  refine (cb _).mono ?_
  rintro e w2 ⟨D, rfl, hl, _, h2⟩
  have E2 := Below.onto E1 h2
  have u1 := v1 _ _ hl
  have u2 := v2 _ (HR.out.below E2)
  clear hl h2 cb v1 E1
  go_wp2_with fail
  refine (c3 _ (HR.out.below E2)).mono ?_
  rintro e w3 ⟨rfl, h3⟩
  have E3 := Below.onto (Below.onto E2 h3) (below_alloc w3 (.cells #[.int .u8 0, .int .u8 0, .int .u32 0, .int .u64 0] 36))
  clear c3 h3 E2 u1 u2
  go_wp2_with fail
  refine (walive_any _).mono ?_
  rintro e w5 ⟨rfl, h5⟩
  have E5 := Below.onto E3 h5
  go_wp2_with fail
  go_ret
  exact ⟨rfl, E5⟩
set_option maxRecDepth 100000 in
set_option maxHeartbeats 4000000 in
theorem walk_11 (a : Option Addr) (len cap : Nat) (z : Nat → Int) (w : World) (hr : ByRow w a len cap z) (hq : reqB (min len 400) z = true) (hs : rpyB (min len 400) z = true) :
    Calls Try.prog 3 #[.slice a len cap] w fun e w' => e = .returned (.bool true) ∧ Below w.heap.size w w' := by
  have c0 := wcut_any a len cap w hr.2.2.1 hr.2.2.2.1
  have HR : Hid (ByRow w a (min len 400) cap z) := hr.cut _ (by omega)
  clear hr
  generalize min len 400 = n at *
  have c1 := fun w hr => parse_un a n cap z w hr
  have c3 := fun w hr => parser_un a n cap z w hr
  rw [hq] at c1
  rw [hs] at c3
  change ∀ w (_ : ByRow w a n cap z), Calls _ _ _ _ (fun e w' => e = .returned (.tuple #[.agg #[.int .u8 (z 0), .int .u8 (z 1), .int .u8 (z 2), .int .u32 (n4 z), .int .u64 (n8 z)], .int .i64 0]) ∧ _) at c1
  change ∀ w (_ : ByRow w a n cap z), Calls _ _ _ _ (fun e w' => e = .returned (.tuple #[.agg #[.int .u8 (z 0), .int .u8 (z 1), .int .u32 (n4 z), .int .u64 (n8 z)], .int .i64 0]) ∧ _) at c3
  obtain ⟨rfl, h3, hok⟩ := just_req hq
  obtain ⟨b, off, rfl⟩ := cells_some HR.out.1 (by omega)
  have hby := HR.out.2.2.2.2
  obtain ⟨m0, m1⟩ := n4_lt hby
  have v2 := fun w (h : ByRow w (some ⟨b, off, none⟩) 16 cap z) => conv_at (cap := cap) h.1
  have cb := fun w => bytes_ok (z 0) (z 1) (z 2) (n4 z) (n8 z) w (hby 2 (by omega)).1 m0 m1 hok
  have v1 := fun w D (h : Lay w D 16 (layZ (z 0) (z 1) (z 2) (n4 z) (n8 z))) => conv_at (cap := 16) (h.cells.congr (lay_read hby h3))
  obtain ⟨_, _, h2, hrk⟩ := just_rpy hs
  have cs := fun w => rpb_ok (z 0) (z 1) (n4 z) (n8 z) w m0 m1 hrk
  have v3 := fun w D (h : Lay w D 16 (layZ (z 0) (z 1) 0 (n4 z) (n8 z))) => conv_at (cap := 16) (h.cells.congr (by have := lay_read hby h3; rw [h2] at this; exact this))
  clear hq hs h3 hby m0 m1 hok h2 hrk
  generalize strZ 16 z = t at *
  generalize z 0 = x0 at *
  generalize z 1 = x1 at *
  generalize z 2 = x2 at *
  generalize n4 z = x3 at *
  generalize n8 z = x4 at *
  go_enter Try.func3, Try.ntmps3
  go_wp2_with fail
  refine (c0).mono ?_
  rintro e w0 ⟨rfl, e0⟩
  subst e0
  clear c0
  go_wp2_with fail
  refine (c1 _ HR.out).mono ?_
  rintro e w1 ⟨rfl, h1⟩
  have E1 := Below.onto h1 (below_alloc w1 (.cells #[.int .u8 x0, .int .u8 x1, .int .u8 x2, .int .u32 x3, .int .u64 x4] 28))
  clear c1 h1
  go_wp2_with fail
  refine (cb _).mono ?_
  rintro e w2 ⟨D, rfl, hl, _, h2⟩
  have E2 := Below.onto E1 h2
  have u1 := v1 _ _ hl
  have u2 := v2 _ (HR.out.below E2)
  clear hl h2 cb v1 E1
  go_wp2_with fail
  refine (c3 _ (HR.out.below E2)).mono ?_
  rintro e w3 ⟨rfl, h3⟩
  have E3 := Below.onto (Below.onto E2 h3) (below_alloc w3 (.cells #[.int .u8 x0, .int .u8 x1, .int .u32 x3, .int .u64 x4] 36))
  clear c3 h3 E2 u1 u2
  go_wp2_with fail
  refine (cs _).mono ?_
  rintro e w4 ⟨D4, rfl, hl, _, h4⟩
  have E4 := Below.onto E3 h4
  have u1 := v3 _ _ hl
  have u2 := v2 _ (HR.out.below E4)
  clear hl h4 cs v3 E3
  go_wp2_with fail
  refine (walive_any _).mono ?_
  rintro e w5 ⟨rfl, h5⟩
  have E5 := Below.onto E4 h5
  go_wp2_with fail
  go_ret
  exact ⟨rfl, E5⟩
theorem walk (a : Option Addr) (len cap : Nat) (z : Nat → Int) (w : World) (hr : ByRow w a len cap z) :
    Calls Try.prog 3 #[.slice a len cap] w fun e w' => e = .returned (.bool true) ∧ Below w.heap.size w w' := by
  cases hq : reqB (min len 400) z
  · cases hs : rpyB (min len 400) z
    · exact walk_00 a len cap z w hr hq hs
    · exact walk_01 a len cap z w hr hq hs
  · cases hs : rpyB (min len 400) z
    · exact walk_10 a len cap z w hr hq hs
    · exact walk_11 a len cap z w hr hq hs

set_option maxRecDepth 100000 in
theorem lifted (os : Os) (started : os.Started) (H : Type) (enc : TypeId × Value → H) :
    ReturnsInHanded {} Try.checked os 3 .any (Rows.wireJustSpec.pre6 enc Try.prog Try.f3 Rows.wireJustRow.domain false) (Rows.wireJustSpec.post enc Try.prog Try.f3 false true false false) := by
  refine returnsInHanded_of_change (C := Try.checked) own started (by kernel_rfl) Try.func3
    (ChangeSpec.witness6 (enc := enc) (C := Try.checked) false ⟨#[], #[.slice none 0 0], []⟩ 8 (by kernel_rfl) (by kernel_rfl) (by kernel_rfl) (by kernel_rfl)) ?_
  intro W base args ds gs before hval0 hW hcnd _
  have hval : ∀ (j : Nat) t v, Try.f3.params[j]? = some t → args[j]? = some v → Value.okWide Try.prog W .any base t v := hval0
  have hW' := hW
  obtain ⟨p, q, hA0, hV, rfl, hfz, hnd⟩ := hW
  have hA : DataW.TrodAll enc Try.prog W 0 (fun _ => true) true Try.f3.params.toList args.toList ds p := hA0
  rw [Try.params3] at hA hval
  obtain ⟨v0, vs0, d0, ds0, p0, q0, hargs, rfl, rfl, h0, r0⟩ := trodAll_cons hA
  obtain ⟨rfl, rfl, rfl⟩ := trodAll_nil r0
  obtain rfl : args = #[v0] := by cases args; simp_all
  obtain ⟨rfl, rfl⟩ := trodVars_none hV
  obtain ⟨a0, len0, cap0, rfl⟩ := okWide_slice Try.underlying22 (hval 0 22 v0 rfl rfl)
  have k0 := h0
  have lt0 : ∀ x ∈ p0, x.block < W.heap.size := by obtain ⟨m, hm⟩ := k0; exact DataW.trod_lt m _ _ _ hm
  obtain ⟨z0, w0⟩ : ∃ z, ByRow W a0 len0 cap0 z := by
    obtain ⟨fuel, hf⟩ := h0
    rcases open_ints Try.underlying22 Try.underlying5 (by kernel_rfl) hf with ⟨hcs, _⟩ | ⟨x, l, c, zs, hcs, _, hl, hm, hz, _, hcell, hwz⟩
    · simp [Value.cells] at hcs
      obtain ⟨rfl, rfl, rfl⟩ := hcs
      exact ⟨_, byRow_nil _⟩
    · simp [Value.cells] at hcs
      obtain ⟨rfl, rfl, rfl⟩ := hcs
      exact ⟨_, byRow_some hl hm (by simpa using hz) hcell hwz⟩
  clear hA0 hval0
  refine (walk a0 len0 cap0 z0 W w0).mono fun e W' ⟨he, bel⟩ => ?_
  subst he
  exact ⟨_, rfl, _, _, _, [], _, [], hW', trodAll_mk1 (shut_bool Try.underlying4 _), (trodAll_cons_mk (Below.trod laidOut (by kernel_rfl) (of_decide_eq_true (by kernel_rfl)) k0 bel lt0) trodAll_mk0), rfl, bel.frame _, fun h => by cases h⟩

end Go.Proofs.Ytmhkkdbfejajeab.wireJust
namespace Go.Proofs.Ytmhkkdbfejajeab

/-- The statement WireJust. -/
theorem WireJustHolds : Rows.WireJustSaid :=
  OpenClaim.holds_of_wide 3 Try.f3 rfl rfl rfl rfl rfl rfl rfl ⟨rfl, rfl, rfl, rfl, rfl⟩ rfl rfl rfl rfl rfl (by kernel_rfl) Try.func3 (by kernel_rfl)
    (of_decide_eq_true (by kernel_rfl)) (by unfold Func.isWrapper; first | (rw [if_pos (by decide +kernel)]; kernel_rfl) | (rw [if_neg (by decide +kernel)]; exact ⟨rfl, rfl⟩))
    (fun os started H enc _ => wireJust.lifted os started H enc)

end Go.Proofs.Ytmhkkdbfejajeab
