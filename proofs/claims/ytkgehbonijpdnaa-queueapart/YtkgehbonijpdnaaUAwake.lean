/- The law's awake. -/
import Derived.Test.YtkgehbonijpdnaaUNew
import Derived.Test.YtkgehbonijpdnaaUPub
import Derived.Test.YtkgehbonijpdnaaURet
import Derived.Test.YtkgehbonijpdnaaUReset
namespace Go.Proofs.Ytkgehbonijpdnaa
open Go.RowKit
set_option maxRecDepth 100000

theorem okq_of {Q : Qu} (h : Q.ok = true) (hm : Q.ms.length ≤ 900) : OkQ Q := by
  obtain ⟨h1, _, h3⟩ := (ok_iff Q).1 h
  refine ⟨by omega, by omega, fun j hj => ?_⟩
  have h4 := h3 j hj
  simp only [okL, Bool.and_eq_true] at h4
  have h5 := hasCr_iff.1 h4.1
  have h6 : 0 ≤ tkn (atP Q.ls j) (cnt Q.ms (j : Int)) := by simpa [covB] using h4.2.2.1
  unfold tkn at h6
  omega
def aL0 : PLn := ⟨1, true, 1, [], 0, 0⟩
def aQ0 : Qu := ⟨[aL0, ⟨2, false, 2, [], 0, 0⟩], []⟩
def aQ1 : Qu := ⟨[aL0, ⟨2, false, 1, [0], 1, 0⟩], []⟩
def aQ2 : Qu := ⟨[aL0, ⟨2, false, 0, [0, 1], 2, 0⟩], []⟩
def aQ3 : Qu := ⟨[aL0, ⟨2, false, 0, [1], 2, 0⟩], [⟨1, 0, 0, 7⟩]⟩
def aQ4 : Qu := ⟨[aL0, ⟨2, false, 0, [1], 2, 0⟩], []⟩
section
variable {vl vm : Value} {V : Nat → Value} {w : World}
theorem aw_new {vc vt : Value} (hc : Sl w 1 2 (encI [1, 2]) vc) (ht : Sl w 1 2 (encB [true, false]) vt) : Calls Try.prog 6 #[vc, vt] w fun e w' => ∃ ul um V', e = .returned (.tuple #[quV ul um, .int .i64 0]) ∧ QIs w' ul um aQ0 V' ∧ Below w.heap.size w w' ∧ QNew w.heap.size ul um aQ0 V' := by
  have h := new_any vc vt [1, 2] [true, false] w (by decide) hc ht
  rw [show newE [1, 2] [true, false] = 0 from by decide +kernel, show newQ [1, 2] [true, false] = aQ0 from by kernel_rfl] at h
  exact h
theorem aw_c1 (hq : QIs w vl vm aQ0 V) : Calls Try.prog 10 #[.agg #[vl, vm], .int .i64 1] w fun e w' => ∃ ul um V', e = .returned (.tuple #[quV ul um, .agg #[.int .i64 1, .int .i64 0, .int .i64 0], .int .i64 0]) ∧ QIs w' ul um aQ1 V' ∧ Below w.heap.size w w' ∧ QNew w.heap.size ul um aQ1 V' := by
  have h := claim_any vl vm aQ0 V 1 w (okq_of (by decide +kernel) (by decide)) hq
  rw [show aQ0.clC 1 = (1, 0, 0) from by decide +kernel, show aQ0.clE 1 = 0 from by decide +kernel, show aQ0.clQ 1 = aQ1 from by kernel_rfl] at h
  exact h
theorem aw_c2 (hq : QIs w vl vm aQ1 V) : Calls Try.prog 10 #[.agg #[vl, vm], .int .i64 1] w fun e w' => ∃ ul um V', e = .returned (.tuple #[quV ul um, .agg #[.int .i64 1, .int .i64 1, .int .i64 0], .int .i64 0]) ∧ QIs w' ul um aQ2 V' ∧ Below w.heap.size w w' ∧ QNew w.heap.size ul um aQ2 V' := by
  have h := claim_any vl vm aQ1 V 1 w (okq_of (by decide +kernel) (by decide)) hq
  rw [show aQ1.clC 1 = (1, 1, 0) from by decide +kernel, show aQ1.clE 1 = 0 from by decide +kernel, show aQ1.clQ 1 = aQ2 from by kernel_rfl] at h
  exact h
theorem aw_p1 (hq : QIs w vl vm aQ2 V) : Calls Try.prog 11 #[.agg #[vl, vm], .agg #[.int .i64 1, .int .i64 1, .int .i64 0], .int .u64 8] w fun e w' => ∃ ul um V', e = .returned (.tuple #[quV ul um, .int .i64 103]) ∧ QIs w' ul um qu0 V' ∧ Below w.heap.size w w' ∧ QNew w.heap.size ul um qu0 V' := by
  have h := publish_any vl vm aQ2 V 1 1 0 8 w (by decide) (okq_of (by decide +kernel) (by decide)) hq
  rw [show aQ2.pbE 1 1 0 = 103 from by decide +kernel, show aQ2.pbQ 1 1 0 8 = qu0 from by kernel_rfl] at h
  exact h
theorem aw_p2 (hq : QIs w vl vm aQ2 V) : Calls Try.prog 11 #[.agg #[vl, vm], .agg #[.int .i64 1, .int .i64 0, .int .i64 0], .int .u64 7] w fun e w' => ∃ ul um V', e = .returned (.tuple #[quV ul um, .int .i64 0]) ∧ QIs w' ul um aQ3 V' ∧ Below w.heap.size w w' ∧ QNew w.heap.size ul um aQ3 V' := by
  have h := publish_any vl vm aQ2 V 1 0 0 7 w (by decide) (okq_of (by decide +kernel) (by decide)) hq
  rw [show aQ2.pbE 1 0 0 = 0 from by decide +kernel, show aQ2.pbQ 1 0 0 7 = aQ3 from by kernel_rfl] at h
  exact h
theorem aw_rd (hq : QIs w vl vm aQ3 V) : Calls Try.prog 12 #[.agg #[vl, vm], .agg #[.int .i64 1, .int .i64 1, .int .i64 0]] w fun e w' => e = .returned (.bool true) ∧ Below w.heap.size w w' := by
  have h := ready_any vl vm aQ3 V 1 1 0 w (okq_of (by decide +kernel) (by decide)) hq
  rw [show decide (aQ3.pbE 1 1 0 = 0) = true from by decide +kernel] at h
  exact h
theorem aw_tk (hq : QIs w vl vm aQ3 V) : Calls Try.prog 14 #[.agg #[vl, vm]] w fun e w' => ∃ ul um V', e = .returned (.tuple #[quV ul um, .agg #[.int .i64 1, .int .i64 0, .int .i64 0, .int .u64 7], .int .i64 0]) ∧ QIs w' ul um aQ4 V' ∧ Below w.heap.size w w' ∧ QNew w.heap.size ul um aQ4 V' := by
  have h := take_any vl vm aQ3 V w (okq_of (by decide +kernel) (by decide)) hq
  rw [show aQ3.tkM = ⟨1, 0, 0, 7⟩ from by kernel_rfl, show aQ3.tkE = 0 from by decide +kernel, show aQ3.tkQ = aQ4 from by kernel_rfl] at h
  exact h
theorem aw_rt (hq : QIs w vl vm aQ4 V) : Calls Try.prog 15 #[.agg #[vl, vm], .agg #[.int .i64 1, .int .i64 0, .int .i64 0, .int .u64 7]] w fun e w' => ∃ ul um V', e = .returned (.tuple #[quV ul um, .int .i64 0]) ∧ QIs w' ul um aQ4 V' ∧ Below w.heap.size w w' ∧ QNew w.heap.size ul um aQ4 V' := by
  have h := retire_any vl vm aQ4 V 1 0 0 7 w (okq_of (by decide +kernel) (by decide)) hq
  rw [show aQ4.rtE 1 0 = 0 from by decide +kernel, show aQ4.rtQ 1 0 = aQ4 from by kernel_rfl] at h
  exact h
theorem aw_rs (hq : QIs w vl vm aQ4 V) : Calls Try.prog 13 #[.agg #[vl, vm], .int .i64 1] w fun e w' => ∃ ul um V', e = .returned (.tuple #[quV ul um, .int .i64 104]) ∧ QIs w' ul um qu0 V' ∧ Below w.heap.size w w' ∧ QNew w.heap.size ul um qu0 V' := by
  have h := reset_any vl vm aQ4 V 1 w (okq_of (by decide +kernel) (by decide)) hq
  rw [show aQ4.rsE 1 = 104 from by decide +kernel, show aQ4.rsQ 1 = qu0 from by kernel_rfl] at h
  exact h
theorem aw_ck (hq : QIs w vl vm aQ4 V) : Calls Try.prog 9 #[.agg #[vl, vm]] w fun e w' => e = .returned (.int .i64 0) ∧ Below w.heap.size w w' := by
  have h := check_any vl vm aQ4 V w (okq_of (by decide +kernel) (by decide)) hq
  rw [show aQ4.chk = 0 from by decide +kernel] at h
  exact h
end
set_option maxHeartbeats 4000000 in
theorem awake_any (w : World) : Calls Try.prog 5 #[] w fun e w' => e = .returned (.bool true) ∧ Below w.heap.size w w' := by
  obtain ⟨k1, k2, b2, s2⟩ := alloc2 w [.int .i64 1, .int .i64 2] 3 [.bool true, .bool false] 4
  have hsc : Sl _ 1 2 (encI [1, 2]) (.slice (some ⟨w.heap.size, 0, none⟩) 2 2) := ⟨_, _, rfl, Nat.le_refl _, (fun e => by cases e), fun j hj => ⟨w.heap.size, 0, rfl, fun f hf => by
    obtain rfl : f = 0 := by omega
    match j, hj with
    | 0, _ => exact k1.bx 0 _ rfl
    | 1, _ => exact k1.bx 1 _ rfl⟩⟩
  have hst : Sl _ 1 2 (encB [true, false]) (.slice (some ⟨w.heap.size + 1, 0, none⟩) 2 2) := ⟨_, _, rfl, Nat.le_refl _, (fun e => by cases e), fun j hj => ⟨w.heap.size + 1, 0, rfl, fun f hf => by
    obtain rfl : f = 0 := by omega
    match j, hj with
    | 0, _ => exact k2.bx 0 _ rfl
    | 1, _ => exact k2.bx 1 _ rfl⟩⟩
  have hnew := aw_new hsc hst
  have B2 : Hid (Below _ _ _) := b2
  clear k1 k2 b2 s2 hsc hst
  go_enter Try.func5, Try.ntmps5
  go_wp2_with fail
  generalize (w.alloc (.cells #[.int .i64 1, .int .i64 2] 3)).alloc (.cells #[.bool true, .bool false] 4) = w2 at *
  refine hnew.mono ?_
  rintro e w3 ⟨ul, um, V0, rfl, hq3, hb3, hn3⟩
  obtain ⟨la, nl, lc, rfl⟩ : ∃ a n c, ul = .slice a n c := by obtain ⟨a, c, e, _⟩ := hq3.l; exact ⟨_, _, _, e⟩
  obtain ⟨ma, nm, mc, rfl⟩ : ∃ a n c, um = .slice a n c := by obtain ⟨a, c, e, _⟩ := hq3.m; exact ⟨_, _, _, e⟩
  obtain ⟨k1, b4, s4⟩ := alloc1 w3 [.slice la nl lc, .slice ma nm mc] 30
  have K : Hid (Blk _ w3.heap.size _ _) := k1
  have B4 : Hid (Below w.heap.size w _) := Below.onto (Below.onto B2.out hb3) b4
  have hc1 := aw_c1 (hq3.below b4)
  have hwl : Hid (w.heap.size ≤ w3.heap.size) := (Below.onto B2.out hb3).size
  clear hnew hq3 hb3 hn3 k1 b4 s4
  go_wp2_with fail
  generalize w3.alloc (.cells #[.slice la nl lc, .slice ma nm mc] 30) = w4 at *
  generalize w3.heap.size = Bq at *
  refine hc1.mono ?_
  rintro e w5 ⟨ul, um, V1, rfl, hq, hb, hn⟩
  obtain ⟨la1, nl1, lc1, rfl⟩ : ∃ a n c, ul = .slice a n c := by obtain ⟨a, c, e, _⟩ := hq.l; exact ⟨_, _, _, e⟩
  obtain ⟨ma1, nm1, mc1, rfl⟩ : ∃ a n c, um = .slice a n c := by obtain ⟨a, c, e, _⟩ := hq.m; exact ⟨_, _, _, e⟩
  have K1 : Hid (Blk w5 _ _ _) := K.out.below hb
  have hkl := K.out.lt
  have BB1 : Hid (Below w.heap.size w w5) := Below.onto B4.out hb
  have K1s : Hid (Blk ((w5.setCell ⟨Bq, 0, none⟩ (.slice la1 nl1 lc1)).setCell ⟨Bq, 1, none⟩ (.slice ma1 nm1 mc1)) Bq _ [(.slice la1 nl1 lc1), (.slice ma1 nm1 mc1)]) := (K1.out.set 0 _).set 1 _
  have HQ1s : Hid (QIs ((w5.setCell ⟨Bq, 0, none⟩ (.slice la1 nl1 lc1)).setCell ⟨Bq, 1, none⟩ (.slice ma1 nm1 mc1)) _ _ _ _) := (hq.setO hn hkl).setO hn hkl
  have BB1s : Hid (Below w.heap.size w ((w5.setCell ⟨Bq, 0, none⟩ (.slice la1 nl1 lc1)).setCell ⟨Bq, 1, none⟩ (.slice ma1 nm1 mc1))) := (BB1.out.setCell hwl.out _).setCell hwl.out _
  obtain ⟨kx, bx, sx⟩ := alloc1 ((w5.setCell ⟨Bq, 0, none⟩ (.slice la1 nl1 lc1)).setCell ⟨Bq, 1, none⟩ (.slice ma1 nm1 mc1)) [.int .i64 1, .int .i64 0, .int .i64 0] 47
  have hsz : ((w5.setCell ⟨Bq, 0, none⟩ (.slice la1 nl1 lc1)).setCell ⟨Bq, 1, none⟩ (.slice ma1 nm1 mc1)).heap.size = w5.heap.size := by simp [World.setCell]
  rw [hsz] at kx
  have KA1a : Hid (Blk _ _ _ _) := kx
  have K1a : Hid (Blk _ _ _ _) := K1s.out.below bx
  have HQ1a : Hid (QIs _ _ _ _ _) := HQ1s.out.below bx
  have BB1a : Hid (Below w.heap.size w _) := Below.onto BB1s.out bx
  have hlx : Hid (Bq < w5.heap.size) := by have := K1s.out.lt; rw [hsz] at this; exact this
  clear kx bx sx hsz
  have hc2 := aw_c2 HQ1a.out
  obtain ⟨g0, g1⟩ := K1.out.bx.two
  have g2 := K1.out.fz
  have hkl2 := K1.out.lt
  clear hc1 hb
  go_wp2_with fail
  clear g0 g1 g2 hkl hkl2
  generalize ((w5.setCell ⟨Bq, 0, none⟩ (.slice la1 nl1 lc1)).setCell ⟨Bq, 1, none⟩ (.slice ma1 nm1 mc1)).alloc (.cells #[.int .i64 1, .int .i64 0, .int .i64 0] 47) = w6 at *
  have NKA : Hid (¬ w5.heap.size = Bq) := by have := hlx.out; show ¬ _; omega
  clear hlx
  generalize w5.heap.size = CKA at *
  refine hc2.mono ?_
  rintro e w7 ⟨ul, um, V2, rfl, hq, hb, hn⟩
  obtain ⟨la2, nl2, lc2, rfl⟩ : ∃ a n c, ul = .slice a n c := by obtain ⟨a, c, e, _⟩ := hq.l; exact ⟨_, _, _, e⟩
  obtain ⟨ma2, nm2, mc2, rfl⟩ : ∃ a n c, um = .slice a n c := by obtain ⟨a, c, e, _⟩ := hq.m; exact ⟨_, _, _, e⟩
  have K2 : Hid (Blk w7 _ _ _) := K1a.out.below hb
  have KA2 : Hid (Blk w7 _ _ _) := KA1a.out.below hb
  have hkl := K1a.out.lt
  have BB2 : Hid (Below w.heap.size w w7) := Below.onto BB1a.out hb
  have K2s : Hid (Blk ((w7.setCell ⟨Bq, 0, none⟩ (.slice la2 nl2 lc2)).setCell ⟨Bq, 1, none⟩ (.slice ma2 nm2 mc2)) Bq _ [(.slice la2 nl2 lc2), (.slice ma2 nm2 mc2)]) := (K2.out.set 0 _).set 1 _
  have KA2s : Hid (Blk ((w7.setCell ⟨Bq, 0, none⟩ (.slice la2 nl2 lc2)).setCell ⟨Bq, 1, none⟩ (.slice ma2 nm2 mc2)) _ _ _) := (KA2.out.setO NKA.out _).setO NKA.out _
  have HQ2s : Hid (QIs ((w7.setCell ⟨Bq, 0, none⟩ (.slice la2 nl2 lc2)).setCell ⟨Bq, 1, none⟩ (.slice ma2 nm2 mc2)) _ _ _ _) := (hq.setO hn hkl).setO hn hkl
  have BB2s : Hid (Below w.heap.size w ((w7.setCell ⟨Bq, 0, none⟩ (.slice la2 nl2 lc2)).setCell ⟨Bq, 1, none⟩ (.slice ma2 nm2 mc2))) := (BB2.out.setCell hwl.out _).setCell hwl.out _
  obtain ⟨kx, bx, sx⟩ := alloc1 ((w7.setCell ⟨Bq, 0, none⟩ (.slice la2 nl2 lc2)).setCell ⟨Bq, 1, none⟩ (.slice ma2 nm2 mc2)) [.int .i64 1, .int .i64 1, .int .i64 0] 47
  have hsz : ((w7.setCell ⟨Bq, 0, none⟩ (.slice la2 nl2 lc2)).setCell ⟨Bq, 1, none⟩ (.slice ma2 nm2 mc2)).heap.size = w7.heap.size := by simp [World.setCell]
  rw [hsz] at kx
  have KB2a : Hid (Blk _ _ _ _) := kx
  have K2a : Hid (Blk _ _ _ _) := K2s.out.below bx
  have KA2a : Hid (Blk _ _ _ _) := KA2s.out.below bx
  have HQ2a : Hid (QIs _ _ _ _ _) := HQ2s.out.below bx
  have BB2a : Hid (Below w.heap.size w _) := Below.onto BB2s.out bx
  have hlx : Hid (Bq < w7.heap.size) := by have := K2s.out.lt; rw [hsz] at this; exact this
  clear kx bx sx hsz
  have hp1 := aw_p1 HQ2a.out
  obtain ⟨g0, g1⟩ := K2.out.bx.two
  have g2 := K2.out.fz
  obtain ⟨a0, a1, a2⟩ := KA2.out.bx.three
  have nKA := NKA.out
  have lKA := KA2.out.lt
  have hkl2 := K2.out.lt
  clear hc2 hb
  go_wp2_with fail
  clear g0 g1 g2 hkl hkl2 a0 a1 a2 nKA lKA
  generalize ((w7.setCell ⟨Bq, 0, none⟩ (.slice la2 nl2 lc2)).setCell ⟨Bq, 1, none⟩ (.slice ma2 nm2 mc2)).alloc (.cells #[.int .i64 1, .int .i64 1, .int .i64 0] 47) = w8 at *
  have NKB : Hid (¬ w7.heap.size = Bq) := by have := hlx.out; show ¬ _; omega
  clear hlx
  generalize w7.heap.size = CKB at *
  refine hp1.mono ?_
  rintro e w9 ⟨ul, um, V3, rfl, hq, hb, hn⟩
  obtain ⟨la3, nl3, lc3, rfl⟩ : ∃ a n c, ul = .slice a n c := by obtain ⟨a, c, e, _⟩ := hq.l; exact ⟨_, _, _, e⟩
  obtain ⟨ma3, nm3, mc3, rfl⟩ : ∃ a n c, um = .slice a n c := by obtain ⟨a, c, e, _⟩ := hq.m; exact ⟨_, _, _, e⟩
  have K3 : Hid (Blk w9 _ _ _) := K2a.out.below hb
  have KA3 : Hid (Blk w9 _ _ _) := KA2a.out.below hb
  have KB3 : Hid (Blk w9 _ _ _) := KB2a.out.below hb
  have hkl := K2a.out.lt
  have BB3 : Hid (Below w.heap.size w w9) := Below.onto BB2a.out hb
  have HQ3 : Hid (QIs w9 _ _ _ _) := HQ2a.out.below hb
  obtain ⟨kx, bx, sx⟩ := alloc1 (w9) [.slice la3 nl3 lc3, .slice ma3 nm3 mc3] 30
  have KP3a : Hid (Blk _ _ _ _) := kx
  have K3a : Hid (Blk _ _ _ _) := K3.out.below bx
  have KA3a : Hid (Blk _ _ _ _) := KA3.out.below bx
  have KB3a : Hid (Blk _ _ _ _) := KB3.out.below bx
  have HQ3a : Hid (QIs _ _ _ _ _) := HQ3.out.below bx
  have BB3a : Hid (Below w.heap.size w _) := Below.onto BB3.out bx
  have hlx : Hid (Bq < (w9).heap.size) := K3.out.lt
  clear kx bx sx
  have hp2 := aw_p2 HQ3a.out
  obtain ⟨g0, g1⟩ := K3.out.bx.two
  have g2 := K3.out.fz
  obtain ⟨a0, a1, a2⟩ := KA3.out.bx.three
  obtain ⟨d0, d1, d2⟩ := KB3.out.bx.three
  have nKA := NKA.out
  have lKA := KA3.out.lt
  have nKB := NKB.out
  have lKB := KB3.out.lt
  have hkl2 := K3.out.lt
  clear hp1 hb hq hn
  go_wp2_with fail
  clear g0 g1 g2 hkl hkl2 a0 a1 a2 d0 d1 d2 nKA lKA nKB lKB
  generalize (w9).alloc (.cells #[.slice la3 nl3 lc3, .slice ma3 nm3 mc3] 30) = w10 at *
  have NKP : Hid (¬ (w9).heap.size = Bq) := by have := hlx.out; show ¬ _; omega
  clear hlx
  generalize (w9).heap.size = CKP at *
  refine hp2.mono ?_
  rintro e w11 ⟨ul, um, V4, rfl, hq, hb, hn⟩
  obtain ⟨la4, nl4, lc4, rfl⟩ : ∃ a n c, ul = .slice a n c := by obtain ⟨a, c, e, _⟩ := hq.l; exact ⟨_, _, _, e⟩
  obtain ⟨ma4, nm4, mc4, rfl⟩ : ∃ a n c, um = .slice a n c := by obtain ⟨a, c, e, _⟩ := hq.m; exact ⟨_, _, _, e⟩
  have K4 : Hid (Blk w11 _ _ _) := K3a.out.below hb
  have KA4 : Hid (Blk w11 _ _ _) := KA3a.out.below hb
  have KB4 : Hid (Blk w11 _ _ _) := KB3a.out.below hb
  have KP4 : Hid (Blk w11 _ _ _) := KP3a.out.below hb
  have hkl := K3a.out.lt
  have BB4 : Hid (Below w.heap.size w w11) := Below.onto BB3a.out hb
  have K4s : Hid (Blk ((w11.setCell ⟨Bq, 0, none⟩ (.slice la4 nl4 lc4)).setCell ⟨Bq, 1, none⟩ (.slice ma4 nm4 mc4)) Bq _ [(.slice la4 nl4 lc4), (.slice ma4 nm4 mc4)]) := (K4.out.set 0 _).set 1 _
  have KA4s : Hid (Blk ((w11.setCell ⟨Bq, 0, none⟩ (.slice la4 nl4 lc4)).setCell ⟨Bq, 1, none⟩ (.slice ma4 nm4 mc4)) _ _ _) := (KA4.out.setO NKA.out _).setO NKA.out _
  have KB4s : Hid (Blk ((w11.setCell ⟨Bq, 0, none⟩ (.slice la4 nl4 lc4)).setCell ⟨Bq, 1, none⟩ (.slice ma4 nm4 mc4)) _ _ _) := (KB4.out.setO NKB.out _).setO NKB.out _
  have KP4s : Hid (Blk ((w11.setCell ⟨Bq, 0, none⟩ (.slice la4 nl4 lc4)).setCell ⟨Bq, 1, none⟩ (.slice ma4 nm4 mc4)) _ _ _) := (KP4.out.setO NKP.out _).setO NKP.out _
  have HQ4s : Hid (QIs ((w11.setCell ⟨Bq, 0, none⟩ (.slice la4 nl4 lc4)).setCell ⟨Bq, 1, none⟩ (.slice ma4 nm4 mc4)) _ _ _ _) := (hq.setO hn hkl).setO hn hkl
  have BB4s : Hid (Below w.heap.size w ((w11.setCell ⟨Bq, 0, none⟩ (.slice la4 nl4 lc4)).setCell ⟨Bq, 1, none⟩ (.slice ma4 nm4 mc4))) := (BB4.out.setCell hwl.out _).setCell hwl.out _
  have hrd := aw_rd HQ4s.out
  obtain ⟨g0, g1⟩ := K4.out.bx.two
  have g2 := K4.out.fz
  obtain ⟨a0, a1, a2⟩ := KA4.out.bx.three
  obtain ⟨d0, d1, d2⟩ := KB4.out.bx.three
  have nKA := NKA.out
  have lKA := KA4.out.lt
  have nKB := NKB.out
  have lKB := KB4.out.lt
  have hkl2 := K4.out.lt
  clear hp2 hb
  go_wp2_with fail
  clear g0 g1 g2 hkl hkl2 a0 a1 a2 d0 d1 d2 nKA lKA nKB lKB
  generalize (w11.setCell ⟨Bq, 0, none⟩ (.slice la4 nl4 lc4)).setCell ⟨Bq, 1, none⟩ (.slice ma4 nm4 mc4) = w12 at *
  refine hrd.mono ?_
  rintro e w13 ⟨rfl, hb⟩
  have K5 : Hid (Blk w13 _ _ _) := K4s.out.below hb
  have KA5 : Hid (Blk w13 _ _ _) := KA4s.out.below hb
  have KB5 : Hid (Blk w13 _ _ _) := KB4s.out.below hb
  have KP5 : Hid (Blk w13 _ _ _) := KP4s.out.below hb
  have hkl := K4s.out.lt
  have BB5 : Hid (Below w.heap.size w w13) := Below.onto BB4s.out hb
  have HQ5 : Hid (QIs w13 _ _ _ _) := HQ4s.out.below hb
  have htk := aw_tk HQ5.out
  obtain ⟨g0, g1⟩ := K5.out.bx.two
  have g2 := K5.out.fz
  obtain ⟨a0, a1, a2⟩ := KA5.out.bx.three
  obtain ⟨d0, d1, d2⟩ := KB5.out.bx.three
  have nKA := NKA.out
  have lKA := KA5.out.lt
  have nKB := NKB.out
  have lKB := KB5.out.lt
  have hkl2 := K5.out.lt
  clear hrd hb
  go_wp2_with fail
  clear g0 g1 g2 hkl hkl2 a0 a1 a2 d0 d1 d2 nKA lKA nKB lKB
  refine htk.mono ?_
  rintro e w15 ⟨ul, um, V6, rfl, hq, hb, hn⟩
  obtain ⟨la6, nl6, lc6, rfl⟩ : ∃ a n c, ul = .slice a n c := by obtain ⟨a, c, e, _⟩ := hq.l; exact ⟨_, _, _, e⟩
  obtain ⟨ma6, nm6, mc6, rfl⟩ : ∃ a n c, um = .slice a n c := by obtain ⟨a, c, e, _⟩ := hq.m; exact ⟨_, _, _, e⟩
  have K6 : Hid (Blk w15 _ _ _) := K5.out.below hb
  have KA6 : Hid (Blk w15 _ _ _) := KA5.out.below hb
  have KB6 : Hid (Blk w15 _ _ _) := KB5.out.below hb
  have KP6 : Hid (Blk w15 _ _ _) := KP5.out.below hb
  have hkl := K5.out.lt
  have BB6 : Hid (Below w.heap.size w w15) := Below.onto BB5.out hb
  have K6s : Hid (Blk ((w15.setCell ⟨Bq, 0, none⟩ (.slice la6 nl6 lc6)).setCell ⟨Bq, 1, none⟩ (.slice ma6 nm6 mc6)) Bq _ [(.slice la6 nl6 lc6), (.slice ma6 nm6 mc6)]) := (K6.out.set 0 _).set 1 _
  have KA6s : Hid (Blk ((w15.setCell ⟨Bq, 0, none⟩ (.slice la6 nl6 lc6)).setCell ⟨Bq, 1, none⟩ (.slice ma6 nm6 mc6)) _ _ _) := (KA6.out.setO NKA.out _).setO NKA.out _
  have KB6s : Hid (Blk ((w15.setCell ⟨Bq, 0, none⟩ (.slice la6 nl6 lc6)).setCell ⟨Bq, 1, none⟩ (.slice ma6 nm6 mc6)) _ _ _) := (KB6.out.setO NKB.out _).setO NKB.out _
  have KP6s : Hid (Blk ((w15.setCell ⟨Bq, 0, none⟩ (.slice la6 nl6 lc6)).setCell ⟨Bq, 1, none⟩ (.slice ma6 nm6 mc6)) _ _ _) := (KP6.out.setO NKP.out _).setO NKP.out _
  have HQ6s : Hid (QIs ((w15.setCell ⟨Bq, 0, none⟩ (.slice la6 nl6 lc6)).setCell ⟨Bq, 1, none⟩ (.slice ma6 nm6 mc6)) _ _ _ _) := (hq.setO hn hkl).setO hn hkl
  have BB6s : Hid (Below w.heap.size w ((w15.setCell ⟨Bq, 0, none⟩ (.slice la6 nl6 lc6)).setCell ⟨Bq, 1, none⟩ (.slice ma6 nm6 mc6))) := (BB6.out.setCell hwl.out _).setCell hwl.out _
  obtain ⟨kx, bx, sx⟩ := alloc1 ((w15.setCell ⟨Bq, 0, none⟩ (.slice la6 nl6 lc6)).setCell ⟨Bq, 1, none⟩ (.slice ma6 nm6 mc6)) [.int .i64 1, .int .i64 0, .int .i64 0, .int .u64 7] 44
  have hsz : ((w15.setCell ⟨Bq, 0, none⟩ (.slice la6 nl6 lc6)).setCell ⟨Bq, 1, none⟩ (.slice ma6 nm6 mc6)).heap.size = w15.heap.size := by simp [World.setCell]
  rw [hsz] at kx
  have KM6a : Hid (Blk _ _ _ _) := kx
  have K6a : Hid (Blk _ _ _ _) := K6s.out.below bx
  have KA6a : Hid (Blk _ _ _ _) := KA6s.out.below bx
  have KB6a : Hid (Blk _ _ _ _) := KB6s.out.below bx
  have KP6a : Hid (Blk _ _ _ _) := KP6s.out.below bx
  have HQ6a : Hid (QIs _ _ _ _ _) := HQ6s.out.below bx
  have BB6a : Hid (Below w.heap.size w _) := Below.onto BB6s.out bx
  have hlx : Hid (Bq < w15.heap.size) := by have := K6s.out.lt; rw [hsz] at this; exact this
  clear kx bx sx hsz
  have hrt := aw_rt HQ6a.out
  obtain ⟨g0, g1⟩ := K6.out.bx.two
  have g2 := K6.out.fz
  obtain ⟨a0, a1, a2⟩ := KA6.out.bx.three
  obtain ⟨d0, d1, d2⟩ := KB6.out.bx.three
  have nKA := NKA.out
  have lKA := KA6.out.lt
  have nKB := NKB.out
  have lKB := KB6.out.lt
  have hkl2 := K6.out.lt
  clear htk hb
  go_wp2_with fail
  clear g0 g1 g2 hkl hkl2 a0 a1 a2 d0 d1 d2 nKA lKA nKB lKB
  generalize ((w15.setCell ⟨Bq, 0, none⟩ (.slice la6 nl6 lc6)).setCell ⟨Bq, 1, none⟩ (.slice ma6 nm6 mc6)).alloc (.cells #[.int .i64 1, .int .i64 0, .int .i64 0, .int .u64 7] 44) = w16 at *
  have NKM : Hid (¬ w15.heap.size = Bq) := by have := hlx.out; show ¬ _; omega
  clear hlx
  generalize w15.heap.size = CKM at *
  refine hrt.mono ?_
  rintro e w17 ⟨ul, um, V7, rfl, hq, hb, hn⟩
  obtain ⟨la7, nl7, lc7, rfl⟩ : ∃ a n c, ul = .slice a n c := by obtain ⟨a, c, e, _⟩ := hq.l; exact ⟨_, _, _, e⟩
  obtain ⟨ma7, nm7, mc7, rfl⟩ : ∃ a n c, um = .slice a n c := by obtain ⟨a, c, e, _⟩ := hq.m; exact ⟨_, _, _, e⟩
  have K7 : Hid (Blk w17 _ _ _) := K6a.out.below hb
  have KA7 : Hid (Blk w17 _ _ _) := KA6a.out.below hb
  have KB7 : Hid (Blk w17 _ _ _) := KB6a.out.below hb
  have KP7 : Hid (Blk w17 _ _ _) := KP6a.out.below hb
  have KM7 : Hid (Blk w17 _ _ _) := KM6a.out.below hb
  have hkl := K6a.out.lt
  have BB7 : Hid (Below w.heap.size w w17) := Below.onto BB6a.out hb
  have HQ7 : Hid (QIs w17 _ _ _ _) := HQ6a.out.below hb
  obtain ⟨kx, bx, sx⟩ := alloc1 (w17) [.slice la7 nl7 lc7, .slice ma7 nm7 mc7] 30
  have KR7a : Hid (Blk _ _ _ _) := kx
  have K7a : Hid (Blk _ _ _ _) := K7.out.below bx
  have KA7a : Hid (Blk _ _ _ _) := KA7.out.below bx
  have KB7a : Hid (Blk _ _ _ _) := KB7.out.below bx
  have KP7a : Hid (Blk _ _ _ _) := KP7.out.below bx
  have KM7a : Hid (Blk _ _ _ _) := KM7.out.below bx
  have HQ7a : Hid (QIs _ _ _ _ _) := HQ7.out.below bx
  have BB7a : Hid (Below w.heap.size w _) := Below.onto BB7.out bx
  have hlx : Hid (Bq < (w17).heap.size) := K7.out.lt
  clear kx bx sx
  have hrs := aw_rs HQ7a.out
  obtain ⟨g0, g1⟩ := K7.out.bx.two
  have g2 := K7.out.fz
  obtain ⟨a0, a1, a2⟩ := KA7.out.bx.three
  obtain ⟨d0, d1, d2⟩ := KB7.out.bx.three
  obtain ⟨m0, m1, m2, m3⟩ := KM7.out.bx.four
  have nKA := NKA.out
  have lKA := KA7.out.lt
  have nKB := NKB.out
  have lKB := KB7.out.lt
  have nKM := NKM.out
  have lKM := KM7.out.lt
  have hkl2 := K7.out.lt
  clear hrt hb hq hn
  go_wp2_with fail
  clear g0 g1 g2 hkl hkl2 a0 a1 a2 d0 d1 d2 m0 m1 m2 m3 nKA lKA nKB lKB nKM lKM
  generalize (w17).alloc (.cells #[.slice la7 nl7 lc7, .slice ma7 nm7 mc7] 30) = w18 at *
  have NKR : Hid (¬ (w17).heap.size = Bq) := by have := hlx.out; show ¬ _; omega
  clear hlx
  generalize (w17).heap.size = CKR at *
  refine hrs.mono ?_
  rintro e w19 ⟨ul, um, V8, rfl, hq, hb, hn⟩
  obtain ⟨la8, nl8, lc8, rfl⟩ : ∃ a n c, ul = .slice a n c := by obtain ⟨a, c, e, _⟩ := hq.l; exact ⟨_, _, _, e⟩
  obtain ⟨ma8, nm8, mc8, rfl⟩ : ∃ a n c, um = .slice a n c := by obtain ⟨a, c, e, _⟩ := hq.m; exact ⟨_, _, _, e⟩
  have K8 : Hid (Blk w19 _ _ _) := K7a.out.below hb
  have KA8 : Hid (Blk w19 _ _ _) := KA7a.out.below hb
  have KB8 : Hid (Blk w19 _ _ _) := KB7a.out.below hb
  have KP8 : Hid (Blk w19 _ _ _) := KP7a.out.below hb
  have KM8 : Hid (Blk w19 _ _ _) := KM7a.out.below hb
  have KR8 : Hid (Blk w19 _ _ _) := KR7a.out.below hb
  have hkl := K7a.out.lt
  have BB8 : Hid (Below w.heap.size w w19) := Below.onto BB7a.out hb
  have HQ8 : Hid (QIs w19 _ _ _ _) := HQ7a.out.below hb
  obtain ⟨kx, bx, sx⟩ := alloc1 (w19) [.slice la8 nl8 lc8, .slice ma8 nm8 mc8] 30
  have KS8a : Hid (Blk _ _ _ _) := kx
  have K8a : Hid (Blk _ _ _ _) := K8.out.below bx
  have KA8a : Hid (Blk _ _ _ _) := KA8.out.below bx
  have KB8a : Hid (Blk _ _ _ _) := KB8.out.below bx
  have KP8a : Hid (Blk _ _ _ _) := KP8.out.below bx
  have KM8a : Hid (Blk _ _ _ _) := KM8.out.below bx
  have KR8a : Hid (Blk _ _ _ _) := KR8.out.below bx
  have HQ8a : Hid (QIs _ _ _ _ _) := HQ8.out.below bx
  have BB8a : Hid (Below w.heap.size w _) := Below.onto BB8.out bx
  have hlx : Hid (Bq < (w19).heap.size) := K8.out.lt
  clear kx bx sx
  have hck := aw_ck HQ8a.out
  obtain ⟨g0, g1⟩ := K8.out.bx.two
  have g2 := K8.out.fz
  obtain ⟨a0, a1, a2⟩ := KA8.out.bx.three
  obtain ⟨d0, d1, d2⟩ := KB8.out.bx.three
  obtain ⟨m0, m1, m2, m3⟩ := KM8.out.bx.four
  have nKA := NKA.out
  have lKA := KA8.out.lt
  have nKB := NKB.out
  have lKB := KB8.out.lt
  have nKM := NKM.out
  have lKM := KM8.out.lt
  have hkl2 := K8.out.lt
  clear hrs hb hq hn
  go_wp2_with fail
  clear g0 g1 g2 hkl hkl2 a0 a1 a2 d0 d1 d2 m0 m1 m2 m3 nKA lKA nKB lKB nKM lKM
  generalize (w19).alloc (.cells #[.slice la8 nl8 lc8, .slice ma8 nm8 mc8] 30) = w20 at *
  have NKS : Hid (¬ (w19).heap.size = Bq) := by have := hlx.out; show ¬ _; omega
  clear hlx
  generalize (w19).heap.size = CKS at *
  refine hck.mono ?_
  rintro e wz ⟨rfl, hb⟩
  have BZ : Hid (Below w.heap.size w wz) := Below.onto BB8a.out hb
  clear hb hck
  go_wp2_with fail
  go_ret
  exact ⟨rfl, BZ.out⟩

end Go.Proofs.Ytkgehbonijpdnaa
