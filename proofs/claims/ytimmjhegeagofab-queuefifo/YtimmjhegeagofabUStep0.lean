/- The law's step: where nothing is done. -/
import Derived.Test.YtimmjhegeagofabUStep1
namespace Go.Proofs.Ytimmjhegeagofab
open Go.RowKit
set_option maxRecDepth 100000

set_option maxHeartbeats 4000000 in
theorem step0_any (ql qm vc vs vt : Value) (R : Rn) (V : Nat → Value) (l : List Int) (i : Nat) (k ln n x : Int) (w : World) (h1 : k ≠ 1) (h2 : k ≠ 2) (h3 : k ≠ 3) (h4 : k ≠ 4) (hk : R.Ok l i) (hr : RIs w ql qm vc vs vt R V) : Calls Try.prog 25 #[runV ql qm vc vs vt, opV k ln n x] w fun e w' =>
    ∃ ql' qm' vc' vs' vt' R' V', e = .returned (runV ql' qm' vc' vs' vt') ∧ RIs w' ql' qm' vc' vs' vt' R' V' ∧ R'.Ok l (i + 1) ∧ Below w.heap.size w w' := by
  have HR : Hid (RIs w ql qm vc vs vt R V) := hr
  have HK : Hid (R.Ok l i) := hk
  obtain ⟨la, lc, rfl, hd1⟩ := hr.q.l
  obtain ⟨ma, mc, rfl, hd2⟩ := hr.q.m
  obtain ⟨ca, cc, rfl, hd3⟩ := hr.c
  obtain ⟨sa, sc, rfl, hd4⟩ := hr.s
  obtain ⟨ta, tc, rfl, hd5⟩ := hr.t
  obtain ⟨k1, k2, k3, b2, s2⟩ := alloc3 w [.slice la R.q.ls.length lc, .slice ma R.q.ms.length mc, .slice ca R.cl.length cc, .slice sa R.se.length sc, .slice ta R.tk.length tc, .bool true] 54 [.int .i64 k, .int .i64 ln, .int .u8 n, .int .u64 x] 57 [.slice none 0 0, .slice none 0 0, .slice none 0 0, .slice none 0 0, .slice none 0 0, .bool false] 54
  have K1 : Hid (Blk _ _ _ _) := k1
  have K3 : Hid (Blk _ _ _ _) := k3
  have K2 : Hid (Blk _ _ _ _) := k2
  have B2 : Hid (Below _ _ _) := b2
  clear k1 k2 k3 b2 s2 hr hk hd1 hd2 hd3 hd4 hd5
  have e1 : (k == 1) = false := by simp [h1]
  have e2 : (k == 2) = false := by simp [h2]
  have e3 : (k == 3) = false := by simp [h3]
  have e4 : (k == 4) = false := by simp [h4]
  go_enter Try.func25, Try.ntmps25
  go_wp2_with fail
  refine bodyPost_ret (v := runV (.slice la R.q.ls.length lc) (.slice ma R.q.ms.length mc) (.slice ca R.cl.length cc) (.slice sa R.se.length sc) (.slice ta R.tk.length tc)) (by simp [results, Try.results25, go_sem]) rfl ⟨_, _, _, _, _, R, V, rfl, HR.out.below ?_, HK.out.up, ?_⟩
  · exact Below.onto (below_new _ _) (Below.onto (below_new _ _) (below_new _ _))
  · exact Below.onto (below_new _ _) (Below.onto (below_new _ _) (below_new _ _))
set_option maxHeartbeats 4000000 in
theorem step2_none (ql qm vc vs vt : Value) (R : Rn) (V : Nat → Value) (l : List Int) (i : Nat) (ln n x : Int) (w : World) (h0 : R.cl.length = 0) (hk : R.Ok l i) (hr : RIs w ql qm vc vs vt R V) : Calls Try.prog 25 #[runV ql qm vc vs vt, opV 2 ln n x] w fun e w' =>
    ∃ ql' qm' vc' vs' vt' R' V', e = .returned (runV ql' qm' vc' vs' vt') ∧ RIs w' ql' qm' vc' vs' vt' R' V' ∧ R'.Ok l (i + 1) ∧ Below w.heap.size w w' := by
  have HR : Hid (RIs w ql qm vc vs vt R V) := hr
  have HK : Hid (R.Ok l i) := hk
  obtain ⟨la, lc, rfl, hd1⟩ := hr.q.l
  obtain ⟨ma, mc, rfl, hd2⟩ := hr.q.m
  obtain ⟨ca, cc, rfl, hd3⟩ := hr.c
  obtain ⟨sa, sc, rfl, hd4⟩ := hr.s
  obtain ⟨ta, tc, rfl, hd5⟩ := hr.t
  obtain ⟨k1, k2, k3, b2, s2⟩ := alloc3 w [.slice la R.q.ls.length lc, .slice ma R.q.ms.length mc, .slice ca R.cl.length cc, .slice sa R.se.length sc, .slice ta R.tk.length tc, .bool true] 54 [.int .i64 2, .int .i64 ln, .int .u8 n, .int .u64 x] 57 [.slice none 0 0, .slice none 0 0, .slice none 0 0, .slice none 0 0, .slice none 0 0, .bool false] 54
  have K1 : Hid (Blk _ _ _ _) := k1
  have K3 : Hid (Blk _ _ _ _) := k3
  have K2 : Hid (Blk _ _ _ _) := k2
  have B2 : Hid (Below _ _ _) := b2
  clear k1 k2 k3 b2 s2 hr hk hd1 hd2 hd3 hd4 hd5
  have e0 : ((R.cl.length : Int) == 0) = true := by simp [h0]
  clear h0
  go_enter Try.func25, Try.ntmps25
  go_wp2_with fail
  refine bodyPost_ret (v := runV (.slice la R.q.ls.length lc) (.slice ma R.q.ms.length mc) (.slice ca R.cl.length cc) (.slice sa R.se.length sc) (.slice ta R.tk.length tc)) (by simp [results, Try.results25, go_sem]) rfl ⟨_, _, _, _, _, R, V, rfl, HR.out.below ?_, HK.out.up, ?_⟩
  · exact Below.onto (below_new _ _) (Below.onto (below_new _ _) (below_new _ _))
  · exact Below.onto (below_new _ _) (Below.onto (below_new _ _) (below_new _ _))
set_option maxHeartbeats 4000000 in
theorem step4_none (ql qm vc vs vt : Value) (R : Rn) (V : Nat → Value) (l : List Int) (i : Nat) (ln n x : Int) (w : World) (h0 : R.tk.length = 0) (hk : R.Ok l i) (hr : RIs w ql qm vc vs vt R V) : Calls Try.prog 25 #[runV ql qm vc vs vt, opV 4 ln n x] w fun e w' =>
    ∃ ql' qm' vc' vs' vt' R' V', e = .returned (runV ql' qm' vc' vs' vt') ∧ RIs w' ql' qm' vc' vs' vt' R' V' ∧ R'.Ok l (i + 1) ∧ Below w.heap.size w w' := by
  have HR : Hid (RIs w ql qm vc vs vt R V) := hr
  have HK : Hid (R.Ok l i) := hk
  obtain ⟨la, lc, rfl, hd1⟩ := hr.q.l
  obtain ⟨ma, mc, rfl, hd2⟩ := hr.q.m
  obtain ⟨ca, cc, rfl, hd3⟩ := hr.c
  obtain ⟨sa, sc, rfl, hd4⟩ := hr.s
  obtain ⟨ta, tc, rfl, hd5⟩ := hr.t
  obtain ⟨k1, k2, k3, b2, s2⟩ := alloc3 w [.slice la R.q.ls.length lc, .slice ma R.q.ms.length mc, .slice ca R.cl.length cc, .slice sa R.se.length sc, .slice ta R.tk.length tc, .bool true] 54 [.int .i64 4, .int .i64 ln, .int .u8 n, .int .u64 x] 57 [.slice none 0 0, .slice none 0 0, .slice none 0 0, .slice none 0 0, .slice none 0 0, .bool false] 54
  have K1 : Hid (Blk _ _ _ _) := k1
  have K3 : Hid (Blk _ _ _ _) := k3
  have K2 : Hid (Blk _ _ _ _) := k2
  have B2 : Hid (Below _ _ _) := b2
  clear k1 k2 k3 b2 s2 hr hk hd1 hd2 hd3 hd4 hd5
  have e0 : ((R.tk.length : Int) == 0) = true := by simp [h0]
  clear h0
  go_enter Try.func25, Try.ntmps25
  go_wp2_with fail
  refine bodyPost_ret (v := runV (.slice la R.q.ls.length lc) (.slice ma R.q.ms.length mc) (.slice ca R.cl.length cc) (.slice sa R.se.length sc) (.slice ta R.tk.length tc)) (by simp [results, Try.results25, go_sem]) rfl ⟨_, _, _, _, _, R, V, rfl, HR.out.below ?_, HK.out.up, ?_⟩
  · exact Below.onto (below_new _ _) (Below.onto (below_new _ _) (below_new _ _))
  · exact Below.onto (below_new _ _) (Below.onto (below_new _ _) (below_new _ _))

end Go.Proofs.Ytimmjhegeagofab
