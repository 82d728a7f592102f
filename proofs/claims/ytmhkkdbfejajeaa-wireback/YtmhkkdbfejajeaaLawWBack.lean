/- PROVED: for every request, reply and h the statement WireBack returns true: what is laid is read as it was, requests and replies have 16 bytes (P3.5). No condition. -/
import Derived.Test.YtmhkkdbfejajeaaRows
import Derived.Test.YtmhkkdbfejajeaaWUn
import Derived.Test.YtmhkkdbfejajeaaWRow
import Derived.ProofKit
import Derived.ShutString
import Derived.ChangeOld
import Derived.OpenShut
namespace Go.Proofs.Ytmhkkdbfejajeaa.wireBack
open Go.ChangeShapes Go.WideShapes Go.ChangeAt Go.RowKit

theorem own : ownKnob Try.prog.godebug = none := by kernel_rfl
theorem laidOut : laidOutB Try.prog = true := by kernel_rfl

set_option maxRecDepth 100000 in
set_option maxHeartbeats 4000000 in
theorem back_req (k a r h p : Int) (hi : ReqIs k a r h p) (b off cap : Nat) (w : World) (hcap : 16 ≤ cap) (hc : Cells w .u8 (some ⟨b, off, none⟩) 16 (layZ k a r h p)) (hok : okB k a r h p = true) :
    Calls Try.prog 15 #[.slice (some ⟨b, off, none⟩) 16 cap] w fun e w' => e = .returned (.tuple #[.agg #[.int .u8 k, .int .u8 a, .int .u8 r, .int .u32 h, .int .u64 p], .int .i64 0]) ∧ Below w.heap.size w w' := by
  obtain ⟨hk, ha, hr, ⟨h0, h1⟩, p0, p1⟩ := hi
  have e4 := n4_lay k a r h p h0 h1
  have e8 := n8_lay k a r h p p0 p1
  have := parse_ok b off cap _ w hcap hc (byt_lay k a r h p hk ha hr) rfl (by rw [e4, e8]; exact hok)
  rw [e4, e8] at this
  exact this
theorem back_rpy (k a h p : Int) (hi : RpyIs k a h p) (b off cap : Nat) (w : World) (hcap : 16 ≤ cap) (hc : Cells w .u8 (some ⟨b, off, none⟩) 16 (layZ k a 0 h p)) (hok : repB k a h p = true) :
    Calls Try.prog 17 #[.slice (some ⟨b, off, none⟩) 16 cap] w fun e w' => e = .returned (.tuple #[.agg #[.int .u8 k, .int .u8 a, .int .u32 h, .int .u64 p], .int .i64 0]) ∧ Below w.heap.size w w' := by
  obtain ⟨hk, ha, ⟨h0, h1⟩, p0, p1⟩ := hi
  have e4 := n4_lay k a 0 h p h0 h1
  have e8 := n8_lay k a 0 h p p0 p1
  have := parser_ok b off cap _ w hcap hc (byt_lay k a 0 h p hk ha (by omega)) rfl rfl (by rw [e4, e8]; exact hok)
  rw [e4, e8] at this
  exact this
theorem hand_back (x : Int) (h0 : 0 ≤ x) (h1 : x < 4294967296) (w : World) :
    Calls Try.prog 24 #[.int .i64 (x % 256), .int .i64 (x / 256 % 256), .int .i64 (x / 65536)] w fun e w' => e = .returned (.tuple #[.int .u32 x, .int .i64 0]) ∧ w' = w := by
  have hb : handB (x % 256) (x / 256 % 256) (x / 65536) = true := by
    have g1 := (inB_true (n := x % 256) (l := 255)).2 (by omega)
    have g2 := (inB_true (n := x / 256 % 256) (l := 255)).2 (by omega)
    have g3 := (inB_true (n := x / 65536) (l := 65535)).2 (by omega)
    simp [handB, g1, g2, g3]
  have := hand_any (x % 256) (x / 256 % 256) (x / 65536) w
  rw [show handAns (x % 256) (x / 256 % 256) (x / 65536) = x by unfold handAns handI; rw [if_pos hb]; omega, hb] at this
  exact this

set_option maxRecDepth 100000 in
set_option maxHeartbeats 4000000 in
theorem walk_00 (k a r h p : Int) (hi : ReqIs k a r h p) (sk sa sh sp : Int) (_hs : RpyIs sk sa sh sp) (x : Int) (x0 : 0 ≤ x) (x1 : x < 4294967296) (w : World) (hok : okB k a r h p = false) (hrk : repB sk sa sh sp = false) :
    Calls Try.prog 8 #[.agg #[.int .u8 k, .int .u8 a, .int .u8 r, .int .u32 h, .int .u64 p], .agg #[.int .u8 sk, .int .u8 sa, .int .u32 sh, .int .u64 sp], .int .u32 x] w fun e w' => e = .returned (.bool true) ∧ Below w.heap.size w w' := by
  have cp := fun w => parts_any x w x0 x1
  have ch := fun w => hand_back x x0 x1 w
  generalize x % 256 = g0 at *
  generalize x / 256 % 256 = g1 at *
  generalize x / 65536 = g2 at *
  have ci := fun w => is_any k a r h p w
  have cr := fun w => isrep_any sk sa sh sp w
  rw [hok] at ci
  rw [hrk] at cr
  have cb := fun w => bytes_no k a r h p w hi.2.2.1.1 hok
  have cs := fun w => rpb_no sk sa sh sp w hrk
  clear hok hrk hi _hs x0 x1
  have N1 : (w.alloc (.cells #[.int .u8 k, .int .u8 a, .int .u8 r, .int .u32 h, .int .u64 p] 26)).heap.size = w.heap.size + 1 := by simp
  have HA0 : Hid (Has5 ((w.alloc (.cells #[.int .u8 k, .int .u8 a, .int .u8 r, .int .u32 h, .int .u64 p] 26)).alloc (.cells #[.int .u8 sk, .int .u8 sa, .int .u32 sh, .int .u64 sp] 43)) w.heap.size (.int .u8 k) (.int .u8 a) (.int .u8 r) (.int .u32 h) (.int .u64 p) ∧ Has4 ((w.alloc (.cells #[.int .u8 k, .int .u8 a, .int .u8 r, .int .u32 h, .int .u64 p] 26)).alloc (.cells #[.int .u8 sk, .int .u8 sa, .int .u32 sh, .int .u64 sp] 43)) (w.heap.size + 1) (.int .u8 sk) (.int .u8 sa) (.int .u32 sh) (.int .u64 sp)) := by
    have A5 := (has5_new w (.int .u8 k) (.int .u8 a) (.int .u8 r) (.int .u32 h) (.int .u64 p) 26).below (below_alloc _ (.cells #[.int .u8 sk, .int .u8 sa, .int .u32 sh, .int .u64 sp] 43))
    have A4 := has4_new (w.alloc (.cells #[.int .u8 k, .int .u8 a, .int .u8 r, .int .u32 h, .int .u64 p] 26)) (.int .u8 sk) (.int .u8 sa) (.int .u32 sh) (.int .u64 sp) 43
    rw [N1] at A4
    exact ⟨A5, A4⟩
  have B0 : Below w.heap.size w ((w.alloc (.cells #[.int .u8 k, .int .u8 a, .int .u8 r, .int .u32 h, .int .u64 p] 26)).alloc (.cells #[.int .u8 sk, .int .u8 sa, .int .u32 sh, .int .u64 sp] 43)) := Below.onto (below_alloc w _) (below_alloc _ _)
  clear N1
  go_enter Try.func8, Try.ntmps8
  go_wp2_with fail
  refine (cp _).mono ?_
  rintro e w1 ⟨rfl, rfl⟩
  go_wp2_with fail
  refine (ch _).mono ?_
  rintro e w2 ⟨rfl, rfl⟩
  clear cp ch
  go_wp2_with fail
  refine (cb _).mono ?_
  rintro e w3 ⟨rfl, h3⟩
  have HA : Hid (Has5 _ w.heap.size (.int .u8 k) (.int .u8 a) (.int .u8 r) (.int .u32 h) (.int .u64 p) ∧ Has4 _ (w.heap.size + 1) (.int .u8 sk) (.int .u8 sa) (.int .u32 sh) (.int .u64 sp)) := ⟨HA0.out.1.below h3, HA0.out.2.below h3⟩
  have B1 := Below.onto B0 h3
  clear HA0 B0 h3 cb
  have l5 := HA.out.1.lt
  have l4 := HA.out.2.lt
  obtain ⟨p0, p1, p2, p3, p4⟩ := HA.out.1
  obtain ⟨q0, q1, q2, q3⟩ := HA.out.2
  go_wp2_with fail
  refine (cs _).mono ?_
  clear p0 p1 p2 p3 p4 q0 q1 q2 q3 l5 l4
  rintro e w5 ⟨rfl, h5⟩
  have HA' := HA
  clear HA
  have HA : Hid (Has5 _ w.heap.size (.int .u8 k) (.int .u8 a) (.int .u8 r) (.int .u32 h) (.int .u64 p) ∧ Has4 _ (w.heap.size + 1) (.int .u8 sk) (.int .u8 sa) (.int .u32 sh) (.int .u64 sp)) := ⟨HA'.out.1.below h5, HA'.out.2.below h5⟩
  have B3 := Below.onto B1 h5
  clear HA' B1 h5 cs
  have l5 := HA.out.1.lt
  have l4 := HA.out.2.lt
  obtain ⟨p0, p1, p2, p3, p4⟩ := HA.out.1
  obtain ⟨q0, q1, q2, q3⟩ := HA.out.2
  go_wp2_with fail
  refine (ci _).mono ?_
  clear p0 p1 p2 p3 p4 q0 q1 q2 q3 l5 l4
  rintro e w7 ⟨rfl, h7⟩
  have HA' := HA
  clear HA
  have HA : Hid (Has5 _ w.heap.size (.int .u8 k) (.int .u8 a) (.int .u8 r) (.int .u32 h) (.int .u64 p) ∧ Has4 _ (w.heap.size + 1) (.int .u8 sk) (.int .u8 sa) (.int .u32 sh) (.int .u64 sp)) := ⟨HA'.out.1.below h7, HA'.out.2.below h7⟩
  have B5 := Below.onto B3 h7
  clear HA' B3 h7 ci
  have l5 := HA.out.1.lt
  have l4 := HA.out.2.lt
  obtain ⟨p0, p1, p2, p3, p4⟩ := HA.out.1
  obtain ⟨q0, q1, q2, q3⟩ := HA.out.2
  go_wp2_with fail
  refine (cr _).mono ?_
  clear p0 p1 p2 p3 p4 q0 q1 q2 q3 l5 l4
  rintro e w8 ⟨rfl, h8⟩
  have B6 := Below.onto B5 h8
  clear HA B5 h8 cr
  go_wp2_with fail
  refine (walive_any _).mono ?_
  rintro e w9 ⟨rfl, h9⟩
  have B7 := Below.onto B6 h9
  go_wp2_with fail
  go_ret
  exact ⟨rfl, B7⟩
set_option maxRecDepth 100000 in
set_option maxHeartbeats 4000000 in
theorem walk_01 (k a r h p : Int) (hi : ReqIs k a r h p) (sk sa sh sp : Int) (hs : RpyIs sk sa sh sp) (x : Int) (x0 : 0 ≤ x) (x1 : x < 4294967296) (w : World) (hok : okB k a r h p = false) (hrk : repB sk sa sh sp = true) :
    Calls Try.prog 8 #[.agg #[.int .u8 k, .int .u8 a, .int .u8 r, .int .u32 h, .int .u64 p], .agg #[.int .u8 sk, .int .u8 sa, .int .u32 sh, .int .u64 sp], .int .u32 x] w fun e w' => e = .returned (.bool true) ∧ Below w.heap.size w w' := by
  have cp := fun w => parts_any x w x0 x1
  have ch := fun w => hand_back x x0 x1 w
  generalize x % 256 = g0 at *
  generalize x / 256 % 256 = g1 at *
  generalize x / 65536 = g2 at *
  have ci := fun w => is_any k a r h p w
  have cr := fun w => isrep_any sk sa sh sp w
  rw [hok] at ci
  rw [hrk] at cr
  have cb := fun w => bytes_no k a r h p w hi.2.2.1.1 hok
  have cs := fun w => rpb_ok sk sa sh sp w hs.2.2.1.1 hs.2.2.1.2 hrk
  have ct := fun b w hc => back_rpy sk sa sh sp hs b 0 16 w (by omega) hc hrk
  generalize layZ sk sa 0 sh sp = zs at *
  clear hok hrk hi hs x0 x1
  have N1 : (w.alloc (.cells #[.int .u8 k, .int .u8 a, .int .u8 r, .int .u32 h, .int .u64 p] 26)).heap.size = w.heap.size + 1 := by simp
  have HA0 : Hid (Has5 ((w.alloc (.cells #[.int .u8 k, .int .u8 a, .int .u8 r, .int .u32 h, .int .u64 p] 26)).alloc (.cells #[.int .u8 sk, .int .u8 sa, .int .u32 sh, .int .u64 sp] 43)) w.heap.size (.int .u8 k) (.int .u8 a) (.int .u8 r) (.int .u32 h) (.int .u64 p) ∧ Has4 ((w.alloc (.cells #[.int .u8 k, .int .u8 a, .int .u8 r, .int .u32 h, .int .u64 p] 26)).alloc (.cells #[.int .u8 sk, .int .u8 sa, .int .u32 sh, .int .u64 sp] 43)) (w.heap.size + 1) (.int .u8 sk) (.int .u8 sa) (.int .u32 sh) (.int .u64 sp)) := by
    have A5 := (has5_new w (.int .u8 k) (.int .u8 a) (.int .u8 r) (.int .u32 h) (.int .u64 p) 26).below (below_alloc _ (.cells #[.int .u8 sk, .int .u8 sa, .int .u32 sh, .int .u64 sp] 43))
    have A4 := has4_new (w.alloc (.cells #[.int .u8 k, .int .u8 a, .int .u8 r, .int .u32 h, .int .u64 p] 26)) (.int .u8 sk) (.int .u8 sa) (.int .u32 sh) (.int .u64 sp) 43
    rw [N1] at A4
    exact ⟨A5, A4⟩
  have B0 : Below w.heap.size w ((w.alloc (.cells #[.int .u8 k, .int .u8 a, .int .u8 r, .int .u32 h, .int .u64 p] 26)).alloc (.cells #[.int .u8 sk, .int .u8 sa, .int .u32 sh, .int .u64 sp] 43)) := Below.onto (below_alloc w _) (below_alloc _ _)
  clear N1
  go_enter Try.func8, Try.ntmps8
  go_wp2_with fail
  refine (cp _).mono ?_
  rintro e w1 ⟨rfl, rfl⟩
  go_wp2_with fail
  refine (ch _).mono ?_
  rintro e w2 ⟨rfl, rfl⟩
  clear cp ch
  go_wp2_with fail
  refine (cb _).mono ?_
  rintro e w3 ⟨rfl, h3⟩
  have HA : Hid (Has5 _ w.heap.size (.int .u8 k) (.int .u8 a) (.int .u8 r) (.int .u32 h) (.int .u64 p) ∧ Has4 _ (w.heap.size + 1) (.int .u8 sk) (.int .u8 sa) (.int .u32 sh) (.int .u64 sp)) := ⟨HA0.out.1.below h3, HA0.out.2.below h3⟩
  have B1 := Below.onto B0 h3
  clear HA0 B0 h3 cb
  have l5 := HA.out.1.lt
  have l4 := HA.out.2.lt
  obtain ⟨p0, p1, p2, p3, p4⟩ := HA.out.1
  obtain ⟨q0, q1, q2, q3⟩ := HA.out.2
  go_wp2_with fail
  refine (cs _).mono ?_
  clear p0 p1 p2 p3 p4 q0 q1 q2 q3 l5 l4
  rintro e w5 ⟨D5, rfl, hl, _, h5⟩
  have HC : Hid (Cells w5 .u8 (some ⟨D5, 0, none⟩) 16 zs) := hl.cells
  clear hl
  have HA' := HA
  clear HA
  have HA : Hid (Has5 _ w.heap.size (.int .u8 k) (.int .u8 a) (.int .u8 r) (.int .u32 h) (.int .u64 p) ∧ Has4 _ (w.heap.size + 1) (.int .u8 sk) (.int .u8 sa) (.int .u32 sh) (.int .u64 sp)) := ⟨HA'.out.1.below h5, HA'.out.2.below h5⟩
  have B3 := Below.onto B1 h5
  clear HA' B1 h5 cs
  have l5 := HA.out.1.lt
  have l4 := HA.out.2.lt
  obtain ⟨p0, p1, p2, p3, p4⟩ := HA.out.1
  obtain ⟨q0, q1, q2, q3⟩ := HA.out.2
  go_wp2_with fail
  refine (ct _ _ HC.out).mono ?_
  rintro e w6 ⟨rfl, h6⟩
  clear p0 p1 p2 p3 p4 q0 q1 q2 q3 l5 l4
  have HA' := HA
  clear HA
  have HA : Hid (Has5 _ w.heap.size (.int .u8 k) (.int .u8 a) (.int .u8 r) (.int .u32 h) (.int .u64 p) ∧ Has4 _ (w.heap.size + 1) (.int .u8 sk) (.int .u8 sa) (.int .u32 sh) (.int .u64 sp)) := ⟨HA'.out.1.below h6, HA'.out.2.below h6⟩
  have B4 := Below.onto B3 h6
  clear HA' B3 h6 ct HC
  have l5 := HA.out.1.lt
  have l4 := HA.out.2.lt
  obtain ⟨p0, p1, p2, p3, p4⟩ := HA.out.1
  obtain ⟨q0, q1, q2, q3⟩ := HA.out.2
  have E6 := below_alloc w6 (.cells #[.int .u8 sk, .int .u8 sa, .int .u32 sh, .int .u64 sp] 43)
  go_wp2_with fail
  refine (ci _).mono ?_
  clear p0 p1 p2 p3 p4 q0 q1 q2 q3 l5 l4
  rintro e w7 ⟨rfl, h7⟩
  have E7 := Below.onto E6 h7
  have HA' := HA
  clear HA
  have HA : Hid (Has5 _ w.heap.size (.int .u8 k) (.int .u8 a) (.int .u8 r) (.int .u32 h) (.int .u64 p) ∧ Has4 _ (w.heap.size + 1) (.int .u8 sk) (.int .u8 sa) (.int .u32 sh) (.int .u64 sp)) := ⟨HA'.out.1.below E7, HA'.out.2.below E7⟩
  have B5 := Below.onto B4 E7
  clear HA' B4 h7 E7 E6 ci
  have l5 := HA.out.1.lt
  have l4 := HA.out.2.lt
  obtain ⟨p0, p1, p2, p3, p4⟩ := HA.out.1
  obtain ⟨q0, q1, q2, q3⟩ := HA.out.2
  go_wp2_with fail
  refine (cr _).mono ?_
  clear p0 p1 p2 p3 p4 q0 q1 q2 q3 l5 l4
  rintro e w8 ⟨rfl, h8⟩
  have B6 := Below.onto B5 h8
  clear HA B5 h8 cr
  go_wp2_with fail
  refine (walive_any _).mono ?_
  rintro e w9 ⟨rfl, h9⟩
  have B7 := Below.onto B6 h9
  go_wp2_with fail
  go_ret
  exact ⟨rfl, B7⟩
set_option maxRecDepth 100000 in
set_option maxHeartbeats 4000000 in
theorem walk_10 (k a r h p : Int) (hi : ReqIs k a r h p) (sk sa sh sp : Int) (_hs : RpyIs sk sa sh sp) (x : Int) (x0 : 0 ≤ x) (x1 : x < 4294967296) (w : World) (hok : okB k a r h p = true) (hrk : repB sk sa sh sp = false) :
    Calls Try.prog 8 #[.agg #[.int .u8 k, .int .u8 a, .int .u8 r, .int .u32 h, .int .u64 p], .agg #[.int .u8 sk, .int .u8 sa, .int .u32 sh, .int .u64 sp], .int .u32 x] w fun e w' => e = .returned (.bool true) ∧ Below w.heap.size w w' := by
  have cp := fun w => parts_any x w x0 x1
  have ch := fun w => hand_back x x0 x1 w
  generalize x % 256 = g0 at *
  generalize x / 256 % 256 = g1 at *
  generalize x / 65536 = g2 at *
  have ci := fun w => is_any k a r h p w
  have cr := fun w => isrep_any sk sa sh sp w
  rw [hok] at ci
  rw [hrk] at cr
  have cb := fun w => bytes_ok k a r h p w hi.2.2.1.1 hi.2.2.2.1.1 hi.2.2.2.1.2 hok
  have cq := fun b w hc => back_req k a r h p hi b 0 16 w (by omega) hc hok
  generalize layZ k a r h p = zr at *
  have cs := fun w => rpb_no sk sa sh sp w hrk
  clear hok hrk hi _hs x0 x1
  have N1 : (w.alloc (.cells #[.int .u8 k, .int .u8 a, .int .u8 r, .int .u32 h, .int .u64 p] 26)).heap.size = w.heap.size + 1 := by simp
  have HA0 : Hid (Has5 ((w.alloc (.cells #[.int .u8 k, .int .u8 a, .int .u8 r, .int .u32 h, .int .u64 p] 26)).alloc (.cells #[.int .u8 sk, .int .u8 sa, .int .u32 sh, .int .u64 sp] 43)) w.heap.size (.int .u8 k) (.int .u8 a) (.int .u8 r) (.int .u32 h) (.int .u64 p) ∧ Has4 ((w.alloc (.cells #[.int .u8 k, .int .u8 a, .int .u8 r, .int .u32 h, .int .u64 p] 26)).alloc (.cells #[.int .u8 sk, .int .u8 sa, .int .u32 sh, .int .u64 sp] 43)) (w.heap.size + 1) (.int .u8 sk) (.int .u8 sa) (.int .u32 sh) (.int .u64 sp)) := by
    have A5 := (has5_new w (.int .u8 k) (.int .u8 a) (.int .u8 r) (.int .u32 h) (.int .u64 p) 26).below (below_alloc _ (.cells #[.int .u8 sk, .int .u8 sa, .int .u32 sh, .int .u64 sp] 43))
    have A4 := has4_new (w.alloc (.cells #[.int .u8 k, .int .u8 a, .int .u8 r, .int .u32 h, .int .u64 p] 26)) (.int .u8 sk) (.int .u8 sa) (.int .u32 sh) (.int .u64 sp) 43
    rw [N1] at A4
    exact ⟨A5, A4⟩
  have B0 : Below w.heap.size w ((w.alloc (.cells #[.int .u8 k, .int .u8 a, .int .u8 r, .int .u32 h, .int .u64 p] 26)).alloc (.cells #[.int .u8 sk, .int .u8 sa, .int .u32 sh, .int .u64 sp] 43)) := Below.onto (below_alloc w _) (below_alloc _ _)
  clear N1
  go_enter Try.func8, Try.ntmps8
  go_wp2_with fail
  refine (cp _).mono ?_
  rintro e w1 ⟨rfl, rfl⟩
  go_wp2_with fail
  refine (ch _).mono ?_
  rintro e w2 ⟨rfl, rfl⟩
  clear cp ch
  go_wp2_with fail
  refine (cb _).mono ?_
  rintro e w3 ⟨D, rfl, hl, _, h3⟩
  have HC : Hid (Cells w3 .u8 (some ⟨D, 0, none⟩) 16 zr) := hl.cells
  clear hl
  have HA : Hid (Has5 _ w.heap.size (.int .u8 k) (.int .u8 a) (.int .u8 r) (.int .u32 h) (.int .u64 p) ∧ Has4 _ (w.heap.size + 1) (.int .u8 sk) (.int .u8 sa) (.int .u32 sh) (.int .u64 sp)) := ⟨HA0.out.1.below h3, HA0.out.2.below h3⟩
  have B1 := Below.onto B0 h3
  clear HA0 B0 h3 cb
  have l5 := HA.out.1.lt
  have l4 := HA.out.2.lt
  obtain ⟨p0, p1, p2, p3, p4⟩ := HA.out.1
  obtain ⟨q0, q1, q2, q3⟩ := HA.out.2
  go_wp2_with fail
  refine (cq _ _ HC.out).mono ?_
  rintro e w4 ⟨rfl, h4⟩
  clear p0 p1 p2 p3 p4 q0 q1 q2 q3 l5 l4
  have HA' := HA
  clear HA
  have HA : Hid (Has5 _ w.heap.size (.int .u8 k) (.int .u8 a) (.int .u8 r) (.int .u32 h) (.int .u64 p) ∧ Has4 _ (w.heap.size + 1) (.int .u8 sk) (.int .u8 sa) (.int .u32 sh) (.int .u64 sp)) := ⟨HA'.out.1.below h4, HA'.out.2.below h4⟩
  have B2 := Below.onto B1 h4
  clear HA' B1 h4 cq HC
  have l5 := HA.out.1.lt
  have l4 := HA.out.2.lt
  obtain ⟨p0, p1, p2, p3, p4⟩ := HA.out.1
  obtain ⟨q0, q1, q2, q3⟩ := HA.out.2
  have E3 := below_alloc w4 (.cells #[.int .u8 k, .int .u8 a, .int .u8 r, .int .u32 h, .int .u64 p] 26)
  go_wp2_with fail
  refine (cs _).mono ?_
  clear p0 p1 p2 p3 p4 q0 q1 q2 q3 l5 l4
  rintro e w5 ⟨rfl, h5⟩
  have E5 := Below.onto E3 h5
  have HA' := HA
  clear HA
  have HA : Hid (Has5 _ w.heap.size (.int .u8 k) (.int .u8 a) (.int .u8 r) (.int .u32 h) (.int .u64 p) ∧ Has4 _ (w.heap.size + 1) (.int .u8 sk) (.int .u8 sa) (.int .u32 sh) (.int .u64 sp)) := ⟨HA'.out.1.below E5, HA'.out.2.below E5⟩
  have B3 := Below.onto B2 E5
  clear HA' B2 h5 E5 E3 cs
  have l5 := HA.out.1.lt
  have l4 := HA.out.2.lt
  obtain ⟨p0, p1, p2, p3, p4⟩ := HA.out.1
  obtain ⟨q0, q1, q2, q3⟩ := HA.out.2
  go_wp2_with fail
  refine (ci _).mono ?_
  clear p0 p1 p2 p3 p4 q0 q1 q2 q3 l5 l4
  rintro e w7 ⟨rfl, h7⟩
  have HA' := HA
  clear HA
  have HA : Hid (Has5 _ w.heap.size (.int .u8 k) (.int .u8 a) (.int .u8 r) (.int .u32 h) (.int .u64 p) ∧ Has4 _ (w.heap.size + 1) (.int .u8 sk) (.int .u8 sa) (.int .u32 sh) (.int .u64 sp)) := ⟨HA'.out.1.below h7, HA'.out.2.below h7⟩
  have B5 := Below.onto B3 h7
  clear HA' B3 h7 ci
  have l5 := HA.out.1.lt
  have l4 := HA.out.2.lt
  obtain ⟨p0, p1, p2, p3, p4⟩ := HA.out.1
  obtain ⟨q0, q1, q2, q3⟩ := HA.out.2
  go_wp2_with fail
  refine (cr _).mono ?_
  clear p0 p1 p2 p3 p4 q0 q1 q2 q3 l5 l4
  rintro e w8 ⟨rfl, h8⟩
  have B6 := Below.onto B5 h8
  clear HA B5 h8 cr
  go_wp2_with fail
  refine (walive_any _).mono ?_
  rintro e w9 ⟨rfl, h9⟩
  have B7 := Below.onto B6 h9
  go_wp2_with fail
  go_ret
  exact ⟨rfl, B7⟩
set_option maxRecDepth 100000 in
set_option maxHeartbeats 4000000 in
theorem walk_11 (k a r h p : Int) (hi : ReqIs k a r h p) (sk sa sh sp : Int) (hs : RpyIs sk sa sh sp) (x : Int) (x0 : 0 ≤ x) (x1 : x < 4294967296) (w : World) (hok : okB k a r h p = true) (hrk : repB sk sa sh sp = true) :
    Calls Try.prog 8 #[.agg #[.int .u8 k, .int .u8 a, .int .u8 r, .int .u32 h, .int .u64 p], .agg #[.int .u8 sk, .int .u8 sa, .int .u32 sh, .int .u64 sp], .int .u32 x] w fun e w' => e = .returned (.bool true) ∧ Below w.heap.size w w' := by
  have cp := fun w => parts_any x w x0 x1
  have ch := fun w => hand_back x x0 x1 w
  generalize x % 256 = g0 at *
  generalize x / 256 % 256 = g1 at *
  generalize x / 65536 = g2 at *
  have ci := fun w => is_any k a r h p w
  have cr := fun w => isrep_any sk sa sh sp w
  rw [hok] at ci
  rw [hrk] at cr
  have cb := fun w => bytes_ok k a r h p w hi.2.2.1.1 hi.2.2.2.1.1 hi.2.2.2.1.2 hok
  have cq := fun b w hc => back_req k a r h p hi b 0 16 w (by omega) hc hok
  generalize layZ k a r h p = zr at *
  have cs := fun w => rpb_ok sk sa sh sp w hs.2.2.1.1 hs.2.2.1.2 hrk
  have ct := fun b w hc => back_rpy sk sa sh sp hs b 0 16 w (by omega) hc hrk
  generalize layZ sk sa 0 sh sp = zs at *
  clear hok hrk hi hs x0 x1
  have N1 : (w.alloc (.cells #[.int .u8 k, .int .u8 a, .int .u8 r, .int .u32 h, .int .u64 p] 26)).heap.size = w.heap.size + 1 := by simp
  have HA0 : Hid (Has5 ((w.alloc (.cells #[.int .u8 k, .int .u8 a, .int .u8 r, .int .u32 h, .int .u64 p] 26)).alloc (.cells #[.int .u8 sk, .int .u8 sa, .int .u32 sh, .int .u64 sp] 43)) w.heap.size (.int .u8 k) (.int .u8 a) (.int .u8 r) (.int .u32 h) (.int .u64 p) ∧ Has4 ((w.alloc (.cells #[.int .u8 k, .int .u8 a, .int .u8 r, .int .u32 h, .int .u64 p] 26)).alloc (.cells #[.int .u8 sk, .int .u8 sa, .int .u32 sh, .int .u64 sp] 43)) (w.heap.size + 1) (.int .u8 sk) (.int .u8 sa) (.int .u32 sh) (.int .u64 sp)) := by
    have A5 := (has5_new w (.int .u8 k) (.int .u8 a) (.int .u8 r) (.int .u32 h) (.int .u64 p) 26).below (below_alloc _ (.cells #[.int .u8 sk, .int .u8 sa, .int .u32 sh, .int .u64 sp] 43))
    have A4 := has4_new (w.alloc (.cells #[.int .u8 k, .int .u8 a, .int .u8 r, .int .u32 h, .int .u64 p] 26)) (.int .u8 sk) (.int .u8 sa) (.int .u32 sh) (.int .u64 sp) 43
    rw [N1] at A4
    exact ⟨A5, A4⟩
  have B0 : Below w.heap.size w ((w.alloc (.cells #[.int .u8 k, .int .u8 a, .int .u8 r, .int .u32 h, .int .u64 p] 26)).alloc (.cells #[.int .u8 sk, .int .u8 sa, .int .u32 sh, .int .u64 sp] 43)) := Below.onto (below_alloc w _) (below_alloc _ _)
  clear N1
  go_enter Try.func8, Try.ntmps8
  go_wp2_with fail
  refine (cp _).mono ?_
  rintro e w1 ⟨rfl, rfl⟩
  go_wp2_with fail
  refine (ch _).mono ?_
  rintro e w2 ⟨rfl, rfl⟩
  clear cp ch
  go_wp2_with fail
  refine (cb _).mono ?_
  rintro e w3 ⟨D, rfl, hl, _, h3⟩
  have HC : Hid (Cells w3 .u8 (some ⟨D, 0, none⟩) 16 zr) := hl.cells
  clear hl
  have HA : Hid (Has5 _ w.heap.size (.int .u8 k) (.int .u8 a) (.int .u8 r) (.int .u32 h) (.int .u64 p) ∧ Has4 _ (w.heap.size + 1) (.int .u8 sk) (.int .u8 sa) (.int .u32 sh) (.int .u64 sp)) := ⟨HA0.out.1.below h3, HA0.out.2.below h3⟩
  have B1 := Below.onto B0 h3
  clear HA0 B0 h3 cb
  have l5 := HA.out.1.lt
  have l4 := HA.out.2.lt
  obtain ⟨p0, p1, p2, p3, p4⟩ := HA.out.1
  obtain ⟨q0, q1, q2, q3⟩ := HA.out.2
  go_wp2_with fail
  refine (cq _ _ HC.out).mono ?_
  rintro e w4 ⟨rfl, h4⟩
  clear p0 p1 p2 p3 p4 q0 q1 q2 q3 l5 l4
  have HA' := HA
  clear HA
  have HA : Hid (Has5 _ w.heap.size (.int .u8 k) (.int .u8 a) (.int .u8 r) (.int .u32 h) (.int .u64 p) ∧ Has4 _ (w.heap.size + 1) (.int .u8 sk) (.int .u8 sa) (.int .u32 sh) (.int .u64 sp)) := ⟨HA'.out.1.below h4, HA'.out.2.below h4⟩
  have B2 := Below.onto B1 h4
  clear HA' B1 h4 cq HC
  have l5 := HA.out.1.lt
  have l4 := HA.out.2.lt
  obtain ⟨p0, p1, p2, p3, p4⟩ := HA.out.1
  obtain ⟨q0, q1, q2, q3⟩ := HA.out.2
  have E3 := below_alloc w4 (.cells #[.int .u8 k, .int .u8 a, .int .u8 r, .int .u32 h, .int .u64 p] 26)
  go_wp2_with fail
  refine (cs _).mono ?_
  clear p0 p1 p2 p3 p4 q0 q1 q2 q3 l5 l4
  rintro e w5 ⟨D5, rfl, hl, _, h5⟩
  have HC : Hid (Cells w5 .u8 (some ⟨D5, 0, none⟩) 16 zs) := hl.cells
  clear hl
  have E5 := Below.onto E3 h5
  have HA' := HA
  clear HA
  have HA : Hid (Has5 _ w.heap.size (.int .u8 k) (.int .u8 a) (.int .u8 r) (.int .u32 h) (.int .u64 p) ∧ Has4 _ (w.heap.size + 1) (.int .u8 sk) (.int .u8 sa) (.int .u32 sh) (.int .u64 sp)) := ⟨HA'.out.1.below E5, HA'.out.2.below E5⟩
  have B3 := Below.onto B2 E5
  clear HA' B2 h5 E5 E3 cs
  have l5 := HA.out.1.lt
  have l4 := HA.out.2.lt
  obtain ⟨p0, p1, p2, p3, p4⟩ := HA.out.1
  obtain ⟨q0, q1, q2, q3⟩ := HA.out.2
  go_wp2_with fail
  refine (ct _ _ HC.out).mono ?_
  rintro e w6 ⟨rfl, h6⟩
  clear p0 p1 p2 p3 p4 q0 q1 q2 q3 l5 l4
  have HA' := HA
  clear HA
  have HA : Hid (Has5 _ w.heap.size (.int .u8 k) (.int .u8 a) (.int .u8 r) (.int .u32 h) (.int .u64 p) ∧ Has4 _ (w.heap.size + 1) (.int .u8 sk) (.int .u8 sa) (.int .u32 sh) (.int .u64 sp)) := ⟨HA'.out.1.below h6, HA'.out.2.below h6⟩
  have B4 := Below.onto B3 h6
  clear HA' B3 h6 ct HC
  have l5 := HA.out.1.lt
  have l4 := HA.out.2.lt
  obtain ⟨p0, p1, p2, p3, p4⟩ := HA.out.1
  obtain ⟨q0, q1, q2, q3⟩ := HA.out.2
  have E6 := below_alloc w6 (.cells #[.int .u8 sk, .int .u8 sa, .int .u32 sh, .int .u64 sp] 43)
  go_wp2_with fail
  refine (ci _).mono ?_
  clear p0 p1 p2 p3 p4 q0 q1 q2 q3 l5 l4
  rintro e w7 ⟨rfl, h7⟩
  have E7 := Below.onto E6 h7
  have HA' := HA
  clear HA
  have HA : Hid (Has5 _ w.heap.size (.int .u8 k) (.int .u8 a) (.int .u8 r) (.int .u32 h) (.int .u64 p) ∧ Has4 _ (w.heap.size + 1) (.int .u8 sk) (.int .u8 sa) (.int .u32 sh) (.int .u64 sp)) := ⟨HA'.out.1.below E7, HA'.out.2.below E7⟩
  have B5 := Below.onto B4 E7
  clear HA' B4 h7 E7 E6 ci
  have l5 := HA.out.1.lt
  have l4 := HA.out.2.lt
  obtain ⟨p0, p1, p2, p3, p4⟩ := HA.out.1
  obtain ⟨q0, q1, q2, q3⟩ := HA.out.2
  go_wp2_with fail
  refine (cr _).mono ?_
  clear p0 p1 p2 p3 p4 q0 q1 q2 q3 l5 l4
  rintro e w8 ⟨rfl, h8⟩
  have B6 := Below.onto B5 h8
  clear HA B5 h8 cr
  go_wp2_with fail
  refine (walive_any _).mono ?_
  rintro e w9 ⟨rfl, h9⟩
  have B7 := Below.onto B6 h9
  go_wp2_with fail
  go_ret
  exact ⟨rfl, B7⟩
theorem walk (k a r h p : Int) (hi : ReqIs k a r h p) (sk sa sh sp : Int) (hs : RpyIs sk sa sh sp) (x : Int) (w2 : (Lit.int .u32 x).wf = true) (w : World) :
    Calls Try.prog 8 #[.agg #[.int .u8 k, .int .u8 a, .int .u8 r, .int .u32 h, .int .u64 p], .agg #[.int .u8 sk, .int .u8 sa, .int .u32 sh, .int .u64 sp], .int .u32 x] w fun e w' => e = .returned (.bool true) ∧ Below w.heap.size w w' := by
  obtain ⟨x0, x1'⟩ := bounds_u32 w2
  have x1 : x < 4294967296 := by omega
  cases hok : okB k a r h p
  · cases hrk : repB sk sa sh sp
    · exact walk_00 k a r h p hi sk sa sh sp hs x x0 x1 w hok hrk
    · exact walk_01 k a r h p hi sk sa sh sp hs x x0 x1 w hok hrk
  · cases hrk : repB sk sa sh sp
    · exact walk_10 k a r h p hi sk sa sh sp hs x x0 x1 w hok hrk
    · exact walk_11 k a r h p hi sk sa sh sp hs x x0 x1 w hok hrk

set_option maxRecDepth 100000 in
theorem lifted (os : Os) (started : os.Started) (H : Type) (enc : TypeId × Value → H) :
    ReturnsInHanded {} Try.checked os 8 .any (Rows.wireBackSpec.pre6 enc Try.prog Try.f8 Rows.wireBackRow.domain false) (Rows.wireBackSpec.post enc Try.prog Try.f8 false true false false) := by
  refine returnsInHanded_of_change (C := Try.checked) own started (by kernel_rfl) Try.func8
    (ChangeSpec.witness6 (enc := enc) (C := Try.checked) false ⟨#[], #[.agg #[.int .u8 0, .int .u8 0, .int .u8 0, .int .u32 0, .int .u64 0], .agg #[.int .u8 0, .int .u8 0, .int .u32 0, .int .u64 0], .int .u32 0], []⟩ 8 (by kernel_rfl) (by kernel_rfl) (by kernel_rfl) (by kernel_rfl)) ?_
  intro W base args ds gs before hval0 hW hcnd _
  have hval : ∀ (j : Nat) t v, Try.f8.params[j]? = some t → args[j]? = some v → Value.okWide Try.prog W .any base t v := hval0
  have hW' := hW
  obtain ⟨p, q, hA0, hV, rfl, hfz, hnd⟩ := hW
  have hA : DataW.TrodAll enc Try.prog W 0 (fun _ => true) true Try.f8.params.toList args.toList ds p := hA0
  rw [Try.params8] at hA hval
  obtain ⟨v0, vs0, d0, ds0, p0, q0, hargs, rfl, rfl, h0, r0⟩ := trodAll_cons hA
  obtain ⟨v1, vs1, d1, ds1, p1, q1, rfl, rfl, rfl, h1, r1⟩ := trodAll_cons r0
  obtain ⟨v2, vs2, d2, ds2, p2, q2, rfl, rfl, rfl, h2, r2⟩ := trodAll_cons r1
  obtain ⟨rfl, rfl, rfl⟩ := trodAll_nil r2
  obtain rfl : args = #[v0, v1, v2] := by cases args; simp_all
  obtain ⟨rfl, rfl⟩ := trodVars_none hV
  have k0 := h0
  have lt0 : ∀ x ∈ p0, x.block < W.heap.size := by obtain ⟨m, hm⟩ := k0; exact DataW.trod_lt m _ _ _ hm
  obtain ⟨k, a, r, h, p, rfl, w0⟩ := open_req (hval 0 26 v0 rfl rfl) h0
  have k1 := h1
  have lt1 : ∀ x ∈ p1, x.block < W.heap.size := by obtain ⟨m, hm⟩ := k1; exact DataW.trod_lt m _ _ _ hm
  obtain ⟨sk, sa, sh, sp, rfl, w1⟩ := open_rpy (hval 1 43 v1 rfl rfl) h1
  obtain ⟨a2, rfl, rfl, rfl, w2⟩ := open_int Try.underlying23 (hval 2 23 v2 rfl rfl) h2
  clear hA0 hval0
  refine (walk k a r h p w0 sk sa sh sp w1 a2 w2 W).mono fun e W' ⟨he, bel⟩ => ?_
  subst he
  exact ⟨_, rfl, _, _, _, [], _, [], hW', trodAll_mk1 (shut_bool Try.underlying4 _), (trodAll_cons_mk (Below.trod laidOut (by kernel_rfl) (of_decide_eq_true (by kernel_rfl)) k0 bel lt0) (trodAll_cons_mk (Below.trod laidOut (by kernel_rfl) (of_decide_eq_true (by kernel_rfl)) k1 bel lt1) (trodAll_cons_mk (shut_int Try.underlying23 w2) trodAll_mk0))), rfl, bel.frame _, fun h => by cases h⟩

end Go.Proofs.Ytmhkkdbfejajeaa.wireBack
namespace Go.Proofs.Ytmhkkdbfejajeaa

/-- The statement WireBack. -/
theorem WireBackHolds : Rows.WireBackSaid :=
  OpenClaim.holds_of_wide 8 Try.f8 rfl rfl rfl rfl rfl rfl rfl ⟨rfl, rfl, rfl, rfl, rfl⟩ rfl rfl rfl rfl rfl (by kernel_rfl) Try.func8 (by kernel_rfl)
    (of_decide_eq_true (by kernel_rfl)) (by unfold Func.isWrapper; first | (rw [if_pos (by decide +kernel)]; kernel_rfl) | (rw [if_neg (by decide +kernel)]; exact ⟨rfl, rfl⟩))
    (fun os started H enc _ => wireBack.lifted os started H enc)

end Go.Proofs.Ytmhkkdbfejajeaa
