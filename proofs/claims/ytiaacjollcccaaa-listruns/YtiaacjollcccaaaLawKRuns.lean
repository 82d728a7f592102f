/- PROVED: for every number of nodes and lists and every row of acts the statement ListRuns returns true: whatever is pushed, popped, dropped, moved and taken, the lists answer and stand as the document says (P5.1 to P5.4). No condition. -/
import Derived.Test.YtiaacjollcccaaaRows
import Derived.Test.YtiaacjollcccaaaKLike
import Derived.Test.YtiaacjollcccaaaKRow
import Derived.ProofKit
import Derived.ShutString
import Derived.ChangeOld
import Derived.OpenShut
namespace Go.Proofs.Ytiaacjollcccaaa.listRuns
open Go.ChangeShapes Go.WideShapes Go.ChangeAt Go.RowKit

theorem own : ownKnob Try.prog.godebug = none := by kernel_rfl
theorem laidOut : laidOutB Try.prog = true := by kernel_rfl

set_option maxRecDepth 100000 in
set_option maxHeartbeats 4000000 in
theorem walkA (nodes lists : Int) (a : Option Addr) (len cap : Nat) (K I X : Nat → Int) (w0 : World) (hS : ORow w0 a len cap K I X) (hx : nodes ≤ 40 ∨ 65536 < nodes) (hy : lists ≤ 40 ∨ 65536 < lists) :
    Calls Try.prog 3 #[.int .i64 nodes, .int .i64 lists, .slice a len cap] w0 fun e w' => e = .returned (.bool true) ∧ Below w0.heap.size w0 w' := by
  have HS : Hid (ORow w0 a len cap K I X) := hS
  have hlen : len ≤ 9223372036854775807 := by have h1 := hS.2.1; have h2 := hS.2.2; unfold maxLen at h2; omega
  clear hS
  by_cases hg : (0 ≤ nodes ∧ nodes ≤ 40) ∧ (0 ≤ lists ∧ lists ≤ 40)
  · obtain ⟨⟨g1, g2⟩, g3, g4⟩ := hg
    obtain ⟨n, rfl⟩ : ∃ n : Nat, nodes = (n : Int) := ⟨nodes.toNat, by omega⟩
    obtain ⟨m, rfl⟩ : ∃ m : Nat, lists = (m : Int) := ⟨lists.toNat, by omega⟩
    clear hx hy g1 g3
    have g5 : n ≤ 40 := by omega
    have g6 : m ≤ 40 := by omega
    have g7 : ¬ (40 : Int) < (n : Int) := by omega
    have g8 : ¬ (40 : Int) < (m : Int) := by omega
    clear g2 g4
    have hnew := new_k n m w0 (by omega) (by omega)
    go_enter Try.func3, Try.ntmps3
    go_wp2_with fail
    refine hnew.mono ?_
    rintro e w1 ⟨o, rfl, hk1, hb1, ho⟩
    have HO : Hid (∀ b, o.has b → w0.heap.size ≤ b) := ho
    have HK1 : Hid (Kv w1 o n m fun _ => []) := hk1
    have hr := rnew_k n m w1 (by omega) (by omega)
    clear ho hk1 hnew
    go_wp2_with fail
    refine hr.mono ?_
    rintro e w2 ⟨p, b, rfl, hrx, hb2, hp, hb⟩
    have HB0 : Hid (Both w2 o p b w2.heap.size n m fun _ => []) := ⟨HK1.out.below hb2, hrx, fun g hg => by have h1 := HK1.out.lt g hg; have h2 := hb2.size; exact ⟨by omega, by omega, by omega⟩⟩
    have B2 : Below w0.heap.size w0 w2 := Below.onto hb1 hb2
    have HM : Hid (∀ g, o.or b g → w0.heap.size ≤ g) := by
      rintro g (hg | rfl)
      · exact HO.out g hg
      · exact Nat.le_trans hb1.size hb
    clear hr hrx hb2 hp hb hb1 HK1 HO
    generalize w2.heap.size = BB at *
    go_wp2_with fail
    go_loopw [11] (fun vi wr => ∃ i : Nat, i ≤ 60 ∧ i ≤ len ∧ vi = .int .i64 i ∧ Below w0.heap.size w0 wr ∧ Hid (∃ R, Both wr o p b BB n m R)) (fun vi _ => 60 - (intOf vi).toNat)
    case atStart => exact ⟨0, by omega, by omega, rfl, B2, _, HB0.out⟩
    case round =>
      obtain ⟨i, hi6, hil, rfl, hbel, HR⟩ := hrel
      by_cases hgo : i < len ∧ i < 60
      · obtain ⟨hg1, hg2⟩ := hgo
        obtain ⟨bb, off, rfl, q0, q1, q2⟩ := (HS.out.below hbel).1 i hg1
        obtain ⟨R, hR⟩ := HR.out
        have hcall := do_k o p b BB n m R (K i) (I i) (X i) wr hR
        clear hR HR
        go_wp2_with fail
        refine hcall.mono ?_
        rintro e w3 ⟨rfl, ⟨R', hB3⟩, hb3⟩
        have HB3 : Hid (Both w3 o p b BB n m R') := hB3
        have B3 : Below w0.heap.size w0 w3 := hbel.trans (hb3.below hbel.size HM.out)
        have hl := like_k o p b BB n m R' w3 HB3.out (by omega)
        clear hcall hB3 hb3 q0 q1 q2
        go_wp2_with fail
        refine hl.mono ?_
        rintro e w4 ⟨rfl, hb4⟩
        have HB4 : Hid (∃ R, Both w4 o p b BB n m R) := ⟨R', HB3.out.below hb4⟩
        have B4 : Below w0.heap.size w0 w4 := Below.onto B3 hb4
        clear hl hb4
        go_wp2_with fail
        go_roundw
        case rel => exact ⟨i + 1, by omega, by omega, by go_num, B4, HB4.out⟩
        case measure => simp [intOf]; omega
      · have HD : Hid (i = len ∨ (i < len ∧ i = 60)) := by show i = len ∨ (i < len ∧ i = 60); omega
        clear hgo HR
        rcases HD.out with rfl | ⟨hx9, rfl⟩
        all_goals
          clear HD
          go_wp2_with fail
          refine (alive_k _).mono ?_
          rintro e w3 ⟨rfl, hb3⟩
          go_wp2_with fail
          go_ret
          exact ⟨rfl, Below.onto hbel hb3⟩
  · have hbad : ¬ (inR 65537 nodes = true ∧ inR 65537 lists = true) := by rw [inR_iff, inR_iff]; omega
    clear hg
    rcases hx with hx | hx <;> rcases hy with hy | hy
    · have k1 : ¬ 40 < nodes := by omega
      have k2 : ¬ 40 < lists := by omega
      have h1 := new_bad nodes lists w0 hbad
      have h2 := rnew_bad nodes lists w0 hbad
      clear hbad
      go_enter Try.func3, Try.ntmps3
      go_wp2_with fail
      refine h1.mono ?_
      rintro e w1 ⟨rfl, e1⟩
      subst e1
      go_wp2_with fail
      refine h2.mono ?_
      rintro e w1 ⟨rfl, e1⟩
      subst e1
      clear h1 h2
      go_wp2_with fail
      refine (alive_k _).mono ?_
      rintro e w3 ⟨rfl, hb3⟩
      go_wp2_with fail
      go_ret
      exact ⟨rfl, hb3⟩
    · have k1 : ¬ 40 < nodes := by omega
      have k2 : 40 < lists := by omega
      have k3 : ¬ lists ≤ 65536 := by omega
      have h1 := new_bad nodes lists w0 hbad
      have h2 := rnew_bad nodes lists w0 hbad
      clear hbad
      go_enter Try.func3, Try.ntmps3
      go_wp2_with fail
      refine h1.mono ?_
      rintro e w1 ⟨rfl, e1⟩
      subst e1
      go_wp2_with fail
      refine h2.mono ?_
      rintro e w1 ⟨rfl, e1⟩
      subst e1
      clear h1 h2
      go_wp2_with fail
      refine (alive_k _).mono ?_
      rintro e w3 ⟨rfl, hb3⟩
      go_wp2_with fail
      go_ret
      exact ⟨rfl, hb3⟩
    · have k1 : 40 < nodes := by omega
      have k3 : ¬ nodes ≤ 65536 := by omega
      have k2 : ¬ 40 < lists := by omega
      have h1 := new_bad nodes lists w0 hbad
      have h2 := rnew_bad nodes lists w0 hbad
      clear hbad
      go_enter Try.func3, Try.ntmps3
      go_wp2_with fail
      refine h1.mono ?_
      rintro e w1 ⟨rfl, e1⟩
      subst e1
      go_wp2_with fail
      refine h2.mono ?_
      rintro e w1 ⟨rfl, e1⟩
      subst e1
      clear h1 h2
      go_wp2_with fail
      refine (alive_k _).mono ?_
      rintro e w3 ⟨rfl, hb3⟩
      go_wp2_with fail
      go_ret
      exact ⟨rfl, hb3⟩
    · have k1 : 40 < nodes := by omega
      have k3 : ¬ nodes ≤ 65536 := by omega
      have k2 : 40 < lists := by omega
      have k4 : ¬ lists ≤ 65536 := by omega
      have h1 := new_bad nodes lists w0 hbad
      have h2 := rnew_bad nodes lists w0 hbad
      clear hbad
      go_enter Try.func3, Try.ntmps3
      go_wp2_with fail
      refine h1.mono ?_
      rintro e w1 ⟨rfl, e1⟩
      subst e1
      go_wp2_with fail
      refine h2.mono ?_
      rintro e w1 ⟨rfl, e1⟩
      subst e1
      clear h1 h2
      go_wp2_with fail
      refine (alive_k _).mono ?_
      rintro e w3 ⟨rfl, hb3⟩
      go_wp2_with fail
      go_ret
      exact ⟨rfl, hb3⟩

set_option maxRecDepth 100000 in
set_option maxHeartbeats 4000000 in
theorem walkB (nodes lists : Int) (a : Option Addr) (len cap : Nat) (K I X : Nat → Int) (w0 : World) (hS : ORow w0 a len cap K I X) (hx : nodes ≤ 40 ∨ 65536 < nodes) (hy1 : 40 < lists) (hy2 : lists ≤ 65536) :
    Calls Try.prog 3 #[.int .i64 nodes, .int .i64 lists, .slice a len cap] w0 fun e w' => e = .returned (.bool true) ∧ Below w0.heap.size w0 w' := by
  have HS : Hid (ORow w0 a len cap K I X) := hS
  have hlen : len ≤ 9223372036854775807 := by have h1 := hS.2.1; have h2 := hS.2.2; unfold maxLen at h2; omega
  clear hS
  by_cases hg : (0 ≤ nodes ∧ nodes ≤ 40)
  · obtain ⟨g1, g2⟩ := hg
    obtain ⟨n, rfl⟩ : ∃ n : Nat, nodes = (n : Int) := ⟨nodes.toNat, by omega⟩
    clear hx g1
    have g5 : n ≤ 40 := by omega
    have g7 : ¬ (40 : Int) < (n : Int) := by omega
    clear g2
    have hnew := new_k n 40 w0 (by omega) (by omega)
    go_enter Try.func3, Try.ntmps3
    go_wp2_with fail
    refine hnew.mono ?_
    rintro e w1 ⟨o, rfl, hk1, hb1, ho⟩
    have HO : Hid (∀ b, o.has b → w0.heap.size ≤ b) := ho
    have HK1 : Hid (Kv w1 o n 40 fun _ => []) := hk1
    have hr := rnew_k n 40 w1 (by omega) (by omega)
    clear ho hk1 hnew
    go_wp2_with fail
    refine hr.mono ?_
    rintro e w2 ⟨p, b, rfl, hrx, hb2, hp, hb⟩
    have HB0 : Hid (Both w2 o p b w2.heap.size n 40 fun _ => []) := ⟨HK1.out.below hb2, hrx, fun g hg => by have h1 := HK1.out.lt g hg; have h2 := hb2.size; exact ⟨by omega, by omega, by omega⟩⟩
    have B2 : Below w0.heap.size w0 w2 := Below.onto hb1 hb2
    have HM : Hid (∀ g, o.or b g → w0.heap.size ≤ g) := by
      rintro g (hg | rfl)
      · exact HO.out g hg
      · exact Nat.le_trans hb1.size hb
    clear hr hrx hb2 hp hb hb1 HK1 HO
    generalize w2.heap.size = BB at *
    go_wp2_with fail
    go_loopw [11] (fun vi wr => ∃ i : Nat, i ≤ 60 ∧ i ≤ len ∧ vi = .int .i64 i ∧ Below w0.heap.size w0 wr ∧ Hid (∃ R, Both wr o p b BB n 40 R)) (fun vi _ => 60 - (intOf vi).toNat)
    case atStart => exact ⟨0, by omega, by omega, rfl, B2, _, HB0.out⟩
    case round =>
      obtain ⟨i, hi6, hil, rfl, hbel, HR⟩ := hrel
      by_cases hgo : i < len ∧ i < 60
      · obtain ⟨hg1, hg2⟩ := hgo
        obtain ⟨bb, off, rfl, q0, q1, q2⟩ := (HS.out.below hbel).1 i hg1
        obtain ⟨R, hR⟩ := HR.out
        have hcall := do_k o p b BB n 40 R (K i) (I i) (X i) wr hR
        clear hR HR
        go_wp2_with fail
        refine hcall.mono ?_
        rintro e w3 ⟨rfl, ⟨R', hB3⟩, hb3⟩
        have HB3 : Hid (Both w3 o p b BB n 40 R') := hB3
        have B3 : Below w0.heap.size w0 w3 := hbel.trans (hb3.below hbel.size HM.out)
        have hl := like_k o p b BB n 40 R' w3 HB3.out (by omega)
        clear hcall hB3 hb3 q0 q1 q2
        go_wp2_with fail
        refine hl.mono ?_
        rintro e w4 ⟨rfl, hb4⟩
        have HB4 : Hid (∃ R, Both w4 o p b BB n 40 R) := ⟨R', HB3.out.below hb4⟩
        have B4 : Below w0.heap.size w0 w4 := Below.onto B3 hb4
        clear hl hb4
        go_wp2_with fail
        go_roundw
        case rel => exact ⟨i + 1, by omega, by omega, by go_num, B4, HB4.out⟩
        case measure => simp [intOf]; omega
      · have HD : Hid (i = len ∨ (i < len ∧ i = 60)) := by show i = len ∨ (i < len ∧ i = 60); omega
        clear hgo HR
        rcases HD.out with rfl | ⟨hx9, rfl⟩
        all_goals
          clear HD
          go_wp2_with fail
          refine (alive_k _).mono ?_
          rintro e w3 ⟨rfl, hb3⟩
          go_wp2_with fail
          go_ret
          exact ⟨rfl, Below.onto hbel hb3⟩
  · have hbad : ¬ (inR 65537 nodes = true ∧ inR 65537 (40 : Int) = true) := by rw [inR_iff, inR_iff]; omega
    clear hg
    rcases hx with hx | hx
    · have k2 : ¬ 40 < nodes := by omega
      have h1 := new_bad nodes (40 : Int) w0 hbad
      have h2 := rnew_bad nodes (40 : Int) w0 hbad
      clear hbad
      go_enter Try.func3, Try.ntmps3
      go_wp2_with fail
      refine h1.mono ?_
      rintro e w1 ⟨rfl, e1⟩
      subst e1
      go_wp2_with fail
      refine h2.mono ?_
      rintro e w1 ⟨rfl, e1⟩
      subst e1
      clear h1 h2
      go_wp2_with fail
      refine (alive_k _).mono ?_
      rintro e w3 ⟨rfl, hb3⟩
      go_wp2_with fail
      go_ret
      exact ⟨rfl, hb3⟩
    · have k2 : 40 < nodes := by omega
      have k3 : ¬ nodes ≤ 65536 := by omega
      have h1 := new_bad nodes (40 : Int) w0 hbad
      have h2 := rnew_bad nodes (40 : Int) w0 hbad
      clear hbad
      go_enter Try.func3, Try.ntmps3
      go_wp2_with fail
      refine h1.mono ?_
      rintro e w1 ⟨rfl, e1⟩
      subst e1
      go_wp2_with fail
      refine h2.mono ?_
      rintro e w1 ⟨rfl, e1⟩
      subst e1
      clear h1 h2
      go_wp2_with fail
      refine (alive_k _).mono ?_
      rintro e w3 ⟨rfl, hb3⟩
      go_wp2_with fail
      go_ret
      exact ⟨rfl, hb3⟩

set_option maxRecDepth 100000 in
set_option maxHeartbeats 4000000 in
theorem walkC (nodes lists : Int) (a : Option Addr) (len cap : Nat) (K I X : Nat → Int) (w0 : World) (hS : ORow w0 a len cap K I X) (hx1 : 40 < nodes) (hx2 : nodes ≤ 65536) (hy : lists ≤ 40 ∨ 65536 < lists) :
    Calls Try.prog 3 #[.int .i64 nodes, .int .i64 lists, .slice a len cap] w0 fun e w' => e = .returned (.bool true) ∧ Below w0.heap.size w0 w' := by
  have HS : Hid (ORow w0 a len cap K I X) := hS
  have hlen : len ≤ 9223372036854775807 := by have h1 := hS.2.1; have h2 := hS.2.2; unfold maxLen at h2; omega
  clear hS
  by_cases hg : (0 ≤ lists ∧ lists ≤ 40)
  · obtain ⟨g3, g4⟩ := hg
    obtain ⟨m, rfl⟩ : ∃ m : Nat, lists = (m : Int) := ⟨lists.toNat, by omega⟩
    clear hy g3
    have g6 : m ≤ 40 := by omega
    have g8 : ¬ (40 : Int) < (m : Int) := by omega
    clear g4
    have hnew := new_k 40 m w0 (by omega) (by omega)
    go_enter Try.func3, Try.ntmps3
    go_wp2_with fail
    refine hnew.mono ?_
    rintro e w1 ⟨o, rfl, hk1, hb1, ho⟩
    have HO : Hid (∀ b, o.has b → w0.heap.size ≤ b) := ho
    have HK1 : Hid (Kv w1 o 40 m fun _ => []) := hk1
    have hr := rnew_k 40 m w1 (by omega) (by omega)
    clear ho hk1 hnew
    go_wp2_with fail
    refine hr.mono ?_
    rintro e w2 ⟨p, b, rfl, hrx, hb2, hp, hb⟩
    have HB0 : Hid (Both w2 o p b w2.heap.size 40 m fun _ => []) := ⟨HK1.out.below hb2, hrx, fun g hg => by have h1 := HK1.out.lt g hg; have h2 := hb2.size; exact ⟨by omega, by omega, by omega⟩⟩
    have B2 : Below w0.heap.size w0 w2 := Below.onto hb1 hb2
    have HM : Hid (∀ g, o.or b g → w0.heap.size ≤ g) := by
      rintro g (hg | rfl)
      · exact HO.out g hg
      · exact Nat.le_trans hb1.size hb
    clear hr hrx hb2 hp hb hb1 HK1 HO
    generalize w2.heap.size = BB at *
    go_wp2_with fail
    go_loopw [11] (fun vi wr => ∃ i : Nat, i ≤ 60 ∧ i ≤ len ∧ vi = .int .i64 i ∧ Below w0.heap.size w0 wr ∧ Hid (∃ R, Both wr o p b BB 40 m R)) (fun vi _ => 60 - (intOf vi).toNat)
    case atStart => exact ⟨0, by omega, by omega, rfl, B2, _, HB0.out⟩
    case round =>
      obtain ⟨i, hi6, hil, rfl, hbel, HR⟩ := hrel
      by_cases hgo : i < len ∧ i < 60
      · obtain ⟨hg1, hg2⟩ := hgo
        obtain ⟨bb, off, rfl, q0, q1, q2⟩ := (HS.out.below hbel).1 i hg1
        obtain ⟨R, hR⟩ := HR.out
        have hcall := do_k o p b BB 40 m R (K i) (I i) (X i) wr hR
        clear hR HR
        go_wp2_with fail
        refine hcall.mono ?_
        rintro e w3 ⟨rfl, ⟨R', hB3⟩, hb3⟩
        have HB3 : Hid (Both w3 o p b BB 40 m R') := hB3
        have B3 : Below w0.heap.size w0 w3 := hbel.trans (hb3.below hbel.size HM.out)
        have hl := like_k o p b BB 40 m R' w3 HB3.out (by omega)
        clear hcall hB3 hb3 q0 q1 q2
        go_wp2_with fail
        refine hl.mono ?_
        rintro e w4 ⟨rfl, hb4⟩
        have HB4 : Hid (∃ R, Both w4 o p b BB 40 m R) := ⟨R', HB3.out.below hb4⟩
        have B4 : Below w0.heap.size w0 w4 := Below.onto B3 hb4
        clear hl hb4
        go_wp2_with fail
        go_roundw
        case rel => exact ⟨i + 1, by omega, by omega, by go_num, B4, HB4.out⟩
        case measure => simp [intOf]; omega
      · have HD : Hid (i = len ∨ (i < len ∧ i = 60)) := by show i = len ∨ (i < len ∧ i = 60); omega
        clear hgo HR
        rcases HD.out with rfl | ⟨hx9, rfl⟩
        all_goals
          clear HD
          go_wp2_with fail
          refine (alive_k _).mono ?_
          rintro e w3 ⟨rfl, hb3⟩
          go_wp2_with fail
          go_ret
          exact ⟨rfl, Below.onto hbel hb3⟩
  · have hbad : ¬ (inR 65537 (40 : Int) = true ∧ inR 65537 lists = true) := by rw [inR_iff, inR_iff]; omega
    clear hg
    rcases hy with hy | hy
    · have k2 : ¬ 40 < lists := by omega
      have h1 := new_bad (40 : Int) lists w0 hbad
      have h2 := rnew_bad (40 : Int) lists w0 hbad
      clear hbad
      go_enter Try.func3, Try.ntmps3
      go_wp2_with fail
      refine h1.mono ?_
      rintro e w1 ⟨rfl, e1⟩
      subst e1
      go_wp2_with fail
      refine h2.mono ?_
      rintro e w1 ⟨rfl, e1⟩
      subst e1
      clear h1 h2
      go_wp2_with fail
      refine (alive_k _).mono ?_
      rintro e w3 ⟨rfl, hb3⟩
      go_wp2_with fail
      go_ret
      exact ⟨rfl, hb3⟩
    · have k2 : 40 < lists := by omega
      have k3 : ¬ lists ≤ 65536 := by omega
      have h1 := new_bad (40 : Int) lists w0 hbad
      have h2 := rnew_bad (40 : Int) lists w0 hbad
      clear hbad
      go_enter Try.func3, Try.ntmps3
      go_wp2_with fail
      refine h1.mono ?_
      rintro e w1 ⟨rfl, e1⟩
      subst e1
      go_wp2_with fail
      refine h2.mono ?_
      rintro e w1 ⟨rfl, e1⟩
      subst e1
      clear h1 h2
      go_wp2_with fail
      refine (alive_k _).mono ?_
      rintro e w3 ⟨rfl, hb3⟩
      go_wp2_with fail
      go_ret
      exact ⟨rfl, hb3⟩

set_option maxRecDepth 100000 in
set_option maxHeartbeats 4000000 in
theorem walkD (nodes lists : Int) (a : Option Addr) (len cap : Nat) (K I X : Nat → Int) (w0 : World) (hS : ORow w0 a len cap K I X) (hx1 : 40 < nodes) (hx2 : nodes ≤ 65536) (hy1 : 40 < lists) (hy2 : lists ≤ 65536) :
    Calls Try.prog 3 #[.int .i64 nodes, .int .i64 lists, .slice a len cap] w0 fun e w' => e = .returned (.bool true) ∧ Below w0.heap.size w0 w' := by
  have HS : Hid (ORow w0 a len cap K I X) := hS
  have hlen : len ≤ 9223372036854775807 := by have h1 := hS.2.1; have h2 := hS.2.2; unfold maxLen at h2; omega
  clear hS
  have hnew := new_k 40 40 w0 (by omega) (by omega)
  go_enter Try.func3, Try.ntmps3
  go_wp2_with fail
  refine hnew.mono ?_
  rintro e w1 ⟨o, rfl, hk1, hb1, ho⟩
  have HO : Hid (∀ b, o.has b → w0.heap.size ≤ b) := ho
  have HK1 : Hid (Kv w1 o 40 40 fun _ => []) := hk1
  have hr := rnew_k 40 40 w1 (by omega) (by omega)
  clear ho hk1 hnew
  go_wp2_with fail
  refine hr.mono ?_
  rintro e w2 ⟨p, b, rfl, hrx, hb2, hp, hb⟩
  have HB0 : Hid (Both w2 o p b w2.heap.size 40 40 fun _ => []) := ⟨HK1.out.below hb2, hrx, fun g hg => by have h1 := HK1.out.lt g hg; have h2 := hb2.size; exact ⟨by omega, by omega, by omega⟩⟩
  have B2 : Below w0.heap.size w0 w2 := Below.onto hb1 hb2
  have HM : Hid (∀ g, o.or b g → w0.heap.size ≤ g) := by
    rintro g (hg | rfl)
    · exact HO.out g hg
    · exact Nat.le_trans hb1.size hb
  clear hr hrx hb2 hp hb hb1 HK1 HO
  generalize w2.heap.size = BB at *
  go_wp2_with fail
  go_loopw [11] (fun vi wr => ∃ i : Nat, i ≤ 60 ∧ i ≤ len ∧ vi = .int .i64 i ∧ Below w0.heap.size w0 wr ∧ Hid (∃ R, Both wr o p b BB 40 40 R)) (fun vi _ => 60 - (intOf vi).toNat)
  case atStart => exact ⟨0, by omega, by omega, rfl, B2, _, HB0.out⟩
  case round =>
    obtain ⟨i, hi6, hil, rfl, hbel, HR⟩ := hrel
    by_cases hgo : i < len ∧ i < 60
    · obtain ⟨hg1, hg2⟩ := hgo
      obtain ⟨bb, off, rfl, q0, q1, q2⟩ := (HS.out.below hbel).1 i hg1
      obtain ⟨R, hR⟩ := HR.out
      have hcall := do_k o p b BB 40 40 R (K i) (I i) (X i) wr hR
      clear hR HR
      go_wp2_with fail
      refine hcall.mono ?_
      rintro e w3 ⟨rfl, ⟨R', hB3⟩, hb3⟩
      have HB3 : Hid (Both w3 o p b BB 40 40 R') := hB3
      have B3 : Below w0.heap.size w0 w3 := hbel.trans (hb3.below hbel.size HM.out)
      have hl := like_k o p b BB 40 40 R' w3 HB3.out (by omega)
      clear hcall hB3 hb3 q0 q1 q2
      go_wp2_with fail
      refine hl.mono ?_
      rintro e w4 ⟨rfl, hb4⟩
      have HB4 : Hid (∃ R, Both w4 o p b BB 40 40 R) := ⟨R', HB3.out.below hb4⟩
      have B4 : Below w0.heap.size w0 w4 := Below.onto B3 hb4
      clear hl hb4
      go_wp2_with fail
      go_roundw
      case rel => exact ⟨i + 1, by omega, by omega, by go_num, B4, HB4.out⟩
      case measure => simp [intOf]; omega
    · have HD : Hid (i = len ∨ (i < len ∧ i = 60)) := by show i = len ∨ (i < len ∧ i = 60); omega
      clear hgo HR
      rcases HD.out with rfl | ⟨hx9, rfl⟩
      all_goals
        clear HD
        go_wp2_with fail
        refine (alive_k _).mono ?_
        rintro e w3 ⟨rfl, hb3⟩
        go_wp2_with fail
        go_ret
        exact ⟨rfl, Below.onto hbel hb3⟩

theorem walk (nodes lists : Int) (a : Option Addr) (len cap : Nat) (K I X : Nat → Int) (w0 : World) (hS : ORow w0 a len cap K I X) :
    Calls Try.prog 3 #[.int .i64 nodes, .int .i64 lists, .slice a len cap] w0 fun e w' => e = .returned (.bool true) ∧ Below w0.heap.size w0 w' := by
  by_cases h1 : 40 < nodes ∧ nodes ≤ 65536
  · by_cases h2 : 40 < lists ∧ lists ≤ 65536
    · exact walkD nodes lists a len cap K I X w0 hS h1.1 h1.2 h2.1 h2.2
    · exact walkC nodes lists a len cap K I X w0 hS h1.1 h1.2 (by omega)
  · by_cases h2 : 40 < lists ∧ lists ≤ 65536
    · exact walkB nodes lists a len cap K I X w0 hS (by omega) h2.1 h2.2
    · exact walkA nodes lists a len cap K I X w0 hS (by omega) (by omega)

set_option maxRecDepth 100000 in
theorem lifted (os : Os) (started : os.Started) (H : Type) (enc : TypeId × Value → H) :
    ReturnsInHanded {} Try.checked os 3 .any (Rows.listRunsSpec.pre6 enc Try.prog Try.f3 Rows.listRunsRow.domain false) (Rows.listRunsSpec.post enc Try.prog Try.f3 false true false false) := by
  refine returnsInHanded_of_change (C := Try.checked) own started (by kernel_rfl) Try.func3
    (ChangeSpec.witness6 (enc := enc) (C := Try.checked) false ⟨#[], #[.int .i64 0, .int .i64 0, .slice none 0 0], []⟩ 8 (by kernel_rfl) (by kernel_rfl) (by kernel_rfl) (by kernel_rfl)) ?_
  intro W base args ds gs before hval0 hW hcnd _
  have hval : ∀ (j : Nat) t v, Try.f3.params[j]? = some t → args[j]? = some v → Value.okWide Try.prog W .any base t v := hval0
  have hW' := hW
  obtain ⟨p, q, hA0, hV, rfl, hfz, hnd⟩ := hW
  have hA : DataW.TrodAll enc Try.prog W 0 (fun _ => true) true Try.f3.params.toList args.toList ds p := hA0
  rw [Try.params3] at hA hval
  obtain ⟨v0, vs0, d0, ds0, p0, q0, hargs, rfl, rfl, h0, r0⟩ := trodAll_cons hA
  obtain ⟨v1, vs1, d1, ds1, p1, q1, rfl, rfl, rfl, h1, r1⟩ := trodAll_cons r0
  obtain ⟨v2, vs2, d2, ds2, p2, q2, rfl, rfl, rfl, h2, r2⟩ := trodAll_cons r1
  obtain ⟨rfl, rfl, rfl⟩ := trodAll_nil r2
  obtain rfl : args = #[v0, v1, v2] := by cases args; simp_all
  obtain ⟨rfl, rfl⟩ := trodVars_none hV
  obtain ⟨a0, rfl, rfl, rfl, w0⟩ := open_int Try.underlying3 (hval 0 3 v0 rfl rfl) h0
  obtain ⟨a1, rfl, rfl, rfl, w1⟩ := open_int Try.underlying3 (hval 1 3 v1 rfl rfl) h1
  have k2 := h2
  have lt2 : ∀ x ∈ p2, x.block < W.heap.size := by obtain ⟨m, hm⟩ := k2; exact DataW.trod_lt m _ _ _ hm
  obtain ⟨a, len, cap, K, I, X, rfl, w2⟩ := open_ops (hval 2 22 v2 rfl rfl) h2
  clear hA0 hval0
  refine (walk a0 a1 a len cap K I X W w2).mono fun e W' ⟨he, bel⟩ => ?_
  subst he
  exact ⟨_, rfl, _, _, _, [], _, [], hW', trodAll_mk1 (shut_bool Try.underlying4 _), (trodAll_cons_mk (shut_int Try.underlying3 w0) (trodAll_cons_mk (shut_int Try.underlying3 w1) (trodAll_cons_mk (Below.trod laidOut (by kernel_rfl) (of_decide_eq_true (by kernel_rfl)) k2 bel lt2) trodAll_mk0))), rfl, bel.frame _, fun h => by cases h⟩

end Go.Proofs.Ytiaacjollcccaaa.listRuns
namespace Go.Proofs.Ytiaacjollcccaaa

/-- The statement ListRuns. -/
theorem ListRunsHolds : Rows.ListRunsSaid :=
  OpenClaim.holds_of_wide 3 Try.f3 rfl rfl rfl rfl rfl rfl rfl ⟨rfl, rfl, rfl, rfl, rfl⟩ rfl rfl rfl rfl rfl (by kernel_rfl) Try.func3 (by kernel_rfl)
    (of_decide_eq_true (by kernel_rfl)) (by unfold Func.isWrapper; first | (rw [if_pos (by decide +kernel)]; kernel_rfl) | (rw [if_neg (by decide +kernel)]; exact ⟨rfl, rfl⟩))
    (fun os started H enc _ => listRuns.lifted os started H enc)

end Go.Proofs.Ytiaacjollcccaaa
