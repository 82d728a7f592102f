/- The document's Same. -/
import Derived.Test.YtimmjhegeagofaaURefS
namespace Go.Proofs.Ytimmjhegeagofaa
open Go.RowKit
set_option maxRecDepth 100000

theorem eqF_yes {α : Type} {f : α → α → Bool} {d : α} {l r : List α} (hl : l.length = r.length) (h : ∀ j, j < l.length → f (l.getD j d) (r.getD j d) = true) : eqF f d l r = true := by
  unfold eqF; exact decide_eq_true ⟨hl, h⟩
theorem eqF_no {α : Type} {f : α → α → Bool} {d : α} {l r : List α} {j : Nat} (hj : j < l.length) (h : f (l.getD j d) (r.getD j d) = false) : eqF f d l r = false := by
  unfold eqF; exact decide_eq_false fun e => by rw [e.2 j hj] at h; cases h
theorem eqF_len {α : Type} {f : α → α → Bool} {d : α} {l r : List α} (hl : l.length ≠ r.length) : eqF f d l r = false := by
  unfold eqF; exact decide_eq_false fun e => hl e.1
set_option maxHeartbeats 8000000 in
theorem rsame_any (va vb ua ub : Value) (A B : Qu) (V U : Nat → Value) (w : World) (hoa : OkQ A) (ha : QIs w va vb A V) (hb : QIs w ua ub B U) : Calls Try.prog 30 #[quV va vb, quV ua ub] w fun e w' => e = .returned (.bool (eqQ A B)) ∧ Below w.heap.size w w' := by
  have HA : Hid (QIs w va vb A V) := ha
  have HB : Hid (QIs w ua ub B U) := hb
  have hn := hoa.nl
  have hm := hoa.nm
  obtain ⟨la, lc, rfl, _, _, _⟩ := ha.l
  obtain ⟨ma, mc, rfl, _, _, _⟩ := ha.m
  obtain ⟨pa, pc, rfl, _, _, _⟩ := hb.l
  obtain ⟨sa, sc, rfl, _, _, _⟩ := hb.m
  have HO : Hid (OkQ A) := hoa
  clear ha hb hoa
  by_cases hll : A.ls.length = B.ls.length
  case neg =>
    have HR : Hid (eqQ A B = false) := by show _ = _; simp [eqQ, eqF_len hll]
    have hl2 : ¬ (A.ls.length : Int) = (B.ls.length : Int) := by omega
    clear hll
    go_enter Try.func30, Try.ntmps30
    go_wp2_with fail
    all_goals
      go_ret
      exact ⟨ret_bool HR.out.symm, Below.onto (below_new _ _) (below_new _ _)⟩
  case pos =>
  by_cases hmm : A.ms.length = B.ms.length
  case neg =>
    have HR : Hid (eqQ A B = false) := by show _ = _; simp [eqQ, eqF_len hmm]
    have hl1 : ((A.ls.length : Int) == (B.ls.length : Int)) = true := by simp [hll]
    have hl2 : ((A.ms.length : Int) == (B.ms.length : Int)) = false := by simp; omega
    clear hll hmm
    go_enter Try.func30, Try.ntmps30
    go_wp2_with fail
    all_goals
      go_ret
      exact ⟨ret_bool HR.out.symm, Below.onto (below_new _ _) (below_new _ _)⟩
  case pos =>
  have HLL : Hid (A.ls.length = B.ls.length) := hll
  have HMM : Hid (A.ms.length = B.ms.length) := hmm
  have HBL : Hid (∀ W, Below w.heap.size w W → QIs W (.slice pa A.ls.length pc) (.slice sa A.ms.length sc) B U) := fun W hW => by have := HB.out.below hW; rwa [← hll, ← hmm] at this
  rw [← hll, ← hmm]
  clear hll hmm HB
  obtain ⟨k1, k2, b2, s2⟩ := alloc2 w [.slice la A.ls.length lc, .slice ma A.ms.length mc] 67 [.slice pa A.ls.length pc, .slice sa A.ms.length sc] 67
  have K1 : Hid (Blk _ _ _ _) := k1
  have K2 : Hid (Blk _ _ _ _) := k2
  have B2 : Hid (Below _ _ _) := b2
  clear k1 k2 b2 s2
  go_enter Try.func30, Try.ntmps30
  go_wp2_with fail
  generalize (w.alloc (.cells #[.slice la A.ls.length lc, .slice ma A.ms.length mc] 67)).alloc (.cells #[.slice pa A.ls.length pc, .slice sa A.ms.length sc] 67) = w2 at *
  go_loopw [5] (fun i wr => ∃ k : Nat, k ≤ A.ls.length ∧ i = .int .i64 k ∧ Hid (∀ j, j < k → eqL (atP A.ls j) (atP B.ls j) = true) ∧ Hid (Below w2.heap.size w2 wr)) (fun i _ => A.ls.length - (intOf i).toNat)
  case atStart => exact ⟨0, Nat.zero_le _, rfl, fun j hj => absurd hj (by omega), Below.refl _ _⟩
  case round =>
    obtain ⟨k, hk, rfl, hall, hbel⟩ := hrel
    obtain ⟨q0, q1⟩ := (K1.out.below hbel.out).bx.two
    obtain ⟨r0, r1⟩ := (K2.out.below hbel.out).bx.two
    have HBW : Hid (Below w.heap.size w wr) := Below.onto B2.out hbel.out
    by_cases hlt : k < A.ls.length
    · have hkB : k < B.ls.length := by have := HLL.out; omega
      have HCA := (HA.out.below HBW.out).c k hlt
      have HCB := (HBL.out wr HBW.out).c k hkB
      obtain ⟨b1, o1, _, ca, cc, e1, hV, a0, a1, a2, a3, a4, a5⟩ := (HA.out.below HBW.out).at hlt
      cases e1
      obtain ⟨b2, o2, a2', da, dc, e2, hU, c0, c1, c2, c3, c4, c5⟩ := (HBL.out wr HBW.out).at hkB
      obtain ⟨rfl, rfl⟩ : pa = some ⟨b2, o2, none⟩ ∧ pc = a2' := by injection e2 with h1 _ h2; exact ⟨h1, h2⟩
      rw [hV] at HCA
      rw [hU] at HCB
      have hsl := regrown_call (w := wr) fun W hW => rsameLane_any (atP A.ls k) (atP B.ls k) _ _ W (HO.out.nc k hlt) (HCA.below hW) (HCB.below hW)
      have HOK : Hid (eqL (atP A.ls k) (atP B.ls k) = true → ∀ j, j < k + 1 → eqL (atP A.ls j) (atP B.ls j) = true) := fun h j hj => by
        by_cases e : j = k
        · rw [e]; exact h
        · exact hall.out j (by omega)
      have HNO : Hid (eqL (atP A.ls k) (atP B.ls k) = false → eqQ A B = false) := fun h => by
        have : eqF eqL pl0 A.ls B.ls = false := eqF_no hlt h
        simp [eqQ, this]
      have t0 := cell_regrown q0
      have u0 := cell_regrown r0
      have x0 := cell_regrown a0
      have x1 := cell_regrown a1
      have x2 := cell_regrown a2
      have x3 := cell_regrown a3
      have x4 := cell_regrown a4
      have x5 := cell_regrown a5
      have y0 := cell_regrown c0
      have y1 := cell_regrown c1
      have y2 := cell_regrown c2
      have y3 := cell_regrown c3
      have y4 := cell_regrown c4
      have y5 := cell_regrown c5
      have i1 : (0 : Int) ≤ (k : Int) := by omega
      have i2 : (k : Int) < (A.ls.length : Int) := by omega
      clear HCA HCB hV hU e2
      generalize eqL (atP A.ls k) (atP B.ls k) = bb at *
      generalize atP A.ls k = x at *
      generalize atP B.ls k = y at *
      cases bb
      · have HR : Hid (eqQ A B = false) := HNO.out rfl
        go_wp2_with fail
        clear q0 q1 r0 r1 a0 a1 a2 a3 a4 a5 c0 c1 c2 c3 c4 c5 HOK HNO
        refine wp_region_quiet_below (by kernel_rfl) (by kernel_rfl) ?_
        repeat (go_big_quiet_step (with_reducible exact hsl _ _))
        refine wpQuiet_nil ?_
        intro _ hw'
        obtain ⟨⟨dq, osq⟩, hw''⟩ := hw'
        subst hw''
        go_wp2_with fail
        go_ret
        exact ⟨ret_bool HR.out.symm, Below.onto HBW.out (below_regrown _ _ _)⟩
      · have HNX : Hid (∀ j, j < k + 1 → eqL (atP A.ls j) (atP B.ls j) = true) := HOK.out rfl
        go_wp2_with fail
        clear q0 q1 r0 r1 a0 a1 a2 a3 a4 a5 c0 c1 c2 c3 c4 c5 HOK HNO
        refine wp_region_quiet_below (by kernel_rfl) (by kernel_rfl) ?_
        repeat (go_big_quiet_step (with_reducible exact hsl _ _))
        refine wpQuiet_nil ?_
        intro _ hw'
        obtain ⟨⟨dq, osq⟩, hw''⟩ := hw'
        subst hw''
        go_wp2_with fail
        exact ⟨⟨k + 1, by omega, by go_num, HNX.out, Below.onto hbel.out (below_regrown _ _ _)⟩, by simp [intOf]; omega⟩
    · obtain rfl : k = A.ls.length := by omega
      obtain ⟨wx, hwx⟩ : ∃ x, x = wr := ⟨wr, rfl⟩
      subst hwx
      have HLS : Hid (eqF eqL pl0 A.ls B.ls = true) := eqF_yes HLL.out hall.out
      have HBX : Hid (Below w2.heap.size w2 wx) := hbel.out
      clear hall hbel hk hlt HBW
      go_wp2_with fail
      clear q0 q1 r0 r1
      go_loopw [6] (fun i wr => ∃ k : Nat, k ≤ A.ms.length ∧ i = .int .i64 k ∧ Hid (∀ j, j < k → eqM (atM A.ms j) (atM B.ms j) = true) ∧ Hid (Below w2.heap.size w2 wr)) (fun i _ => A.ms.length - (intOf i).toNat)
      case atStart => exact ⟨0, Nat.zero_le _, rfl, fun j hj => absurd hj (by omega), HBX.out⟩
      case round =>
        obtain ⟨k, hk, rfl, hall, hbel⟩ := hrel
        obtain ⟨q0, q1⟩ := (K1.out.below hbel.out).bx.two
        obtain ⟨r0, r1⟩ := (K2.out.below hbel.out).bx.two
        have HBW : Hid (Below w.heap.size w wr) := Below.onto B2.out hbel.out
        by_cases hlt : k < A.ms.length
        · have hkB : k < B.ms.length := by have := HMM.out; omega
          obtain ⟨b1, o1, _, e1, a0, a1, a2, a3⟩ := (HA.out.below HBW.out).msg hlt
          cases e1
          obtain ⟨b2, o2, a2', e2, b0, b1', b2', b3⟩ := (HBL.out wr HBW.out).msg hkB
          obtain ⟨rfl, rfl⟩ : sa = some ⟨b2, o2, none⟩ ∧ sc = a2' := by injection e2 with h1 _ h2; exact ⟨h1, h2⟩
          have HYES : Hid (eqM (atM A.ms k) (atM B.ms k) = true → ∀ j, j < k + 1 → eqM (atM A.ms j) (atM B.ms j) = true) := fun h j hj => by
            by_cases e : j = k
            · rw [e]; exact h
            · exact hall.out j (by omega)
          have HNOT : Hid (eqM (atM A.ms k) (atM B.ms k) = false → eqQ A B = false) := fun h => by
            have : eqF eqM pm0 A.ms B.ms = false := eqF_no hlt h
            simp [eqQ, this]
          have i1 : (0 : Int) ≤ (k : Int) := by omega
          have i2 : (k : Int) < (A.ms.length : Int) := by omega
          clear e2
          generalize atM A.ms k = x at *
          generalize atM B.ms k = y at *
          obtain ⟨x0, x1, x2, x3⟩ := x
          obtain ⟨y0, y1, y2, y3⟩ := y
          simp only at a0 a1 a2 a3 b0 b1' b2' b3
          have t1 := cell_regrown q1
          have u1 := cell_regrown r1
          have f0 := cell_regrown a0
          have f1 := cell_regrown a1
          have f2 := cell_regrown a2
          have f3 := cell_regrown a3
          have g0 := cell_regrown b0
          have g1 := cell_regrown b1'
          have g2 := cell_regrown b2'
          have g3 := cell_regrown b3
          by_cases e0 : x0 = y0
          case neg =>
            have HR : Hid (eqQ A B = false) := HNOT.out (by simp [eqM, e0])
            clear HYES HNOT
            go_wp2_with fail
            clear q0 q1 r0 r1 a0 a1 a2 a3 b0 b1' b2' b3
            refine wp_region_quiet_below (by kernel_rfl) (by kernel_rfl) ?_
            repeat (go_big_quiet_step (fail))
            refine wpQuiet_nil ?_
            intro _ hw'
            obtain ⟨⟨dq, osq⟩, hw''⟩ := hw'
            subst hw''
            go_wp2_with fail
            go_ret
            exact ⟨ret_bool HR.out.symm, Below.onto HBW.out (below_regrown _ _ _)⟩
          case pos =>
          subst e0
          by_cases e1 : x1 = y1
          case neg =>
            have HR : Hid (eqQ A B = false) := HNOT.out (by simp [eqM, e1])
            clear HYES HNOT
            go_wp2_with fail
            clear q0 q1 r0 r1 a0 a1 a2 a3 b0 b1' b2' b3
            refine wp_region_quiet_below (by kernel_rfl) (by kernel_rfl) ?_
            repeat (go_big_quiet_step (fail))
            refine wpQuiet_nil ?_
            intro _ hw'
            obtain ⟨⟨dq, osq⟩, hw''⟩ := hw'
            subst hw''
            go_wp2_with fail
            go_ret
            exact ⟨ret_bool HR.out.symm, Below.onto HBW.out (below_regrown _ _ _)⟩
          case pos =>
          subst e1
          by_cases e2 : x2 = y2
          case neg =>
            have HR : Hid (eqQ A B = false) := HNOT.out (by simp [eqM, e2])
            clear HYES HNOT
            go_wp2_with fail
            clear q0 q1 r0 r1 a0 a1 a2 a3 b0 b1' b2' b3
            refine wp_region_quiet_below (by kernel_rfl) (by kernel_rfl) ?_
            repeat (go_big_quiet_step (fail))
            refine wpQuiet_nil ?_
            intro _ hw'
            obtain ⟨⟨dq, osq⟩, hw''⟩ := hw'
            subst hw''
            go_wp2_with fail
            go_ret
            exact ⟨ret_bool HR.out.symm, Below.onto HBW.out (below_regrown _ _ _)⟩
          case pos =>
          subst e2
          by_cases e3 : x3 = y3
          case neg =>
            have HR : Hid (eqQ A B = false) := HNOT.out (by simp [eqM, e3])
            clear HYES HNOT
            go_wp2_with fail
            clear q0 q1 r0 r1 a0 a1 a2 a3 b0 b1' b2' b3
            refine wp_region_quiet_below (by kernel_rfl) (by kernel_rfl) ?_
            repeat (go_big_quiet_step (fail))
            refine wpQuiet_nil ?_
            intro _ hw'
            obtain ⟨⟨dq, osq⟩, hw''⟩ := hw'
            subst hw''
            go_wp2_with fail
            go_ret
            exact ⟨ret_bool HR.out.symm, Below.onto HBW.out (below_regrown _ _ _)⟩
          case pos =>
          subst e3
          have HNX : Hid (∀ j, j < k + 1 → eqM (atM A.ms j) (atM B.ms j) = true) := HYES.out (by simp [eqM])
          clear HYES HNOT
          go_wp2_with fail
          clear q0 q1 r0 r1 a0 a1 a2 a3 b0 b1' b2' b3
          refine wp_region_quiet_below (by kernel_rfl) (by kernel_rfl) ?_
          repeat (go_big_quiet_step (fail))
          refine wpQuiet_nil ?_
          intro _ hw'
          obtain ⟨⟨dq, osq⟩, hw''⟩ := hw'
          subst hw''
          go_wp2_with fail
          exact ⟨⟨k + 1, by omega, by go_num, HNX.out, Below.onto hbel.out (below_regrown _ _ _)⟩, by simp [intOf]; omega⟩
        · obtain rfl : k = A.ms.length := by omega
          have HR : Hid (eqQ A B = true) := by show _ = _; rw [eqQ, HLS.out, eqF_yes HMM.out hall.out]; rfl
          go_wp2_with fail
          go_ret
          exact ⟨ret_bool HR.out.symm, HBW.out⟩

end Go.Proofs.Ytimmjhegeagofaa
