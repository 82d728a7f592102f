/- The document's sameLane. -/
import Derived.Test.YtimmjhegeagofaaUOwn
namespace Go.Proofs.Ytimmjhegeagofaa
open Go.RowKit
set_option maxRecDepth 100000

theorem eqI_at {a b : List Int} (hl : a.length = b.length) (h : ∀ j, j < a.length → atI a j = atI b j) : eqI a b = true := by
  rw [eqI_iff]
  refine List.ext_getElem hl fun j h1 h2 => ?_
  have := h j h1
  rwa [atI_eq h1, atI_eq h2] at this
theorem eqI_no {a b : List Int} {j : Nat} (hj : atI a j ≠ atI b j) : eqI a b = false := by
  rw [Bool.eq_false_iff]
  intro e
  rw [(eqI_iff a b).1 e] at hj
  exact hj rfl
theorem eqI_len {a b : List Int} (hl : a.length ≠ b.length) : eqI a b = false := by
  rw [Bool.eq_false_iff]
  intro e
  rw [(eqI_iff a b).1 e] at hl
  exact hl rfl
set_option maxHeartbeats 4000000 in
theorem rsameLane_any (a b : PLn) (va vb : Value) (w : World) (hna : a.cl.length ≤ 1000) (hca : Cl w va a.cl) (hcb : Cl w vb b.cl) : Calls Try.prog 55 #[laV a va, laV b vb] w fun e w' => e = .returned (.bool (eqL a b)) ∧ Below w.heap.size w w' := by
  have HA : Hid (Cl w va a.cl) := hca
  have HB : Hid (Cl w vb b.cl) := hcb
  obtain ⟨xa, xc, rfl, _, _, _⟩ := hca
  obtain ⟨ya, yc, rfl, _, _, _⟩ := hcb
  by_cases hll : a.cl.length = b.cl.length
  case neg =>
    have HR : Hid (eqL a b = false) := by show _ = _; simp [eqL, eqI_len hll]
    have hl2 : ¬ (a.cl.length : Int) = (b.cl.length : Int) := by omega
    clear hll
    go_enter Try.func55, Try.ntmps55
    go_wp2_with fail
    all_goals
      go_ret
      exact ⟨ret_bool HR.out.symm, Below.onto (below_new _ _) (below_new _ _)⟩
  case pos =>
  have HLL : Hid (a.cl.length = b.cl.length) := hll
  have HBL : Hid (Sl w 1 a.cl.length (encI b.cl) (.slice ya a.cl.length yc)) := by have := HB.out; unfold Cl at this; rw [← hll] at this; exact this
  have HAL : Hid (Sl w 1 a.cl.length (encI a.cl) (.slice xa a.cl.length xc)) := HA.out
  rw [← hll]
  clear hll HA HB
  generalize hn : a.cl.length = n at *
  have HN : Hid (a.cl.length = n) := hn
  clear hn
  go_enter Try.func55, Try.ntmps55
  go_wp2_with fail
  all_goals (try (go_ret; exact ⟨ret_bool (by simp [eqL, *]), Below.onto (below_new _ _) (below_new _ _)⟩))
  have HEQ : Hid (eqL a b = eqI a.cl b.cl) := by show _ = _; simp [eqL, *]
  obtain ⟨k1, k2, b2, s2⟩ := alloc2 w [.int .i64 b.cr, .bool b.tw, .int .i64 b.lf, .slice xa n xc, .int .i64 b.nx, .int .i64 b.ep] 94 [.int .i64 b.cr, .bool b.tw, .int .i64 b.lf, .slice ya n yc, .int .i64 b.nx, .int .i64 b.ep] 94
  have K1 : Hid (Blk _ _ _ _) := k1
  have K2 : Hid (Blk _ _ _ _) := k2
  have B2 : Hid (Below _ _ _) := b2
  clear k1 k2 b2 s2
  generalize (w.alloc (.cells #[.int .i64 b.cr, .bool b.tw, .int .i64 b.lf, .slice xa n xc, .int .i64 b.nx, .int .i64 b.ep] 94)).alloc (.cells #[.int .i64 b.cr, .bool b.tw, .int .i64 b.lf, .slice ya n yc, .int .i64 b.nx, .int .i64 b.ep] 94) = w2 at *
  go_loopw [5] (fun i wr => ∃ k : Nat, k ≤ n ∧ i = .int .i64 k ∧ Hid (∀ j, j < k → atI a.cl j = atI b.cl j) ∧ Hid (Below w2.heap.size w2 wr)) (fun i _ => n - (intOf i).toNat)
  case atStart => exact ⟨0, Nat.zero_le _, rfl, fun j hj => absurd hj (by omega), Below.refl _ _⟩
  case round =>
    obtain ⟨k, hk, rfl, hall, hbel⟩ := hrel
    obtain ⟨p0, p1, p2, p3, p4, p5⟩ := (K1.out.below hbel.out).bx.six
    obtain ⟨r0, r1, r2, r3, r4, r5⟩ := (K2.out.below hbel.out).bx.six
    have HBW : Hid (Below w.heap.size w wr) := Below.onto B2.out hbel.out
    by_cases hlt : k < n
    · obtain ⟨_, _, ea, _, _, hra⟩ := HAL.out.below HBW.out
      cases ea
      obtain ⟨_, _, eb, _, _, hrb⟩ := HBL.out.below HBW.out
      cases eb
      obtain ⟨ba, oa, rfl, hca⟩ := hra k hlt
      obtain ⟨bb, ob, rfl, hcb⟩ := hrb k hlt
      have c0 : wr.cell? ⟨ba, oa + k, none⟩ = some (.int .i64 (atI a.cl k)) := by have := hca 0 (by omega); rwa [Nat.mul_one, Nat.add_zero] at this
      have d0 : wr.cell? ⟨bb, ob + k, none⟩ = some (.int .i64 (atI b.cl k)) := by have := hcb 0 (by omega); rwa [Nat.mul_one, Nat.add_zero] at this
      have t3 := cell_regrown p3
      have s3 := cell_regrown r3
      have t0 := cell_regrown c0
      have s0 := cell_regrown d0
      have i1 : (0 : Int) ≤ (k : Int) := by omega
      have i2 : (k : Int) < (n : Int) := by omega
      by_cases he : atI a.cl k = atI b.cl k
      · have he1 : (atI a.cl k == atI b.cl k) = true := by simp [he]
        have HNX : Hid (∀ j, j < k + 1 → atI a.cl j = atI b.cl j) := fun j hj => by
          by_cases e : j = k
          · rw [e]; exact he
          · exact hall.out j (by omega)
        clear he
        generalize atI a.cl k = x at *
        generalize atI b.cl k = y at *
        go_wp2_with fail
        clear c0 d0 p0 p1 p2 p3 p4 p5 r0 r1 r2 r3 r4 r5 hca hcb hra hrb
        refine wp_region_quiet_below (by kernel_rfl) (by kernel_rfl) ?_
        repeat (go_big_quiet_step (fail))
        refine wpQuiet_nil ?_
        intro _ hw'
        obtain ⟨⟨dq, osq⟩, hw''⟩ := hw'
        subst hw''
        go_wp2_with fail
        exact ⟨⟨k + 1, by omega, by go_num, HNX.out, Below.onto hbel.out (below_regrown _ _ _)⟩, by simp [intOf]; omega⟩
      · have he1 : (atI a.cl k == atI b.cl k) = false := by simp [he]
        have HR : Hid (eqL a b = false) := by show _ = _; rw [HEQ.out]; exact eqI_no he
        clear he
        generalize atI a.cl k = x at *
        generalize atI b.cl k = y at *
        go_wp2_with fail
        clear c0 d0 p0 p1 p2 p3 p4 p5 r0 r1 r2 r3 r4 r5 hca hcb hra hrb
        refine wp_region_quiet_below (by kernel_rfl) (by kernel_rfl) ?_
        repeat (go_big_quiet_step (fail))
        refine wpQuiet_nil ?_
        intro _ hw'
        obtain ⟨⟨dq, osq⟩, hw''⟩ := hw'
        subst hw''
        go_wp2_with fail
        go_ret
        exact ⟨ret_bool HR.out.symm, Below.onto HBW.out (below_regrown _ _ _)⟩
    · obtain rfl : k = n := by omega
      have HR : Hid (eqL a b = true) := by show _ = _; rw [HEQ.out]; exact eqI_at (HN.out.trans HLL.out) (by rw [HN.out]; exact hall.out)
      go_wp2_with fail
      go_ret
      exact ⟨ret_bool HR.out.symm, HBW.out⟩

end Go.Proofs.Ytimmjhegeagofaa
