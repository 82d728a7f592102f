/- Sorted pairs, each once. -/
import Derived.Test.YtlcljchpljeonaaOSort
import Derived.Laws.MakeOwn
import Derived.Lib.OwnBridge
namespace Go.Proofs.Ytlcljchpljeonaa
open Go.RowKit
open Go.Sort hiding Below
set_option maxRecDepth 100000

/-- a row of stamps, or of pairs -/
def Sts (w : World) (a : Option Addr) (n : Nat) (z : Nat → St) : Prop :=
  ∀ j, j < n → ∃ b off, a = some ⟨b, off, none⟩ ∧ w.cell? ⟨b, off + j * 2, none⟩ = some (.int .i64 (z j).1) ∧ w.cell? ⟨b, off + j * 2 + 1, none⟩ = some (.int .i64 (z j).2)
theorem Sts.below {w w' : World} {a : Option Addr} {n : Nat} {z : Nat → St} (h : Sts w a n z) (hb : Below w.heap.size w w') : Sts w' a n z := fun j hj => by
  obtain ⟨b, off, e, h0, h1⟩ := h j hj
  exact ⟨b, off, e, (hb.cell (p := ⟨b, off + j * 2, none⟩) (cell_lt h0)).trans h0, (hb.cell (p := ⟨b, off + j * 2 + 1, none⟩) (cell_lt h1)).trans h1⟩
theorem two_cells (w : World) (x y : Value) (T : TypeId) : ∀ j u, [x, y][j]? = some u → (w.alloc (.cells #[x, y] T)).cell? ((⟨w.heap.size, 0, none⟩ : Addr).add j) = some u := by
  intro j u hj
  rw [Go.WideShapes.add_plain, Nat.zero_add]
  match j, hj with
  | 0, hj => cases hj; exact new_at w #[x, y] T 0 (by simp)
  | 1, hj => cases hj; exact new_at w #[x, y] T 1 (by simp)
theorem Try.infoSt : (Try.prog.info? 37).map (fun i => (i.zero, i.size, i.bytes)) = some (some (.agg #[.int .i64 0, .int .i64 0]), 2, 16) := by kernel_rfl
theorem oregrown {f : FuncId} {args : Array Value} {w : World} {v : Value} (h : ∀ W, Below w.heap.size w W → Calls Try.prog f args W fun e w' => e = .returned v ∧ Below W.heap.size W w') :
    ∀ d os, Calls Try.prog f args (grow (redrawn w d) os) fun e w'' => e = .returned v ∧ ∃ p : Regrown, w'' = grow (redrawn w p.d) p.os :=
  fun d os => Calls.regrown_of (h _ (below_regrown w d os))

theorem own_stay {w w' : World} {base : Nat} {e : TypeId} {size : Nat} {v : Value} {n : Nat} {xs : List Value} (h : w.ownsRow base e size v n xs) (hb : Below w.heap.size w w') : w'.ownsRow base e size v n xs := by
  refine ⟨h.1, ?_⟩
  rcases h.2 with hn | ⟨g, cap, cur, rfl, hbb, hg, rest⟩
  · exact .inl hn
  · exact .inr ⟨g, cap, cur, rfl, hbb, (hb.block g (Array.getElem?_eq_some_iff.1 hg).1).trans hg, rest⟩
def Bx4 (w : World) (b : Nat) (x y : Int) : Prop := w.cell? ⟨b, 0, none⟩ = some (.int .i64 x) ∧ w.cell? ⟨b, 1, none⟩ = some (.int .i64 y)
set_option maxHeartbeats 4000000 in
theorem once_any (B n cap : Nat) (z : Nat → St) (w : World) (hn : n ≤ 100) (hz : Sts w (some ⟨B, 0, none⟩) n z) :
    Calls Try.prog 33 #[.slice (some ⟨B, 0, none⟩) n cap] w fun e w' => ∃ v, e = .returned v ∧ w'.ownsRow w.heap.size 37 2 v (onceTo z n).length (encS (onceTo z n)) ∧ Below w.heap.size w w' := by
  obtain ⟨i0, hi, hz0, hz1, hz2⟩ := info_parts Try.infoSt
  have HZ : Hid (Sts w (some ⟨B, 0, none⟩) n z) := hz
  clear hz
  go_enter Try.func33, Try.ntmps33
  go_wp2
  go_loopw [3, 8] (fun v i wr => ∃ k : Nat, k ≤ n ∧ i = .int .i64 k ∧ Hid (wr.ownsRow w.heap.size 37 2 v (onceTo z k).length (encS (onceTo z k))) ∧ Below w.heap.size w wr) (fun _ i _ => n - (intOf i).toNat)
  case atStart => exact ⟨0, by omega, rfl, World.ownsRow_nil _ _ _ _, Below.refl _ _⟩
  case round =>
    obtain ⟨k, hk, rfl, HR, hb⟩ := hrel
    by_cases hlt : k < n
    · obtain ⟨b, off, e, c0, c1⟩ := HZ.out.below hb k hlt
      obtain ⟨rfl, rfl⟩ : b = B ∧ off = 0 := by simp at e; exact ⟨e.1.symm, e.2.symm⟩
      rw [Nat.zero_add] at c0 c1
      have hB : b < wr.heap.size := cell_lt c0
      clear e
      have HU : Hid (onceTo z (k + 1) = if k = 0 ∨ ¬ z k = z (k - 1) then onceTo z k ++ [z k] else onceTo z k) := rfl
      have hol := onceTo_len z k
      by_cases hk0 : k = 0
      · have HU2 : Hid (onceTo z (k + 1) = onceTo z k ++ [z k]) := by show _ = _; rw [HU.out, if_pos (.inl hk0)]
        have d0 : ((k : Int) == 0) = true := by rw [beq_iff_eq]; omega
        clear HU
        generalize z k = zk at *
        obtain ⟨x1, x2⟩ := zk
        simp only at c0 c1
        clear hk0
        have b4 : Bx4 (wr.alloc (.cells #[.int .i64 x1, .int .i64 x2] 58)) wr.heap.size x1 x2 := ⟨new_at wr _ _ 0 (by simp), new_at wr _ _ 1 (by simp)⟩
        have hb4 : Below w.heap.size w (wr.alloc (.cells #[.int .i64 x1, .int .i64 x2] 58)) := hb.alloc hb.size _
        have HR4 : Hid ((wr.alloc (.cells #[.int .i64 x1, .int .i64 x2] 58)).ownsRow _ _ _ _ _ _) := HR.out.alloc _
        go_wp2_with fail
        generalize wr.alloc (.cells #[.int .i64 x1, .int .i64 x2] 58) = w4 at *
        obtain ⟨q0, q1⟩ := b4
        have r0 := cell_regrown q0
        have r1 := cell_regrown q1
        refine wp_region_quiet_below (by kernel_rfl) (by kernel_rfl) ?_
        repeat (go_big_quiet_step (fail))
        refine wpQuiet_nil ?_
        intro _ hw'
        obtain ⟨⟨dq, osq⟩, hw''⟩ := hw'
        subst hw''
        have hb5 := Below.onto hb4 (below_regrown w4 dq osq)
        have HR5 : Hid (World.ownsRow _ _ _ _ _ _ _) := own_stay HR4.out (below_regrown w4 dq osq)
        have s0 := r0 dq osq
        have s1 := r1 dq osq
        clear HR4 hb4 r0 r1 q0 q1
        generalize grow (redrawn w4 dq) osq = w5 at *
        go_wp2_with (at_builtin; refine wpList_append_own _ rfl _ _ 35 rfl w.heap.size 37 i0 (.agg #[.int .i64 0, .int .i64 0]) 2 16 Try.underlying35 hi hz0 hz1 hz2 rfl (by decide) _ _ _ rfl (HR5.out.alloc _) ⟨w5.heap.size, 0, none⟩ 1 1 [.int .i64 x1, .int .i64 x2] rfl rfl (two_cells _ _ _ _) (by simp [Value.oneCell']) (by unfold maxLen; omega) (by omega) (by have := hb5.size; simp; omega) ?_; intro v' w6 hown' hgrow _)
        go_roundw
        case rel =>
          refine ⟨k + 1, by omega, by go_num, ?_, (hb5.alloc hb5.size _).grown hgrow (by have := hb5.size; simp; omega) (fun q e => (HR5.out.lt q e).1)⟩
          show World.ownsRow _ _ _ _ _ _ _
          rw [HU2.out, encS_app, List.length_append]
          exact hown'
        case measure => simp [intOf]; omega
      · obtain ⟨b', off', e, p0, p1⟩ := HZ.out.below hb (k - 1) (by omega)
        obtain ⟨rfl, rfl⟩ : b' = b ∧ off' = 0 := by simp at e; exact ⟨e.1.symm, e.2.symm⟩
        rw [Nat.zero_add] at p0 p1
        clear e
        have d0 : ((k : Int) == 0) = false := by rw [beq_eq_false_iff_ne]; omega
        have dk : (k : Int) - 1 = ((k - 1 : Nat) : Int) := by omega
        have dn : k - 1 < n := by omega
        by_cases heq : z k = z (k - 1)
        · have HU2 : Hid (onceTo z (k + 1) = onceTo z k) := by show _ = _; rw [HU.out, if_neg (by intro h; rcases h with h | h; exact hk0 h; exact h heq)]
          rw [← heq] at p0 p1
          clear HU heq
          generalize z k = zk at *
          obtain ⟨x1, x2⟩ := zk
          simp only at c0 c1 p0 p1
          generalize hkm : k - 1 = km at *
          have b4 : Bx4 (wr.alloc (.cells #[.int .i64 x1, .int .i64 x2] 58)) wr.heap.size x1 x2 := ⟨new_at wr _ _ 0 (by simp), new_at wr _ _ 1 (by simp)⟩
          have hb4 : Below w.heap.size w (wr.alloc (.cells #[.int .i64 x1, .int .i64 x2] 58)) := hb.alloc hb.size _
          have HR4 : Hid ((wr.alloc (.cells #[.int .i64 x1, .int .i64 x2] 58)).ownsRow _ _ _ _ _ _) := HR.out.alloc _
          have P0 := ((Below.refl _ wr).alloc (Nat.le_refl _) (.cells #[.int .i64 x1, .int .i64 x2] 58)).cell (p := ⟨b', km * 2, none⟩) (cell_lt p0) |>.trans p0
          have P1 := ((Below.refl _ wr).alloc (Nat.le_refl _) (.cells #[.int .i64 x1, .int .i64 x2] 58)).cell (p := ⟨b', km * 2 + 1, none⟩) (cell_lt p0) |>.trans p1
          go_wp2_with fail
          generalize wr.alloc (.cells #[.int .i64 x1, .int .i64 x2] 58) = w4 at *
          obtain ⟨q0, q1⟩ := b4
          have r0 := cell_regrown q0
          have r1 := cell_regrown q1
          have r2 := cell_regrown P0
          have r3 := cell_regrown P1
          refine wp_region_quiet_below (by kernel_rfl) (by kernel_rfl) ?_
          repeat (go_big_quiet_step (fail))
          refine wpQuiet_nil ?_
          intro _ hw'
          obtain ⟨⟨dq, osq⟩, hw''⟩ := hw'
          subst hw''
          have hb5 := Below.onto hb4 (below_regrown w4 dq osq)
          have HR5 : Hid (World.ownsRow _ _ _ _ _ _ _) := own_stay HR4.out (below_regrown w4 dq osq)
          have s0 := r0 dq osq
          have s1 := r1 dq osq
          clear HR4 hb4 r0 r1 q0 q1 r2 r3 P0 P1 p0 p1
          generalize grow (redrawn w4 dq) osq = w5 at *
          go_wp2_with fail
          go_roundw
          case rel => exact ⟨k + 1, by omega, by go_num, by show World.ownsRow _ _ _ _ _ _ _; rw [HU2.out]; exact HR5.out, hb5⟩
          case measure => simp [intOf]; omega
        · have HU2 : Hid (onceTo z (k + 1) = onceTo z k ++ [z k]) := by show _ = _; rw [HU.out, if_pos (.inr heq)]
          clear HU
          generalize z k = zk at *
          generalize z (k - 1) = zp at *
          obtain ⟨x1, x2⟩ := zk
          obtain ⟨y1, y2⟩ := zp
          simp only at c0 c1 p0 p1
          have hne : ¬ (x1 = y1 ∧ x2 = y2) := fun ⟨h1, h2⟩ => heq (by rw [h1, h2])
          clear heq
          by_cases h1 : x1 = y1
          · obtain rfl := h1
            have h2 : ¬ x2 = y2 := fun e => hne ⟨rfl, e⟩
            clear hne
            generalize hkm : k - 1 = km at *
            have b4 : Bx4 (wr.alloc (.cells #[.int .i64 x1, .int .i64 x2] 58)) wr.heap.size x1 x2 := ⟨new_at wr _ _ 0 (by simp), new_at wr _ _ 1 (by simp)⟩
            have hb4 : Below w.heap.size w (wr.alloc (.cells #[.int .i64 x1, .int .i64 x2] 58)) := hb.alloc hb.size _
            have HR4 : Hid ((wr.alloc (.cells #[.int .i64 x1, .int .i64 x2] 58)).ownsRow _ _ _ _ _ _) := HR.out.alloc _
            have P0 := ((Below.refl _ wr).alloc (Nat.le_refl _) (.cells #[.int .i64 x1, .int .i64 x2] 58)).cell (p := ⟨b', km * 2, none⟩) (cell_lt p0) |>.trans p0
            have P1 := ((Below.refl _ wr).alloc (Nat.le_refl _) (.cells #[.int .i64 x1, .int .i64 x2] 58)).cell (p := ⟨b', km * 2 + 1, none⟩) (cell_lt p0) |>.trans p1
            go_wp2_with fail
            generalize wr.alloc (.cells #[.int .i64 x1, .int .i64 x2] 58) = w4 at *
            obtain ⟨q0, q1⟩ := b4
            have r0 := cell_regrown q0
            have r1 := cell_regrown q1
            have r2 := cell_regrown P0
            have r3 := cell_regrown P1
            refine wp_region_quiet_below (by kernel_rfl) (by kernel_rfl) ?_
            repeat (go_big_quiet_step (fail))
            refine wpQuiet_nil ?_
            intro _ hw'
            obtain ⟨⟨dq, osq⟩, hw''⟩ := hw'
            subst hw''
            have hb5 := Below.onto hb4 (below_regrown w4 dq osq)
            have HR5 : Hid (World.ownsRow _ _ _ _ _ _ _) := own_stay HR4.out (below_regrown w4 dq osq)
            have s0 := r0 dq osq
            have s1 := r1 dq osq
            clear HR4 hb4 r0 r1 q0 q1 r2 r3 P0 P1 p0 p1
            generalize grow (redrawn w4 dq) osq = w5 at *
            go_wp2_with (at_builtin; refine wpList_append_own _ rfl _ _ 35 rfl w.heap.size 37 i0 (.agg #[.int .i64 0, .int .i64 0]) 2 16 Try.underlying35 hi hz0 hz1 hz2 rfl (by decide) _ _ _ rfl (HR5.out.alloc _) ⟨w5.heap.size, 0, none⟩ 1 1 [.int .i64 x1, .int .i64 x2] rfl rfl (two_cells _ _ _ _) (by simp [Value.oneCell']) (by unfold maxLen; omega) (by omega) (by have := hb5.size; simp; omega) ?_; intro v' w6 hown' hgrow _)
            go_roundw
            case rel =>
              refine ⟨k + 1, by omega, by go_num, ?_, (hb5.alloc hb5.size _).grown hgrow (by have := hb5.size; simp; omega) (fun q e => (HR5.out.lt q e).1)⟩
              show World.ownsRow _ _ _ _ _ _ _
              rw [HU2.out, encS_app, List.length_append]
              exact hown'
            case measure => simp [intOf]; omega
          · clear hne
            generalize hkm : k - 1 = km at *
            have b4 : Bx4 (wr.alloc (.cells #[.int .i64 x1, .int .i64 x2] 58)) wr.heap.size x1 x2 := ⟨new_at wr _ _ 0 (by simp), new_at wr _ _ 1 (by simp)⟩
            have hb4 : Below w.heap.size w (wr.alloc (.cells #[.int .i64 x1, .int .i64 x2] 58)) := hb.alloc hb.size _
            have HR4 : Hid ((wr.alloc (.cells #[.int .i64 x1, .int .i64 x2] 58)).ownsRow _ _ _ _ _ _) := HR.out.alloc _
            have P0 := ((Below.refl _ wr).alloc (Nat.le_refl _) (.cells #[.int .i64 x1, .int .i64 x2] 58)).cell (p := ⟨b', km * 2, none⟩) (cell_lt p0) |>.trans p0
            have P1 := ((Below.refl _ wr).alloc (Nat.le_refl _) (.cells #[.int .i64 x1, .int .i64 x2] 58)).cell (p := ⟨b', km * 2 + 1, none⟩) (cell_lt p0) |>.trans p1
            go_wp2_with fail
            generalize wr.alloc (.cells #[.int .i64 x1, .int .i64 x2] 58) = w4 at *
            obtain ⟨q0, q1⟩ := b4
            have r0 := cell_regrown q0
            have r1 := cell_regrown q1
            have r2 := cell_regrown P0
            have r3 := cell_regrown P1
            refine wp_region_quiet_below (by kernel_rfl) (by kernel_rfl) ?_
            repeat (go_big_quiet_step (fail))
            refine wpQuiet_nil ?_
            intro _ hw'
            obtain ⟨⟨dq, osq⟩, hw''⟩ := hw'
            subst hw''
            have hb5 := Below.onto hb4 (below_regrown w4 dq osq)
            have HR5 : Hid (World.ownsRow _ _ _ _ _ _ _) := own_stay HR4.out (below_regrown w4 dq osq)
            have s0 := r0 dq osq
            have s1 := r1 dq osq
            clear HR4 hb4 r0 r1 q0 q1 r2 r3 P0 P1 p0 p1
            generalize grow (redrawn w4 dq) osq = w5 at *
            go_wp2_with (at_builtin; refine wpList_append_own _ rfl _ _ 35 rfl w.heap.size 37 i0 (.agg #[.int .i64 0, .int .i64 0]) 2 16 Try.underlying35 hi hz0 hz1 hz2 rfl (by decide) _ _ _ rfl (HR5.out.alloc _) ⟨w5.heap.size, 0, none⟩ 1 1 [.int .i64 x1, .int .i64 x2] rfl rfl (two_cells _ _ _ _) (by simp [Value.oneCell']) (by unfold maxLen; omega) (by omega) (by have := hb5.size; simp; omega) ?_; intro v' w6 hown' hgrow _)
            go_roundw
            case rel =>
              refine ⟨k + 1, by omega, by go_num, ?_, (hb5.alloc hb5.size _).grown hgrow (by have := hb5.size; simp; omega) (fun q e => (HR5.out.lt q e).1)⟩
              show World.ownsRow _ _ _ _ _ _ _
              rw [HU2.out, encS_app, List.length_append]
              exact hown'
            case measure => simp [intOf]; omega
    · obtain rfl : k = n := by omega
      go_wp2
      go_ret
      exact ⟨_, rfl, HR.out, hb⟩

end Go.Proofs.Ytlcljchpljeonaa
