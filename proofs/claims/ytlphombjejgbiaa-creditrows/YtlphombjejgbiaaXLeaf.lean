/- credit's small functions. -/
import Derived.Test.YtlphombjejgbiaaXMath
namespace Go.Proofs.Ytlphombjejgbiaa
open Go.RowKit Go.Sort
set_option maxRecDepth 100000

theorem xwithin_any (x lo hi : Int) (w : World) : Calls Try.prog 90 #[.int .i64 x, .int .i64 lo, .int .i64 hi] w fun e w' => e = .returned (.bool (win x lo hi)) ∧ w' = w := by
  by_cases h : lo ≤ x
  · go_enter Try.func90, Try.ntmps90
    go_wp2_with fail
    go_ret
    exact ⟨ret_bool (by simp [win, h]), rfl⟩
  · have h' : x < lo := by omega
    go_enter Try.func90, Try.ntmps90
    go_wp2_with fail
    go_ret
    exact ⟨ret_bool (by simp [win]; omega), rfl⟩
theorem mayBe_any (a : Ac) (w : World) : Calls Try.prog 72 #[acV a] w fun e w' => e = .returned (.bool (okA a)) ∧ Below w.heap.size w w' := by
  go_enter Try.func72, Try.ntmps72
  go_wp2_with (go_at_call 90; refine (xwithin_any _ _ _ _).mono ?_; rintro e w' ⟨rfl, rfl⟩)
  all_goals
    go_ret
    exact ⟨ret_bool (by simp [okA, *]), below_new _ _⟩
theorem xleft_any (a : Ac) (w : World) (h : okA a = true) : Calls Try.prog 78 #[acV a] w fun e w' => e = .returned (.int .i64 (a.rm - a.sp)) ∧ Below w.heap.size w w' := by
  obtain ⟨⟨h1, h2⟩, ⟨h3, h4⟩, _⟩ := okA_iff.1 h
  clear h
  go_enter Try.func78, Try.ntmps78
  go_wp2_with fail
  go_ret
  exact ⟨rfl, below_new _ _⟩
theorem xcheck_any (a : Ac) (w : World) : Calls Try.prog 44 #[acV a] w fun e w' => e = .returned (.int .i64 (ckE a)) ∧ Below w.heap.size w w' := by
  have hm := mayBe_any a (w.alloc (.cells #[.int .i64 a.rm, .int .i64 a.sp, .int .i64 a.ep] 90))
  unfold ckE
  cases ho : okA a
  · rw [ho] at hm
    clear ho
    show Calls _ _ _ _ (fun e w' => e = .returned (.int .i64 131) ∧ Below w.heap.size w w')
    go_enter Try.func44, Try.ntmps44
    go_wp2_with fail
    refine hm.mono ?_
    rintro e w1 ⟨rfl, hb⟩
    go_wp2_with fail
    go_ret
    exact ⟨rfl, Below.onto (below_new _ _) hb⟩
  · rw [ho] at hm
    clear ho
    show Calls _ _ _ _ (fun e w' => e = .returned (.int .i64 0) ∧ Below w.heap.size w w')
    go_enter Try.func44, Try.ntmps44
    go_wp2_with fail
    refine hm.mono ?_
    rintro e w1 ⟨rfl, hb⟩
    go_wp2_with fail
    go_ret
    exact ⟨rfl, Below.onto (below_new _ _) hb⟩
end Go.Proofs.Ytlphombjejgbiaa
