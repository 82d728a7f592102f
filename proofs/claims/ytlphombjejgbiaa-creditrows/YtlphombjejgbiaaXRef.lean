/- The document's acts on one account. -/
import Derived.Test.YtlphombjejgbiaaXActs
namespace Go.Proofs.Ytlphombjejgbiaa
open Go.RowKit Go.Sort Go.Shelf
set_option maxRecDepth 100000

set_option maxHeartbeats 4000000 in
theorem xris_any (a : Ac) (w : World) : Calls Try.prog 45 #[acV a] w fun e w' => e = .returned (.bool (okA a)) ∧ Below w.heap.size w w' := by
  go_enter Try.func45, Try.ntmps45
  go_wp2_with fail
  all_goals
    go_ret
    exact ⟨ret_bool (by first | (simp [okA, win, *]; done) | (simp [okA, win, *]; omega)), below_new _ _⟩
set_option maxHeartbeats 4000000 in
theorem xropen_any (r : Int) (w : World) : Calls Try.prog 41 #[.int .i64 r] w fun e w' => e = .returned (.tuple #[acV (opA r), .int .i64 (opE r)]) ∧ Below w.heap.size w w' := by
  have hc := fun W => xris_any ⟨r, 0, 0⟩ W
  unfold opA opE ckE
  cases ho : okA ⟨r, 0, 0⟩
  · rw [ho] at hc
    simp only [Bool.false_eq_true, if_false]
    clear ho
    go_enter Try.func41, Try.ntmps41
    go_wp2_with fail
    refine (hc _).mono ?_
    rintro e w3 ⟨rfl, hb⟩
    have X : Hid (X2 w w3 (acL ac0) (acL ⟨r, 0, 0⟩)) := x2 hb
    clear hb hc
    obtain ⟨x0, x1, x2⟩ := acc_three (a := ac0) X.out.x
    obtain ⟨y0, y1, y2⟩ := acc_three (a := ⟨r, 0, 0⟩) X.out.y
    have xl := X.out.xl
    have yl := X.out.yl
    have yf := X.out.yf
    have xf := X.out.xf
    go_wp2_with fail
    refine bodyPost_ret (v := .tuple #[acV ac0, .int .i64 131]) (by simp [results, Try.results41, go_sem, *]) rfl ⟨rfl, ?_⟩
    repeat (first | (with_reducible exact X.out.b) | (with_reducible refine Below.setCell ?_ ?_ _) | (with_reducible refine Below.alloc ?_ ?_ _) | (dsimp only; omega) | (simp; omega))
  · rw [ho] at hc
    simp only [if_true]
    clear ho
    go_enter Try.func41, Try.ntmps41
    go_wp2_with fail
    refine (hc _).mono ?_
    rintro e w3 ⟨rfl, hb⟩
    have X : Hid (X2 w w3 (acL ac0) (acL ⟨r, 0, 0⟩)) := x2 hb
    clear hb hc
    obtain ⟨x0, x1, x2⟩ := acc_three (a := ac0) X.out.x
    obtain ⟨y0, y1, y2⟩ := acc_three (a := ⟨r, 0, 0⟩) X.out.y
    have xl := X.out.xl
    have yl := X.out.yl
    have yf := X.out.yf
    have xf := X.out.xf
    go_wp2_with fail
    refine bodyPost_ret (v := .tuple #[acV ⟨r, 0, 0⟩, .int .i64 0]) (by simp [results, Try.results41, go_sem, *]) rfl ⟨rfl, ?_⟩
    repeat (first | (with_reducible exact X.out.b) | (with_reducible refine Below.setCell ?_ ?_ _) | (with_reducible refine Below.alloc ?_ ?_ _) | (dsimp only; omega) | (simp; omega))

end Go.Proofs.Ytlphombjejgbiaa
