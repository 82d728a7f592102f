/- The document's acts on one account. -/
import Derived.Test.YtopjidlhhamjhabXRef
namespace Go.Proofs.Ytopjidlhhamjhab
open Go.RowKit Go.Sort Go.Shelf
set_option maxRecDepth 100000

set_option maxHeartbeats 4000000 in
theorem xrspend_any (a : Ac) (w : World) : Calls Try.prog 29 #[acV a] w fun e w' => e = .returned (.tuple #[acV (spA a), .int .i64 (spE a)]) ∧ Below w.heap.size w w' := by
  have hc := fun W => xris_any a W
  cases ho : okA a
  · have e1 : spE a = 131 := by simp [bhE, ho]
    have e2 : spA a = ac0 := by simp [bhA, ho]
    rw [e1, e2]
    rw [ho] at hc
    clear ho e1 e2
    go_enter Try.func29, Try.ntmps29
    go_wp2_with fail
    refine (hc _).mono ?_
    rintro e w3 ⟨rfl, hb⟩
    have X : Hid (X2 w w3 (acL a) (acL ac0)) := x2 hb
    clear hb hc
    obtain ⟨x0, x1, x2⟩ := acc_three X.out.x
    obtain ⟨y0, y1, y2⟩ := acc_three (a := ac0) X.out.y
    have xl := X.out.xl
    have yl := X.out.yl
    have yf := X.out.yf
    have xf := X.out.xf
    go_wp2_with fail
    refine bodyPost_ret (v := .tuple #[acV ac0, .int .i64 131]) (by simp [results, Try.results29, go_sem, *]) rfl ⟨rfl, ?_⟩
    repeat (first | (with_reducible exact X.out.b) | (with_reducible refine Below.setCell ?_ ?_ _) | (with_reducible refine Below.alloc ?_ ?_ _) | (dsimp only; omega) | (simp; omega))
  · obtain ⟨⟨h1, h2⟩, ⟨h3, h4⟩, h5, h6⟩ := okA_iff.1 ho
    by_cases hz : a.sp = a.rm
    · have hz0 : a.rm - a.sp = 0 := by omega
      have e1 : spE a = 130 := by simp [bhE, ho, dsE, hz0]
      have e2 : spA a = ac0 := by simp [bhA, ho, dsE, hz0]
      rw [e1, e2]
      rw [ho] at hc
      clear ho e1 e2
      clear hz0
      have HZ : Hid (a.sp = a.rm) := hz
      clear hz
      go_enter Try.func29, Try.ntmps29
      go_wp2_with fail
      refine (hc _).mono ?_
      rintro e w3 ⟨rfl, hb⟩
      have X : Hid (X2 w w3 (acL a) (acL ac0)) := x2 hb
      clear hb hc
      obtain ⟨x0, x1, x2⟩ := acc_three X.out.x
      obtain ⟨y0, y1, y2⟩ := acc_three (a := ac0) X.out.y
      have xl := X.out.xl
      have yl := X.out.yl
      have yf := X.out.yf
      have xf := X.out.xf
      have hz := HZ.out
      go_wp2_with fail
      refine bodyPost_ret (v := .tuple #[acV ac0, .int .i64 130]) (by simp [results, Try.results29, go_sem, *]) rfl ⟨rfl, ?_⟩
      repeat (first | (with_reducible exact X.out.b) | (with_reducible refine Below.setCell ?_ ?_ _) | (with_reducible refine Below.alloc ?_ ?_ _) | (dsimp only; omega) | (simp; omega))
    · have hz0 : ¬ a.rm - a.sp = 0 := by omega
      have hz2 : (a.sp == a.rm) = false := by simpa using hz
      have e1 : spE a = 0 := by simp [bhE, ho, dsE, hz0]
      have e2 : spA a = ⟨a.rm, a.sp + 1, a.ep⟩ := by simp [bhA, ho, dsE, dsA, hz0]
      rw [e1, e2]
      rw [ho] at hc
      clear ho e1 e2
      clear hz0
      go_enter Try.func29, Try.ntmps29
      go_wp2_with fail
      refine (hc _).mono ?_
      rintro e w3 ⟨rfl, hb⟩
      have X : Hid (X2 w w3 (acL a) (acL ac0)) := x2 hb
      clear hb hc
      obtain ⟨x0, x1, x2⟩ := acc_three X.out.x
      obtain ⟨y0, y1, y2⟩ := acc_three (a := ac0) X.out.y
      have xl := X.out.xl
      have yl := X.out.yl
      have yf := X.out.yf
      have xf := X.out.xf
      go_wp2_with fail
      refine bodyPost_ret (v := .tuple #[acV ⟨a.rm, a.sp + 1, a.ep⟩, .int .i64 0]) (by simp [results, Try.results29, go_sem, *]) rfl ⟨rfl, ?_⟩
      repeat (first | (with_reducible exact X.out.b) | (with_reducible refine Below.setCell ?_ ?_ _) | (with_reducible refine Below.alloc ?_ ?_ _) | (dsimp only; omega) | (simp; omega))
end Go.Proofs.Ytopjidlhhamjhab
