/- The document's acts on one account. -/
import Derived.Test.YtopjidlhhamjhabXRef
namespace Go.Proofs.Ytopjidlhhamjhab
open Go.RowKit Go.Sort Go.Shelf
set_option maxRecDepth 100000

set_option maxHeartbeats 4000000 in
theorem xrback_any (a : Ac) (t : Int) (w : World) : Calls Try.prog 30 #[acV a, .int .i64 t] w fun e w' => e = .returned (.tuple #[acV (bkA t a), .int .i64 (bkE t a)]) ∧ Below w.heap.size w w' := by
  have hc := fun W => xris_any a W
  cases ho : okA a
  · have e1 : bkE t a = 131 := by simp [bhE, ho]
    have e2 : bkA t a = ac0 := by simp [bhA, ho]
    rw [e1, e2]
    rw [ho] at hc
    clear ho e1 e2
    go_enter Try.func30, Try.ntmps30
    go_wp2_with fail
    refine (hc _).mono ?_
    rintro e w3 ⟨rfl, hb⟩
    have X : Hid (X2 w w3 (acL a) (acL ac0)) := x2 hb
    clear hb hc
    obtain ⟨x0, x1, x2⟩ := acc_three X.out.x
    obtain ⟨y0, y1, y2⟩ := acc_three (a := ac0) X.out.y
    have xl := X.out.xl
    have yl := X.out.yl
    have yf := X.out.yf
    have xf := X.out.xf
    go_wp2_with fail
    refine bodyPost_ret (v := .tuple #[acV ac0, .int .i64 131]) (by simp [results, Try.results30, go_sem, *]) rfl ⟨rfl, ?_⟩
    repeat (first | (with_reducible exact X.out.b) | (with_reducible refine Below.setCell ?_ ?_ _) | (with_reducible refine Below.alloc ?_ ?_ _) | (dsimp only; omega) | (simp; omega))
  · obtain ⟨⟨h1, h2⟩, ⟨h3, h4⟩, h5, h6⟩ := okA_iff.1 ho
    by_cases ht : t = a.ep
    · by_cases hz : a.sp = 0
      · have e1 : bkE t a = 130 := by simp [bhE, ho, dbE, ht, hz]
        have e2 : bkA t a = ac0 := by simp [bhA, ho, dbE, ht, hz]
        rw [e1, e2]
        rw [ho] at hc
        clear ho e1 e2
        subst ht
        have HZ : Hid (a.sp = 0) := hz
        clear hz
        go_enter Try.func30, Try.ntmps30
        go_wp2_with fail
        refine (hc _).mono ?_
        rintro e w3 ⟨rfl, hb⟩
        have X : Hid (X2 w w3 (acL a) (acL ac0)) := x2 hb
        clear hb hc
        obtain ⟨x0, x1, x2⟩ := acc_three X.out.x
        obtain ⟨y0, y1, y2⟩ := acc_three (a := ac0) X.out.y
        have xl := X.out.xl
        have yl := X.out.yl
        have yf := X.out.yf
        have xf := X.out.xf
        have hz := HZ.out
        go_wp2_with fail
        refine bodyPost_ret (v := .tuple #[acV ac0, .int .i64 130]) (by simp [results, Try.results30, go_sem, *]) rfl ⟨rfl, ?_⟩
        repeat (first | (with_reducible exact X.out.b) | (with_reducible refine Below.setCell ?_ ?_ _) | (with_reducible refine Below.alloc ?_ ?_ _) | (dsimp only; omega) | (simp; omega))
      · have e1 : bkE t a = 0 := by simp [bhE, ho, dbE, ht, hz]
        have e2 : bkA t a = ⟨a.rm, a.sp - 1, a.ep⟩ := by simp [bhA, ho, dbE, dbA, ht, hz]
        rw [e1, e2]
        rw [ho] at hc
        clear ho e1 e2
        subst ht
        go_enter Try.func30, Try.ntmps30
        go_wp2_with fail
        refine (hc _).mono ?_
        rintro e w3 ⟨rfl, hb⟩
        have X : Hid (X2 w w3 (acL a) (acL ac0)) := x2 hb
        clear hb hc
        obtain ⟨x0, x1, x2⟩ := acc_three X.out.x
        obtain ⟨y0, y1, y2⟩ := acc_three (a := ac0) X.out.y
        have xl := X.out.xl
        have yl := X.out.yl
        have yf := X.out.yf
        have xf := X.out.xf
        go_wp2_with fail
        refine bodyPost_ret (v := .tuple #[acV ⟨a.rm, a.sp - 1, a.ep⟩, .int .i64 0]) (by simp [results, Try.results30, go_sem, *]) rfl ⟨rfl, ?_⟩
        repeat (first | (with_reducible exact X.out.b) | (with_reducible refine Below.setCell ?_ ?_ _) | (with_reducible refine Below.alloc ?_ ?_ _) | (dsimp only; omega) | (simp; omega))
    · have e1 : bkE t a = 0 := by simp [bhE, ho, dbE, ht]
      have e2 : bkA t a = a := by simp [bhA, ho, dbE, dbA, ht]
      rw [e1, e2]
      rw [ho] at hc
      clear ho e1 e2
      go_enter Try.func30, Try.ntmps30
      go_wp2_with fail
      refine (hc _).mono ?_
      rintro e w3 ⟨rfl, hb⟩
      have X : Hid (X2 w w3 (acL a) (acL ac0)) := x2 hb
      clear hb hc
      obtain ⟨x0, x1, x2⟩ := acc_three X.out.x
      obtain ⟨y0, y1, y2⟩ := acc_three (a := ac0) X.out.y
      have xl := X.out.xl
      have yl := X.out.yl
      have yf := X.out.yf
      have xf := X.out.xf
      go_wp2_with fail
      refine bodyPost_ret (v := .tuple #[acV a, .int .i64 0]) (by simp [results, Try.results30, go_sem, *]) rfl ⟨rfl, ?_⟩
      repeat (first | (with_reducible exact X.out.b) | (with_reducible refine Below.setCell ?_ ?_ _) | (with_reducible refine Below.alloc ?_ ?_ _) | (dsimp only; omega) | (simp; omega))
end Go.Proofs.Ytopjidlhhamjhab
