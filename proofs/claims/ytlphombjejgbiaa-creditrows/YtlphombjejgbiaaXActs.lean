/- credit's acts on one account. -/
import Derived.Test.YtlphombjejgbiaaXLeaf
import Derived.Shelf.Abstract
namespace Go.Proofs.Ytlphombjejgbiaa
open Go.RowKit Go.Sort Go.Shelf
set_option maxRecDepth 100000

/-- two boxes that were made, behind a call -/
structure X2 (w w3 : World) (l1 l2 : List Value) : Prop where
  x : Bx w3 w.heap.size l1
  y : Bx w3 (w.heap.size + 1) l2
  xl : w.heap.size < w3.heap.size
  yl : w.heap.size + 1 < w3.heap.size
  yf : ∀ i, w3.frozen? ⟨w.heap.size + 1, i, none⟩ = false
  xf : ∀ i, w3.frozen? ⟨w.heap.size, i, none⟩ = false
  b : Below w.heap.size w w3
theorem x2 {w w3 : World} {l1 l2 : List Value} {T1 T2 : TypeId} (hb : Below ((w.alloc (.cells l1.toArray T1)).alloc (.cells l2.toArray T2)).heap.size ((w.alloc (.cells l1.toArray T1)).alloc (.cells l2.toArray T2)) w3) : X2 w w3 l1 l2 := by
  have e1 : (w.alloc (.cells l1.toArray T1)).heap.size = w.heap.size + 1 := by simp
  have e2 : ((w.alloc (.cells l1.toArray T1)).alloc (.cells l2.toArray T2)).heap.size = w.heap.size + 1 + 1 := by simp
  have h1 := (bx_new w l1 T1).below (below_new (w.alloc (.cells l1.toArray T1)) (.cells l2.toArray T2))
  have h2 := bx_new (w.alloc (.cells l1.toArray T1)) l2 T2
  have g2 := gheap_new (w.alloc (.cells l1.toArray T1)) (.cells l2.toArray T2)
  have g1 := (below_new (w.alloc (.cells l1.toArray T1)) (.cells l2.toArray T2)).block w.heap.size (by omega) |>.trans (gheap_new w (.cells l1.toArray T1))
  rw [e1] at h2 g2
  have hs := hb.size
  refine ⟨h1.below hb, h2.below hb, by omega, by omega, fun i => frozen_of_row _ _ i _ _ ((hb.block _ (by omega)).trans g2), fun i => frozen_of_row _ _ i _ _ ((hb.block _ (by omega)).trans g1), ?_⟩
  exact Below.onto (Below.onto (below_new _ _) (below_new _ _)) hb
theorem X2.more {w w3 w4 : World} {l1 l2 : List Value} (h : X2 w w3 l1 l2) (hb : Below w3.heap.size w3 w4) : X2 w w4 l1 l2 := by
  have hs := hb.size
  have h1 := h.xl
  have h2 := h.yl
  exact ⟨h.x.below hb, h.y.below hb, by omega, by omega, fun i => (World.frozen?_of_block (w := w3) (a := ⟨w.heap.size + 1, i, none⟩) (hb.block _ h2)).trans (h.yf i), fun i => (World.frozen?_of_block (w := w3) (a := ⟨w.heap.size, i, none⟩) (hb.block _ h1)).trans (h.xf i), Below.onto h.b hb⟩
theorem below_three {B o : Nat} {w0 w : World} {g : Nat} (h : Below B w0 w) (hg : B ≤ g) (a0 a1 a2 : Value) :
    Below B w0 (((w.setCell ⟨g, o, none⟩ a0).setCell ⟨g, o + 1, none⟩ a1).setCell ⟨g, o + 2, none⟩ a2) :=
  ((h.setCell hg a0).setCell hg a1).setCell hg a2

set_option maxHeartbeats 4000000 in
theorem spend_any (a : Ac) (w : World) (h : okA a = true) : Calls Try.prog 74 #[acV a] w fun e w' => e = .returned (.tuple #[acV (dsA a), .int .i64 (dsE a)]) ∧ Below w.heap.size w w' := by
  have hl := fun W => xleft_any a W h
  obtain ⟨⟨h1, h2⟩, ⟨h3, h4⟩, h5, h6⟩ := okA_iff.1 h
  clear h
  by_cases hz : a.rm - a.sp = 0
  · have e1 : dsE a = 130 := if_pos hz
    have e2 : dsA a = ac0 := if_pos hz
    rw [e1, e2]
    rw [hz] at hl
    clear e1 e2 hz
    go_enter Try.func74, Try.ntmps74
    go_wp2_with fail
    refine (hl _).mono ?_
    rintro e w3 ⟨rfl, hb⟩
    have X : Hid (X2 w w3 (acL a) (acL ac0)) := x2 hb
    clear hb hl
    obtain ⟨x0, x1, x2⟩ := acc_three X.out.x
    obtain ⟨y0, y1, y2⟩ := acc_three (a := ac0) X.out.y
    have xl := X.out.xl
    have yl := X.out.yl
    have yf := X.out.yf
    have xf := X.out.xf
    go_wp2_with fail
    refine bodyPost_ret (v := .tuple #[acV ac0, .int .i64 130]) (by simp [results, Try.results74, go_sem, *]) rfl ⟨rfl, ?_⟩
    repeat (first | (with_reducible exact X.out.b) | (with_reducible refine Below.setCell ?_ ?_ _) | (with_reducible refine Below.alloc ?_ ?_ _) | (dsimp only; omega) | (simp; omega))
  · have e1 : dsE a = 0 := if_neg hz
    have e2 : dsA a = ⟨a.rm, a.sp + 1, a.ep⟩ := if_neg hz
    rw [e1, e2]
    have hz2 : (a.rm - a.sp == 0) = false := by simpa using hz
    clear e1 e2
    go_enter Try.func74, Try.ntmps74
    go_wp2_with fail
    refine (hl _).mono ?_
    rintro e w3 ⟨rfl, hb⟩
    have X : Hid (X2 w w3 (acL a) (acL ac0)) := x2 hb
    clear hb hl
    obtain ⟨x0, x1, x2⟩ := acc_three X.out.x
    obtain ⟨y0, y1, y2⟩ := acc_three (a := ac0) X.out.y
    have xl := X.out.xl
    have yl := X.out.yl
    have yf := X.out.yf
    have xf := X.out.xf
    go_wp2_with fail
    refine bodyPost_ret (v := .tuple #[acV ⟨a.rm, a.sp + 1, a.ep⟩, .int .i64 0]) (by simp [results, Try.results74, go_sem, *]) rfl ⟨rfl, ?_⟩
    repeat (first | (with_reducible exact X.out.b) | (with_reducible refine Below.setCell ?_ ?_ _) | (with_reducible refine Below.alloc ?_ ?_ _) | (dsimp only; omega) | (simp; omega))

set_option maxHeartbeats 4000000 in
theorem back_any (t : Int) (a : Ac) (w : World) (h : okA a = true) : Calls Try.prog 77 #[acV a, .int .i64 t] w fun e w' => e = .returned (.tuple #[acV (dbA t a), .int .i64 (dbE t a)]) ∧ Below w.heap.size w w' := by
  obtain ⟨⟨h1, h2⟩, ⟨h3, h4⟩, h5, h6⟩ := okA_iff.1 h
  clear h
  by_cases ht : t = a.ep
  · by_cases hz : a.sp = 0
    · have e1 : dbE t a = 130 := by simp [dbE, ht, hz]
      have e2 : dbA t a = ac0 := by simp [dbA, ht, hz]
      rw [e1, e2]
      clear e1 e2
      subst ht
      go_enter Try.func77, Try.ntmps77
      go_wp2_with fail
      refine bodyPost_ret (v := .tuple #[acV ac0, .int .i64 130]) (by simp [results, Try.results77, go_sem, *]) rfl ⟨rfl, ?_⟩
      repeat (first | (with_reducible exact (Below.onto (below_new _ _) (below_new _ _))) | (with_reducible refine Below.setCell ?_ ?_ _) | (with_reducible refine Below.alloc ?_ ?_ _) | (dsimp only; omega) | (simp; omega))
    · have e1 : dbE t a = 0 := by simp [dbE, hz]
      have e2 : dbA t a = ⟨a.rm, a.sp - 1, a.ep⟩ := by simp [dbA, ht, hz]
      rw [e1, e2]
      clear e1 e2
      subst ht
      go_enter Try.func77, Try.ntmps77
      go_wp2_with fail
      refine bodyPost_ret (v := .tuple #[acV ⟨a.rm, a.sp - 1, a.ep⟩, .int .i64 0]) (by simp [results, Try.results77, go_sem, *]) rfl ⟨rfl, ?_⟩
      repeat (first | (with_reducible exact (Below.onto (below_new _ _) (below_new _ _))) | (with_reducible refine Below.setCell ?_ ?_ _) | (with_reducible refine Below.alloc ?_ ?_ _) | (dsimp only; omega) | (simp; omega))
  · have e1 : dbE t a = 0 := by simp [dbE, ht]
    have e2 : dbA t a = a := by simp [dbA, ht]
    rw [e1, e2]
    clear e1 e2
    go_enter Try.func77, Try.ntmps77
    go_wp2_with fail
    refine bodyPost_ret (v := .tuple #[acV a, .int .i64 0]) (by simp [results, Try.results77, go_sem, *]) rfl ⟨rfl, ?_⟩
    repeat (first | (with_reducible exact (Below.onto (below_new _ _) (below_new _ _))) | (with_reducible refine Below.setCell ?_ ?_ _) | (with_reducible refine Below.alloc ?_ ?_ _) | (dsimp only; omega) | (simp; omega))

set_option maxHeartbeats 4000000 in
theorem reset_any (a : Ac) (w : World) (h : okA a = true) : Calls Try.prog 75 #[acV a] w fun e w' => e = .returned (.tuple #[acV (drA a), .int .i64 (drE a)]) ∧ Below w.heap.size w w' := by
  obtain ⟨⟨h1, h2⟩, ⟨h3, h4⟩, h5, h6⟩ := okA_iff.1 h
  clear h
  by_cases hz : a.ep = 1099511627776
  · have e1 : drE a = 3 := if_pos hz
    have e2 : drA a = ac0 := if_pos hz
    rw [e1, e2]
    clear e1 e2
    go_enter Try.func75, Try.ntmps75
    go_wp2_with fail
    refine bodyPost_ret (v := .tuple #[acV ac0, .int .i64 3]) (by simp [results, Try.results75, go_sem, *]) rfl ⟨rfl, ?_⟩
    repeat (first | (with_reducible exact (Below.onto (below_new _ _) (below_new _ _))) | (with_reducible refine Below.setCell ?_ ?_ _) | (with_reducible refine Below.alloc ?_ ?_ _) | (dsimp only; omega) | (simp; omega))
  · have e1 : drE a = 0 := if_neg hz
    have e2 : drA a = ⟨a.rm, 0, a.ep + 1⟩ := if_neg hz
    rw [e1, e2]
    clear e1 e2
    go_enter Try.func75, Try.ntmps75
    go_wp2_with fail
    refine bodyPost_ret (v := .tuple #[acV ⟨a.rm, 0, a.ep + 1⟩, .int .i64 0]) (by simp [results, Try.results75, go_sem, *]) rfl ⟨rfl, ?_⟩
    repeat (first | (with_reducible exact (Below.onto (below_new _ _) (below_new _ _))) | (with_reducible refine Below.setCell ?_ ?_ _) | (with_reducible refine Below.alloc ?_ ?_ _) | (dsimp only; omega) | (simp; omega))

set_option maxHeartbeats 4000000 in
theorem backf_any (t : Int) (a : Ac) (w : World) (b : Nat) (h : okA a = true) (ht : w.cell? ⟨b, 0, none⟩ = some (.int .i64 t)) : Calls Try.prog 76 #[acV a, .pointer (some ⟨b, 0, none⟩)] w fun e w' => e = .returned (.tuple #[acV (dbA t a), .int .i64 (dbE t a)]) ∧ Below w.heap.size w w' := by
  have hc := fun W => back_any t a W h
  have hbl := cell_lt ht
  generalize dbA t a = A at *
  generalize dbE t a = E at *
  clear h
  go_enter Try.func76, Try.ntmps76
  go_wp2_with fail
  refine (hc _).mono ?_
  rintro e w3 ⟨rfl, hb⟩
  have X : Hid (X2 w w3 (acL a) (acL ac0)) := x2 hb
  clear hb hc
  obtain ⟨x0, x1, x2⟩ := acc_three X.out.x
  obtain ⟨y0, y1, y2⟩ := acc_three (a := ac0) X.out.y
  have xl := X.out.xl
  have yl := X.out.yl
  have yf := X.out.yf
  have xf := X.out.xf
  go_wp2_with fail
  refine bodyPost_ret (v := .tuple #[acV A, .int .i64 E]) (by simp [results, Try.results76, go_sem, *]) rfl ⟨rfl, ?_⟩
  repeat (first | (with_reducible exact X.out.b) | (with_reducible refine Below.setCell ?_ ?_ _) | (with_reducible refine Below.alloc ?_ ?_ _) | (dsimp only; omega) | (simp; omega))

set_option maxHeartbeats 8000000 in
theorem behind0 (ff : Nat) (E : Ac → Int) (A : Ac → Ac) (en : ∀ args W, (callFunc ff args).run Try.prog W = .ok (.enter ff args) W) (a : Ac) (w : World)
    (hd : okA a = true → ∀ W, Below w.heap.size w W → Calls Try.prog ff #[acV a] W fun e w' => e = .returned (.tuple #[acV (A a), .int .i64 (E a)]) ∧ Below W.heap.size W w') :
    Calls Try.prog 73 #[acV a, .func (.func ff) #[] #[]] w fun e w' => e = .returned (.tuple #[acV (bhA E A a), .int .i64 (bhE E a)]) ∧ Below w.heap.size w w' := by
  have hc := fun W => xcheck_any a W
  unfold ckE at hc
  unfold bhA bhE
  cases ho : okA a
  · rw [ho] at hc
    simp only [Bool.false_eq_true, false_and, if_false] at hc ⊢
    clear ho hd
    go_enter Try.func73, Try.ntmps73
    go_wp2_with fail
    refine (hc _).mono ?_
    rintro e w3 ⟨rfl, hb⟩
    have X : Hid (X2 w w3 (acL a) (acL ac0)) := x2 hb
    clear hb hc
    obtain ⟨x0, x1, x2⟩ := acc_three X.out.x
    obtain ⟨y0, y1, y2⟩ := acc_three (a := ac0) X.out.y
    have xl := X.out.xl
    have yl := X.out.yl
    have yf := X.out.yf
    have xf := X.out.xf
    go_wp2_with fail
    refine bodyPost_ret (v := .tuple #[acV ac0, .int .i64 131]) (by simp [results, Try.results73, go_sem, *]) rfl ⟨rfl, ?_⟩
    repeat (first | (with_reducible exact X.out.b) | (with_reducible refine Below.setCell ?_ ?_ _) | (with_reducible refine Below.alloc ?_ ?_ _) | (dsimp only; omega) | (simp; omega))
  · rw [ho] at hc
    have HD := hd ho
    simp only [true_and, if_true] at hc ⊢
    have HD : Hid (∀ W, Below w.heap.size w W → Calls Try.prog ff #[acV a] W fun e w' => e = .returned (.tuple #[acV (A a), .int .i64 (E a)]) ∧ Below W.heap.size W w') := HD
    clear ho hd
    generalize A a = A1 at *
    generalize E a = E1 at *
    by_cases he : E1 = 0
    · subst he
      rw [if_pos rfl]
      go_enter Try.func73, Try.ntmps73
      go_wp2_with fail
      refine (hc _).mono ?_
      rintro e w3 ⟨rfl, hb⟩
      have X : Hid (X2 w w3 (acL a) (acL ac0)) := x2 hb
      clear hb hc
      obtain ⟨x0, x1, x2⟩ := acc_three X.out.x
      obtain ⟨y0, y1, y2⟩ := acc_three (a := ac0) X.out.y
      have xl := X.out.xl
      have yl := X.out.yl
      have yf := X.out.yf
      have xf := X.out.xf
      have hq := HD.out w3 X.out.b
      clear HD
      go_wp2_with fail
      refine hq.mono ?_
      rintro e w4 ⟨rfl, hb4⟩
      have Y : Hid (X2 w w4 (acL a) (acL ac0)) := X.out.more hb4
      clear hq hb4 x0 x1 x2 y0 y1 y2 xl yl yf xf X
      obtain ⟨x0, x1, x2⟩ := acc_three Y.out.x
      obtain ⟨y0, y1, y2⟩ := acc_three (a := ac0) Y.out.y
      have xl := Y.out.xl
      have yl := Y.out.yl
      have yf := Y.out.yf
      have xf := Y.out.xf
      go_wp2_with fail
      refine bodyPost_ret (v := .tuple #[acV A1, .int .i64 0]) (by simp [results, Try.results73, go_sem, *]) rfl ⟨rfl, ?_⟩
      repeat (first | (with_reducible exact Y.out.b) | (with_reducible refine Below.setCell ?_ ?_ _) | (with_reducible refine Below.alloc ?_ ?_ _) | (dsimp only; omega) | (simp; omega))
    · have he2 : (E1 == 0) = false := by simpa using he
      rw [if_neg he]
      go_enter Try.func73, Try.ntmps73
      go_wp2_with fail
      refine (hc _).mono ?_
      rintro e w3 ⟨rfl, hb⟩
      have X : Hid (X2 w w3 (acL a) (acL ac0)) := x2 hb
      clear hb hc
      obtain ⟨x0, x1, x2⟩ := acc_three X.out.x
      obtain ⟨y0, y1, y2⟩ := acc_three (a := ac0) X.out.y
      have xl := X.out.xl
      have yl := X.out.yl
      have yf := X.out.yf
      have xf := X.out.xf
      have hq := HD.out w3 X.out.b
      clear HD
      go_wp2_with fail
      refine hq.mono ?_
      rintro e w4 ⟨rfl, hb4⟩
      have Y : Hid (X2 w w4 (acL a) (acL ac0)) := X.out.more hb4
      clear hq hb4 x0 x1 x2 y0 y1 y2 xl yl yf xf X
      obtain ⟨x0, x1, x2⟩ := acc_three Y.out.x
      obtain ⟨y0, y1, y2⟩ := acc_three (a := ac0) Y.out.y
      have xl := Y.out.xl
      have yl := Y.out.yl
      have yf := Y.out.yf
      have xf := Y.out.xf
      go_wp2_with fail
      refine bodyPost_ret (v := .tuple #[acV ac0, .int .i64 E1]) (by simp [results, Try.results73, go_sem, *]) rfl ⟨rfl, ?_⟩
      repeat (first | (with_reducible exact Y.out.b) | (with_reducible refine Below.setCell ?_ ?_ _) | (with_reducible refine Below.alloc ?_ ?_ _) | (dsimp only; omega) | (simp; omega))

set_option maxHeartbeats 8000000 in
theorem behind1 (ff : Nat) (p : Value) (E : Ac → Int) (A : Ac → Ac) (en : ∀ args W, (callFunc ff args).run Try.prog W = .ok (.enter ff args) W) (a : Ac) (w : World)
    (hd : okA a = true → ∀ W, Below w.heap.size w W → Calls Try.prog ff #[acV a, p] W fun e w' => e = .returned (.tuple #[acV (A a), .int .i64 (E a)]) ∧ Below W.heap.size W w') :
    Calls Try.prog 73 #[acV a, .func (.func ff) #[] #[p]] w fun e w' => e = .returned (.tuple #[acV (bhA E A a), .int .i64 (bhE E a)]) ∧ Below w.heap.size w w' := by
  have hc := fun W => xcheck_any a W
  unfold ckE at hc
  unfold bhA bhE
  cases ho : okA a
  · rw [ho] at hc
    simp only [Bool.false_eq_true, false_and, if_false] at hc ⊢
    clear ho hd
    go_enter Try.func73, Try.ntmps73
    go_wp2_with fail
    refine (hc _).mono ?_
    rintro e w3 ⟨rfl, hb⟩
    have X : Hid (X2 w w3 (acL a) (acL ac0)) := x2 hb
    clear hb hc
    obtain ⟨x0, x1, x2⟩ := acc_three X.out.x
    obtain ⟨y0, y1, y2⟩ := acc_three (a := ac0) X.out.y
    have xl := X.out.xl
    have yl := X.out.yl
    have yf := X.out.yf
    have xf := X.out.xf
    go_wp2_with fail
    refine bodyPost_ret (v := .tuple #[acV ac0, .int .i64 131]) (by simp [results, Try.results73, go_sem, *]) rfl ⟨rfl, ?_⟩
    repeat (first | (with_reducible exact X.out.b) | (with_reducible refine Below.setCell ?_ ?_ _) | (with_reducible refine Below.alloc ?_ ?_ _) | (dsimp only; omega) | (simp; omega))
  · rw [ho] at hc
    have HD := hd ho
    simp only [true_and, if_true] at hc ⊢
    have HD : Hid (∀ W, Below w.heap.size w W → Calls Try.prog ff #[acV a, p] W fun e w' => e = .returned (.tuple #[acV (A a), .int .i64 (E a)]) ∧ Below W.heap.size W w') := HD
    clear ho hd
    generalize A a = A1 at *
    generalize E a = E1 at *
    by_cases he : E1 = 0
    · subst he
      rw [if_pos rfl]
      go_enter Try.func73, Try.ntmps73
      go_wp2_with fail
      refine (hc _).mono ?_
      rintro e w3 ⟨rfl, hb⟩
      have X : Hid (X2 w w3 (acL a) (acL ac0)) := x2 hb
      clear hb hc
      obtain ⟨x0, x1, x2⟩ := acc_three X.out.x
      obtain ⟨y0, y1, y2⟩ := acc_three (a := ac0) X.out.y
      have xl := X.out.xl
      have yl := X.out.yl
      have yf := X.out.yf
      have xf := X.out.xf
      have hq := HD.out w3 X.out.b
      clear HD
      go_wp2_with fail
      refine hq.mono ?_
      rintro e w4 ⟨rfl, hb4⟩
      have Y : Hid (X2 w w4 (acL a) (acL ac0)) := X.out.more hb4
      clear hq hb4 x0 x1 x2 y0 y1 y2 xl yl yf xf X
      obtain ⟨x0, x1, x2⟩ := acc_three Y.out.x
      obtain ⟨y0, y1, y2⟩ := acc_three (a := ac0) Y.out.y
      have xl := Y.out.xl
      have yl := Y.out.yl
      have yf := Y.out.yf
      have xf := Y.out.xf
      go_wp2_with fail
      refine bodyPost_ret (v := .tuple #[acV A1, .int .i64 0]) (by simp [results, Try.results73, go_sem, *]) rfl ⟨rfl, ?_⟩
      repeat (first | (with_reducible exact Y.out.b) | (with_reducible refine Below.setCell ?_ ?_ _) | (with_reducible refine Below.alloc ?_ ?_ _) | (dsimp only; omega) | (simp; omega))
    · have he2 : (E1 == 0) = false := by simpa using he
      rw [if_neg he]
      go_enter Try.func73, Try.ntmps73
      go_wp2_with fail
      refine (hc _).mono ?_
      rintro e w3 ⟨rfl, hb⟩
      have X : Hid (X2 w w3 (acL a) (acL ac0)) := x2 hb
      clear hb hc
      obtain ⟨x0, x1, x2⟩ := acc_three X.out.x
      obtain ⟨y0, y1, y2⟩ := acc_three (a := ac0) X.out.y
      have xl := X.out.xl
      have yl := X.out.yl
      have yf := X.out.yf
      have xf := X.out.xf
      have hq := HD.out w3 X.out.b
      clear HD
      go_wp2_with fail
      refine hq.mono ?_
      rintro e w4 ⟨rfl, hb4⟩
      have Y : Hid (X2 w w4 (acL a) (acL ac0)) := X.out.more hb4
      clear hq hb4 x0 x1 x2 y0 y1 y2 xl yl yf xf X
      obtain ⟨x0, x1, x2⟩ := acc_three Y.out.x
      obtain ⟨y0, y1, y2⟩ := acc_three (a := ac0) Y.out.y
      have xl := Y.out.xl
      have yl := Y.out.yl
      have yf := Y.out.yf
      have xf := Y.out.xf
      go_wp2_with fail
      refine bodyPost_ret (v := .tuple #[acV ac0, .int .i64 E1]) (by simp [results, Try.results73, go_sem, *]) rfl ⟨rfl, ?_⟩
      repeat (first | (with_reducible exact Y.out.b) | (with_reducible refine Below.setCell ?_ ?_ _) | (with_reducible refine Below.alloc ?_ ?_ _) | (dsimp only; omega) | (simp; omega))

set_option maxHeartbeats 4000000 in
theorem xspend_any (a : Ac) (w : World) : Calls Try.prog 47 #[acV a] w fun e w' => e = .returned (.tuple #[acV (spA a), .int .i64 (spE a)]) ∧ Below w.heap.size w w' := by
  have hc := fun W => behind0 74 dsE dsA (enters_of Try.func74 (by kernel_rfl) rfl) a W (fun h W _ => spend_any a W h)
  show Calls _ _ _ _ (fun e w' => e = .returned (.tuple #[acV (bhA dsE dsA a), .int .i64 (bhE dsE a)]) ∧ Below w.heap.size w w')
  generalize bhA dsE dsA a = A1 at *
  generalize bhE dsE a = E1 at *
  go_enter Try.func47, Try.ntmps47
  go_wp2_with fail
  refine (hc _).mono ?_
  rintro e w3 ⟨rfl, hb⟩
  have X : Hid (X2 w w3 (acL a) (acL ac0)) := x2 hb
  clear hb hc
  obtain ⟨x0, x1, x2⟩ := acc_three X.out.x
  obtain ⟨y0, y1, y2⟩ := acc_three (a := ac0) X.out.y
  have xl := X.out.xl
  have yl := X.out.yl
  have yf := X.out.yf
  have xf := X.out.xf
  go_wp2_with fail
  refine bodyPost_ret (v := .tuple #[acV A1, .int .i64 E1]) (by simp [results, Try.results47, go_sem, *]) rfl ⟨rfl, ?_⟩
  repeat (first | (with_reducible exact X.out.b) | (with_reducible refine Below.setCell ?_ ?_ _) | (with_reducible refine Below.alloc ?_ ?_ _) | (dsimp only; omega) | (simp; omega))

set_option maxHeartbeats 4000000 in
theorem xreset_any (a : Ac) (w : World) : Calls Try.prog 48 #[acV a] w fun e w' => e = .returned (.tuple #[acV (rsA a), .int .i64 (rsE a)]) ∧ Below w.heap.size w w' := by
  have hc := fun W => behind0 75 drE drA (enters_of Try.func75 (by kernel_rfl) rfl) a W (fun h W _ => reset_any a W h)
  show Calls _ _ _ _ (fun e w' => e = .returned (.tuple #[acV (bhA drE drA a), .int .i64 (bhE drE a)]) ∧ Below w.heap.size w w')
  generalize bhA drE drA a = A1 at *
  generalize bhE drE a = E1 at *
  go_enter Try.func48, Try.ntmps48
  go_wp2_with fail
  refine (hc _).mono ?_
  rintro e w3 ⟨rfl, hb⟩
  have X : Hid (X2 w w3 (acL a) (acL ac0)) := x2 hb
  clear hb hc
  obtain ⟨x0, x1, x2⟩ := acc_three X.out.x
  obtain ⟨y0, y1, y2⟩ := acc_three (a := ac0) X.out.y
  have xl := X.out.xl
  have yl := X.out.yl
  have yf := X.out.yf
  have xf := X.out.xf
  go_wp2_with fail
  refine bodyPost_ret (v := .tuple #[acV A1, .int .i64 E1]) (by simp [results, Try.results48, go_sem, *]) rfl ⟨rfl, ?_⟩
  repeat (first | (with_reducible exact X.out.b) | (with_reducible refine Below.setCell ?_ ?_ _) | (with_reducible refine Below.alloc ?_ ?_ _) | (dsimp only; omega) | (simp; omega))

set_option maxHeartbeats 4000000 in
theorem xback_any (a : Ac) (t : Int) (w : World) : Calls Try.prog 49 #[acV a, .int .i64 t] w fun e w' => e = .returned (.tuple #[acV (bkA t a), .int .i64 (bkE t a)]) ∧ Below w.heap.size w w' := by
  have e1 : ∀ c, (w.alloc c).heap.size = w.heap.size + 1 := fun c => by simp
  have hc := behind1 76 (.pointer (some ⟨w.heap.size + 1, 0, none⟩)) (dbE t) (dbA t) (enters_of Try.func76 (by kernel_rfl) rfl) a (((w.alloc (.cells #[.int .i64 a.rm, .int .i64 a.sp, .int .i64 a.ep] 90)).alloc (.cells #[.int .i64 t] 3)).alloc (.cells #[.int .i64 0, .int .i64 0, .int .i64 0] 90)) (fun h W hW => backf_any t a W _ h (by
    have h1 := ((bx_new (w.alloc (.cells #[.int .i64 a.rm, .int .i64 a.sp, .int .i64 a.ep] 90)) [.int .i64 t] 3).below (below_new _ (.cells #[.int .i64 0, .int .i64 0, .int .i64 0] 90))).below hW
    rw [e1] at h1
    exact h1 0 _ rfl))
  show Calls _ _ _ _ (fun e w' => e = .returned (.tuple #[acV (bhA (dbE t) (dbA t) a), .int .i64 (bhE (dbE t) a)]) ∧ Below w.heap.size w w')
  generalize bhA (dbE t) (dbA t) a = A1 at *
  generalize bhE (dbE t) a = E1 at *
  clear e1
  go_enter Try.func49, Try.ntmps49
  go_wp2_with fail
  refine hc.mono ?_
  rintro e w3 ⟨rfl, hb⟩
  have X := x2 (l1 := [.int .i64 t]) (l2 := acL ac0) hb
  have e1 : (w.alloc (.cells #[.int .i64 a.rm, .int .i64 a.sp, .int .i64 a.ep] 90)).heap.size = w.heap.size + 1 := by simp
  obtain ⟨y0, y1, y2⟩ := acc_three (a := ac0) X.y
  have yl := X.yl
  have yf := X.yf
  have HB : Hid (Below w.heap.size w w3) := Below.onto (Below.onto (Below.onto (below_new _ _) (below_new _ _)) (below_new _ _)) hb
  rw [e1] at y0 y1 y2 yl yf
  clear hb hc X e1
  go_wp2_with fail
  refine bodyPost_ret (v := .tuple #[acV A1, .int .i64 E1]) (by simp [results, Try.results49, go_sem, *]) rfl ⟨rfl, ?_⟩
  repeat (first | (with_reducible exact HB.out) | (with_reducible refine Below.setCell ?_ ?_ _) | (with_reducible refine Below.alloc ?_ ?_ _) | (dsimp only; omega) | (simp; omega))

set_option maxHeartbeats 4000000 in
theorem xopen_any (r : Int) (w : World) : Calls Try.prog 46 #[.int .i64 r] w fun e w' => e = .returned (.tuple #[acV (opA r), .int .i64 (opE r)]) ∧ Below w.heap.size w w' := by
  have hc := fun W => xcheck_any ⟨r, 0, 0⟩ W
  unfold ckE at hc
  unfold opA opE ckE
  cases ho : okA ⟨r, 0, 0⟩
  · rw [ho] at hc
    simp only [Bool.false_eq_true, if_false] at hc ⊢
    clear ho
    go_enter Try.func46, Try.ntmps46
    go_wp2_with fail
    refine (hc _).mono ?_
    rintro e w3 ⟨rfl, hb⟩
    have X : Hid (X2 w w3 (acL ac0) (acL ⟨r, 0, 0⟩)) := x2 hb
    clear hb hc
    obtain ⟨x0, x1, x2⟩ := acc_three (a := ac0) X.out.x
    obtain ⟨y0, y1, y2⟩ := acc_three (a := ⟨r, 0, 0⟩) X.out.y
    have xl := X.out.xl
    have yl := X.out.yl
    have yf := X.out.yf
    have xf := X.out.xf
    go_wp2_with fail
    refine bodyPost_ret (v := .tuple #[acV ac0, .int .i64 131]) (by simp [results, Try.results46, go_sem, *]) rfl ⟨rfl, ?_⟩
    repeat (first | (with_reducible exact X.out.b) | (with_reducible refine Below.setCell ?_ ?_ _) | (with_reducible refine Below.alloc ?_ ?_ _) | (dsimp only; omega) | (simp; omega))
  · rw [ho] at hc
    simp only [if_true] at hc ⊢
    clear ho
    go_enter Try.func46, Try.ntmps46
    go_wp2_with fail
    refine (hc _).mono ?_
    rintro e w3 ⟨rfl, hb⟩
    have X : Hid (X2 w w3 (acL ac0) (acL ⟨r, 0, 0⟩)) := x2 hb
    clear hb hc
    obtain ⟨x0, x1, x2⟩ := acc_three (a := ac0) X.out.x
    obtain ⟨y0, y1, y2⟩ := acc_three (a := ⟨r, 0, 0⟩) X.out.y
    have xl := X.out.xl
    have yl := X.out.yl
    have yf := X.out.yf
    have xf := X.out.xf
    go_wp2_with fail
    refine bodyPost_ret (v := .tuple #[acV ⟨r, 0, 0⟩, .int .i64 0]) (by simp [results, Try.results46, go_sem, *]) rfl ⟨rfl, ?_⟩
    repeat (first | (with_reducible exact X.out.b) | (with_reducible refine Below.setCell ?_ ?_ _) | (with_reducible refine Below.alloc ?_ ?_ _) | (dsimp only; omega) | (simp; omega))

set_option maxHeartbeats 4000000 in
theorem xLeft_any (a : Ac) (w : World) : Calls Try.prog 50 #[acV a] w fun e w' => e = .returned (.int .i64 (lfI a)) ∧ Below w.heap.size w w' := by
  have hc := fun W => xcheck_any a W
  have hl := fun h W => xleft_any a W h
  unfold ckE at hc
  unfold lfI
  cases ho : okA a
  · rw [ho] at hc
    clear hl
    simp only [Bool.false_eq_true, if_false] at hc ⊢
    clear ho
    go_enter Try.func50, Try.ntmps50
    go_wp2_with fail
    refine (hc _).mono ?_
    rintro e w3 ⟨rfl, hb⟩
    go_wp2_with fail
    go_ret
    exact ⟨rfl, Below.onto (below_new _ _) hb⟩
  · rw [ho] at hc
    replace hl := hl ho
    simp only [if_true] at hc ⊢
    clear ho
    go_enter Try.func50, Try.ntmps50
    go_wp2_with fail
    refine (hc _).mono ?_
    rintro e w3 ⟨rfl, hb⟩
    obtain ⟨x0, x1, x2⟩ := acc_three ((bx_new w (acL a) 90).below hb)
    have xl := cell_lt x0
    have HB : Hid (Below w.heap.size w w3) := Below.onto (below_new _ _) hb
    clear hb hc
    go_wp2_with fail
    refine (hl _).mono ?_
    rintro e w4 ⟨rfl, hb4⟩
    go_wp2_with fail
    go_ret
    exact ⟨rfl, Below.onto HB.out hb4⟩

end Go.Proofs.Ytlphombjejgbiaa
