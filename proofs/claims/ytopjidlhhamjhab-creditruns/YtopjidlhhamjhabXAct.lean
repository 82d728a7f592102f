/- The law's acts, and the document's, on one account. -/
import Derived.Test.YtopjidlhhamjhabXAlive
namespace Go.Proofs.Ytopjidlhhamjhab
open Go.RowKit Go.Sort Go.Shelf
set_option maxRecDepth 100000

/-- an act -/
structure XOp where
  k : Int
  e : Int
abbrev xoL (o : XOp) : List Value := [.int .i64 o.k, .int .i64 o.e]
abbrev xoV (o : XOp) : Value := .agg #[.int .i64 o.k, .int .i64 o.e]
def encX (o : XOp) : Nat → Value
  | 0 => .int .i64 o.k
  | _ => .int .i64 o.e
def aoE (o : XOp) (c : Ac) : Int := if o.k = 1 then spE c else if o.k = 2 then bkE o.e c else if o.k = 3 then rsE c else if o.k = 4 then 1 else 0
def aoA (o : XOp) (c : Ac) : Ac := if o.k = 1 then spA c else if o.k = 2 then bkA o.e c else if o.k = 3 then rsA c else if o.k = 4 then ac0 else c
/-- three boxes that were made, behind a call -/
structure X3 (w w3 : World) (l1 l2 l3 : List Value) : Prop where
  x : Bx w3 w.heap.size l1
  y : Bx w3 (w.heap.size + 1 + 1) l3
  xl : w.heap.size < w3.heap.size
  yl : w.heap.size + 1 + 1 < w3.heap.size
  yf : ∀ i, w3.frozen? ⟨w.heap.size + 1 + 1, i, none⟩ = false
  xf : ∀ i, w3.frozen? ⟨w.heap.size, i, none⟩ = false
  o : Bx w3 (w.heap.size + 1) l2
  b : Below w.heap.size w w3
theorem x3 {w w3 : World} {l1 l2 l3 : List Value} {T1 T2 T3 : TypeId} (hb : Below (((w.alloc (.cells l1.toArray T1)).alloc (.cells l2.toArray T2)).alloc (.cells l3.toArray T3)).heap.size (((w.alloc (.cells l1.toArray T1)).alloc (.cells l2.toArray T2)).alloc (.cells l3.toArray T3)) w3) : X3 w w3 l1 l2 l3 := by
  obtain ⟨h1, h2, h3, h4, _, _, h7⟩ := x2 (l1 := l1) (l2 := l2) (T1 := T1) (T2 := T2) (Below.refl _ ((w.alloc (.cells l1.toArray T1)).alloc (.cells l2.toArray T2)))
  have hn := below_new ((w.alloc (.cells l1.toArray T1)).alloc (.cells l2.toArray T2)) (.cells l3.toArray T3)
  have hB := Below.onto hn hb
  have e1 : (w.alloc (.cells l1.toArray T1)).heap.size = w.heap.size + 1 := by simp
  have e2 : ((w.alloc (.cells l1.toArray T1)).alloc (.cells l2.toArray T2)).heap.size = w.heap.size + 1 + 1 := by simp
  have e3 : (((w.alloc (.cells l1.toArray T1)).alloc (.cells l2.toArray T2)).alloc (.cells l3.toArray T3)).heap.size = w.heap.size + 1 + 1 + 1 := by simp
  have k3 := bx_new ((w.alloc (.cells l1.toArray T1)).alloc (.cells l2.toArray T2)) l3 T3
  have g3 := gheap_new ((w.alloc (.cells l1.toArray T1)).alloc (.cells l2.toArray T2)) (.cells l3.toArray T3)
  have g1 := (below_new (w.alloc (.cells l1.toArray T1)) (.cells l2.toArray T2)).block w.heap.size (by omega) |>.trans (gheap_new w (.cells l1.toArray T1))
  rw [e2] at k3 g3
  have hs := hb.size
  exact ⟨h1.below hB, k3.below hb, by omega, by omega, fun i => frozen_of_row _ _ i _ _ ((hb.block _ (by omega)).trans g3), fun i => frozen_of_row _ _ i _ _ ((hB.block _ (by omega)).trans g1), h2.below hB, Below.onto h7 hB⟩
/-- the act's own function -/
abbrev xfn (B : Nat) : Value := .func (.func 28) #[] #[.pointer (some ⟨B, 0, none⟩)]
set_option maxHeartbeats 2000000 in
theorem xact_any (o : XOp) (w : World) : Calls Try.prog 14 #[xoV o] w fun e w' => e = .returned (xfn w.heap.size) ∧ Bx w' w.heap.size (xoL o) ∧ Below w.heap.size w w' := by
  have hb := bx_new w (xoL o) 44
  have HB : Hid (Bx _ _ _) := hb
  go_enter Try.func14, Try.ntmps14
  go_wp2_with fail
  go_ret
  exact ⟨rfl, HB.out, below_new _ _⟩

set_option maxHeartbeats 4000000 in
theorem xa1 (o : XOp) (c : Ac) (B : Nat) (w : World) (hB : Bx w B (xoL o)) (hk : o.k = 1) : Calls Try.prog 28 #[acV c, .pointer (some ⟨B, 0, none⟩)] w fun e w' => e = .returned (.tuple #[acV (aoA o c), .int .i64 (aoE o c)]) ∧ Below w.heap.size w w' := by
  have e1 : aoE o c = spE c := by simp [aoE, hk]
  have e2 : aoA o c = spA c := by simp [aoA, hk]
  rw [e1, e2]
  clear e1 e2
  have b0 := hB 0 _ rfl
  have b1 := hB 1 _ rfl
  have bl := cell_lt b0
  clear hB
  have hc := fun W => xspend_any c W
  generalize spA c = RA, spE c = RE at *
  obtain ⟨k, t⟩ := o
  simp only at *
  subst k
  go_enter Try.func28, Try.ntmps28
  go_wp2_with fail
  refine (hc _).mono ?_
  rintro e w3 ⟨rfl, hb⟩
  · have X : Hid (X2 w w3 (acL c) (acL ac0)) := x2 hb
    clear hb hc
    obtain ⟨x0, x1, x2⟩ := acc_three X.out.x
    obtain ⟨y0, y1, y2⟩ := acc_three (a := ac0) X.out.y
    have xl := X.out.xl
    have yl := X.out.yl
    have yf := X.out.yf
    have xf := X.out.xf
    go_wp2_with fail
    refine bodyPost_ret (v := .tuple #[acV RA, .int .i64 RE]) (by simp [results, Try.results28, go_sem, *]) rfl ⟨rfl, ?_⟩
    repeat (first | (with_reducible exact X.out.b) | (with_reducible exact Below.refl _ _) | (with_reducible refine Below.setCell ?_ ?_ _) | (with_reducible refine Below.alloc ?_ ?_ _) | (with_reducible exact Nat.le_refl _) | (dsimp only; omega) | (simp only [World.size_alloc]; omega) | (simp; omega))

set_option maxHeartbeats 4000000 in
theorem xa2 (o : XOp) (c : Ac) (B : Nat) (w : World) (hB : Bx w B (xoL o)) (hk : o.k = 2) : Calls Try.prog 28 #[acV c, .pointer (some ⟨B, 0, none⟩)] w fun e w' => e = .returned (.tuple #[acV (aoA o c), .int .i64 (aoE o c)]) ∧ Below w.heap.size w w' := by
  have e1 : aoE o c = bkE o.e c := by simp [aoE, hk]
  have e2 : aoA o c = bkA o.e c := by simp [aoA, hk]
  rw [e1, e2]
  clear e1 e2
  have b0 := hB 0 _ rfl
  have b1 := hB 1 _ rfl
  have bl := cell_lt b0
  clear hB
  have hc := fun W => xback_any c o.e W
  generalize bkA o.e c = RA, bkE o.e c = RE at *
  obtain ⟨k, t⟩ := o
  simp only at *
  subst k
  go_enter Try.func28, Try.ntmps28
  go_wp2_with fail
  refine (hc _).mono ?_
  rintro e w3 ⟨rfl, hb⟩
  · have X : Hid (X2 w w3 (acL c) (acL ac0)) := x2 hb
    clear hb hc
    obtain ⟨x0, x1, x2⟩ := acc_three X.out.x
    obtain ⟨y0, y1, y2⟩ := acc_three (a := ac0) X.out.y
    have xl := X.out.xl
    have yl := X.out.yl
    have yf := X.out.yf
    have xf := X.out.xf
    go_wp2_with fail
    refine bodyPost_ret (v := .tuple #[acV RA, .int .i64 RE]) (by simp [results, Try.results28, go_sem, *]) rfl ⟨rfl, ?_⟩
    repeat (first | (with_reducible exact X.out.b) | (with_reducible exact Below.refl _ _) | (with_reducible refine Below.setCell ?_ ?_ _) | (with_reducible refine Below.alloc ?_ ?_ _) | (with_reducible exact Nat.le_refl _) | (dsimp only; omega) | (simp only [World.size_alloc]; omega) | (simp; omega))

set_option maxHeartbeats 4000000 in
theorem xa3 (o : XOp) (c : Ac) (B : Nat) (w : World) (hB : Bx w B (xoL o)) (hk : o.k = 3) : Calls Try.prog 28 #[acV c, .pointer (some ⟨B, 0, none⟩)] w fun e w' => e = .returned (.tuple #[acV (aoA o c), .int .i64 (aoE o c)]) ∧ Below w.heap.size w w' := by
  have e1 : aoE o c = rsE c := by simp [aoE, hk]
  have e2 : aoA o c = rsA c := by simp [aoA, hk]
  rw [e1, e2]
  clear e1 e2
  have b0 := hB 0 _ rfl
  have b1 := hB 1 _ rfl
  have bl := cell_lt b0
  clear hB
  have hc := fun W => xreset_any c W
  generalize rsA c = RA, rsE c = RE at *
  obtain ⟨k, t⟩ := o
  simp only at *
  subst k
  go_enter Try.func28, Try.ntmps28
  go_wp2_with fail
  refine (hc _).mono ?_
  rintro e w3 ⟨rfl, hb⟩
  · have X : Hid (X2 w w3 (acL c) (acL ac0)) := x2 hb
    clear hb hc
    obtain ⟨x0, x1, x2⟩ := acc_three X.out.x
    obtain ⟨y0, y1, y2⟩ := acc_three (a := ac0) X.out.y
    have xl := X.out.xl
    have yl := X.out.yl
    have yf := X.out.yf
    have xf := X.out.xf
    go_wp2_with fail
    refine bodyPost_ret (v := .tuple #[acV RA, .int .i64 RE]) (by simp [results, Try.results28, go_sem, *]) rfl ⟨rfl, ?_⟩
    repeat (first | (with_reducible exact X.out.b) | (with_reducible exact Below.refl _ _) | (with_reducible refine Below.setCell ?_ ?_ _) | (with_reducible refine Below.alloc ?_ ?_ _) | (with_reducible exact Nat.le_refl _) | (dsimp only; omega) | (simp only [World.size_alloc]; omega) | (simp; omega))

set_option maxHeartbeats 4000000 in
theorem xa4 (o : XOp) (c : Ac) (B : Nat) (w : World) (hB : Bx w B (xoL o)) (hk : o.k = 4) : Calls Try.prog 28 #[acV c, .pointer (some ⟨B, 0, none⟩)] w fun e w' => e = .returned (.tuple #[acV (aoA o c), .int .i64 (aoE o c)]) ∧ Below w.heap.size w w' := by
  have e1 : aoE o c = 1 := by simp [aoE, hk]
  have e2 : aoA o c = ac0 := by simp [aoA, hk]
  rw [e1, e2]
  clear e1 e2
  have b0 := hB 0 _ rfl
  have b1 := hB 1 _ rfl
  have bl := cell_lt b0
  clear hB
  obtain ⟨k, t⟩ := o
  simp only at *
  go_enter Try.func28, Try.ntmps28
  · have X : Hid (X2 w ((w.alloc (.cells (acL c).toArray 38)).alloc (.cells (acL ac0).toArray 38)) (acL c) (acL ac0)) := x2 (T1 := 38) (T2 := 38) (Below.refl _ _)
    obtain ⟨x0, x1, x2⟩ := acc_three X.out.x
    obtain ⟨y0, y1, y2⟩ := acc_three (a := ac0) X.out.y
    have xl := X.out.xl
    have yl := X.out.yl
    have yf := X.out.yf
    have xf := X.out.xf
    go_wp2_with fail
    generalize ((w.alloc (.cells (acL c).toArray 38)).alloc (.cells (acL ac0).toArray 38)) = w3 at *
    refine bodyPost_ret (v := .tuple #[acV ac0, .int .i64 1]) (by simp [results, Try.results28, go_sem, *]) rfl ⟨rfl, ?_⟩
    repeat (first | (with_reducible exact X.out.b) | (with_reducible exact Below.refl _ _) | (with_reducible refine Below.setCell ?_ ?_ _) | (with_reducible refine Below.alloc ?_ ?_ _) | (with_reducible exact Nat.le_refl _) | (dsimp only; omega) | (simp only [World.size_alloc]; omega) | (simp; omega))

set_option maxHeartbeats 4000000 in
theorem xa5 (o : XOp) (c : Ac) (B : Nat) (w : World) (hB : Bx w B (xoL o)) (h1 : ¬ o.k = 1) (h2 : ¬ o.k = 2) (h3 : ¬ o.k = 3) (h4 : ¬ o.k = 4) : Calls Try.prog 28 #[acV c, .pointer (some ⟨B, 0, none⟩)] w fun e w' => e = .returned (.tuple #[acV (aoA o c), .int .i64 (aoE o c)]) ∧ Below w.heap.size w w' := by
  have e1 : aoE o c = 0 := by simp [aoE, h1, h2, h3, h4]
  have e2 : aoA o c = c := by simp [aoA, h1, h2, h3, h4]
  rw [e1, e2]
  clear e1 e2
  have b0 := hB 0 _ rfl
  have b1 := hB 1 _ rfl
  have bl := cell_lt b0
  clear hB
  obtain ⟨k, t⟩ := o
  simp only at *
  go_enter Try.func28, Try.ntmps28
  · have X : Hid (X2 w ((w.alloc (.cells (acL c).toArray 38)).alloc (.cells (acL ac0).toArray 38)) (acL c) (acL ac0)) := x2 (T1 := 38) (T2 := 38) (Below.refl _ _)
    obtain ⟨x0, x1, x2⟩ := acc_three X.out.x
    obtain ⟨y0, y1, y2⟩ := acc_three (a := ac0) X.out.y
    have xl := X.out.xl
    have yl := X.out.yl
    have yf := X.out.yf
    have xf := X.out.xf
    go_wp2_with fail
    generalize ((w.alloc (.cells (acL c).toArray 38)).alloc (.cells (acL ac0).toArray 38)) = w3 at *
    refine bodyPost_ret (v := .tuple #[acV c, .int .i64 0]) (by simp [results, Try.results28, go_sem, *]) rfl ⟨rfl, ?_⟩
    repeat (first | (with_reducible exact X.out.b) | (with_reducible exact Below.refl _ _) | (with_reducible refine Below.setCell ?_ ?_ _) | (with_reducible refine Below.alloc ?_ ?_ _) | (with_reducible exact Nat.le_refl _) | (dsimp only; omega) | (simp only [World.size_alloc]; omega) | (simp; omega))

theorem xa_any (o : XOp) (c : Ac) (B : Nat) (w : World) (hB : Bx w B (xoL o)) : Calls Try.prog 28 #[acV c, .pointer (some ⟨B, 0, none⟩)] w fun e w' => e = .returned (.tuple #[acV (aoA o c), .int .i64 (aoE o c)]) ∧ Below w.heap.size w w' := by
  by_cases h1 : o.k = 1
  · exact xa1 o c B w hB h1
  by_cases h2 : o.k = 2
  · exact xa2 o c B w hB h2
  by_cases h3 : o.k = 3
  · exact xa3 o c B w hB h3
  by_cases h4 : o.k = 4
  · exact xa4 o c B w hB h4
  · exact xa5 o c B w hB h1 h2 h3 h4

set_option maxHeartbeats 4000000 in
theorem xp1 (o : XOp) (c : Ac) (w : World) (hk : o.k = 1) : Calls Try.prog 15 #[acV c, xoV o] w fun e w' => e = .returned (.tuple #[acV (aoA o c), .int .i64 (aoE o c)]) ∧ Below w.heap.size w w' := by
  have e1 : aoE o c = spE c := by simp [aoE, hk]
  have e2 : aoA o c = spA c := by simp [aoA, hk]
  rw [e1, e2]
  clear e1 e2
  have hc := fun W => xrspend_any c W
  generalize spA c = RA, spE c = RE at *
  obtain ⟨k, t⟩ := o
  simp only at *
  subst k
  go_enter Try.func15, Try.ntmps15
  go_wp2_with fail
  refine (hc _).mono ?_
  rintro e w3 ⟨rfl, hb⟩
  · have X : Hid (X3 w w3 (acL c) (xoL ⟨1, t⟩) (acL ac0)) := x3 hb
    clear hb hc
    obtain ⟨x0, x1, x2⟩ := acc_three X.out.x
    obtain ⟨y0, y1, y2⟩ := acc_three (a := ac0) X.out.y
    have xl := X.out.xl
    have yl := X.out.yl
    have yf := X.out.yf
    have xf := X.out.xf
    go_wp2_with fail
    refine bodyPost_ret (v := .tuple #[acV RA, .int .i64 RE]) (by simp [results, Try.results15, go_sem, *]) rfl ⟨rfl, ?_⟩
    repeat (first | (with_reducible exact X.out.b) | (with_reducible exact Below.refl _ _) | (with_reducible refine Below.setCell ?_ ?_ _) | (with_reducible refine Below.alloc ?_ ?_ _) | (with_reducible exact Nat.le_refl _) | (dsimp only; omega) | (simp only [World.size_alloc]; omega) | (simp; omega))

set_option maxHeartbeats 4000000 in
theorem xp2 (o : XOp) (c : Ac) (w : World) (hk : o.k = 2) : Calls Try.prog 15 #[acV c, xoV o] w fun e w' => e = .returned (.tuple #[acV (aoA o c), .int .i64 (aoE o c)]) ∧ Below w.heap.size w w' := by
  have e1 : aoE o c = bkE o.e c := by simp [aoE, hk]
  have e2 : aoA o c = bkA o.e c := by simp [aoA, hk]
  rw [e1, e2]
  clear e1 e2
  have hc := fun W => xrback_any c o.e W
  generalize bkA o.e c = RA, bkE o.e c = RE at *
  obtain ⟨k, t⟩ := o
  simp only at *
  subst k
  go_enter Try.func15, Try.ntmps15
  go_wp2_with fail
  refine (hc _).mono ?_
  rintro e w3 ⟨rfl, hb⟩
  · have X : Hid (X3 w w3 (acL c) (xoL ⟨2, t⟩) (acL ac0)) := x3 hb
    clear hb hc
    obtain ⟨x0, x1, x2⟩ := acc_three X.out.x
    obtain ⟨y0, y1, y2⟩ := acc_three (a := ac0) X.out.y
    have xl := X.out.xl
    have yl := X.out.yl
    have yf := X.out.yf
    have xf := X.out.xf
    go_wp2_with fail
    refine bodyPost_ret (v := .tuple #[acV RA, .int .i64 RE]) (by simp [results, Try.results15, go_sem, *]) rfl ⟨rfl, ?_⟩
    repeat (first | (with_reducible exact X.out.b) | (with_reducible exact Below.refl _ _) | (with_reducible refine Below.setCell ?_ ?_ _) | (with_reducible refine Below.alloc ?_ ?_ _) | (with_reducible exact Nat.le_refl _) | (dsimp only; omega) | (simp only [World.size_alloc]; omega) | (simp; omega))

set_option maxHeartbeats 4000000 in
theorem xp3 (o : XOp) (c : Ac) (w : World) (hk : o.k = 3) : Calls Try.prog 15 #[acV c, xoV o] w fun e w' => e = .returned (.tuple #[acV (aoA o c), .int .i64 (aoE o c)]) ∧ Below w.heap.size w w' := by
  have e1 : aoE o c = rsE c := by simp [aoE, hk]
  have e2 : aoA o c = rsA c := by simp [aoA, hk]
  rw [e1, e2]
  clear e1 e2
  have hc := fun W => xrreset_any c W
  generalize rsA c = RA, rsE c = RE at *
  obtain ⟨k, t⟩ := o
  simp only at *
  subst k
  go_enter Try.func15, Try.ntmps15
  go_wp2_with fail
  refine (hc _).mono ?_
  rintro e w3 ⟨rfl, hb⟩
  · have X : Hid (X3 w w3 (acL c) (xoL ⟨3, t⟩) (acL ac0)) := x3 hb
    clear hb hc
    obtain ⟨x0, x1, x2⟩ := acc_three X.out.x
    obtain ⟨y0, y1, y2⟩ := acc_three (a := ac0) X.out.y
    have xl := X.out.xl
    have yl := X.out.yl
    have yf := X.out.yf
    have xf := X.out.xf
    go_wp2_with fail
    refine bodyPost_ret (v := .tuple #[acV RA, .int .i64 RE]) (by simp [results, Try.results15, go_sem, *]) rfl ⟨rfl, ?_⟩
    repeat (first | (with_reducible exact X.out.b) | (with_reducible exact Below.refl _ _) | (with_reducible refine Below.setCell ?_ ?_ _) | (with_reducible refine Below.alloc ?_ ?_ _) | (with_reducible exact Nat.le_refl _) | (dsimp only; omega) | (simp only [World.size_alloc]; omega) | (simp; omega))

set_option maxHeartbeats 4000000 in
theorem xp4 (o : XOp) (c : Ac) (w : World) (hk : o.k = 4) : Calls Try.prog 15 #[acV c, xoV o] w fun e w' => e = .returned (.tuple #[acV (aoA o c), .int .i64 (aoE o c)]) ∧ Below w.heap.size w w' := by
  have e1 : aoE o c = 1 := by simp [aoE, hk]
  have e2 : aoA o c = ac0 := by simp [aoA, hk]
  rw [e1, e2]
  clear e1 e2
  obtain ⟨k, t⟩ := o
  simp only at *
  go_enter Try.func15, Try.ntmps15
  · have X : Hid (X3 w (((w.alloc (.cells (acL c).toArray 38)).alloc (.cells (xoL ⟨k, t⟩).toArray 44)).alloc (.cells (acL ac0).toArray 38)) (acL c) (xoL ⟨k, t⟩) (acL ac0)) := x3 (T1 := 38) (T2 := 44) (T3 := 38) (Below.refl _ _)
    obtain ⟨x0, x1, x2⟩ := acc_three X.out.x
    obtain ⟨y0, y1, y2⟩ := acc_three (a := ac0) X.out.y
    have xl := X.out.xl
    have yl := X.out.yl
    have yf := X.out.yf
    have xf := X.out.xf
    go_wp2_with fail
    generalize (((w.alloc (.cells (acL c).toArray 38)).alloc (.cells (xoL ⟨k, t⟩).toArray 44)).alloc (.cells (acL ac0).toArray 38)) = w3 at *
    refine bodyPost_ret (v := .tuple #[acV ac0, .int .i64 1]) (by simp [results, Try.results15, go_sem, *]) rfl ⟨rfl, ?_⟩
    repeat (first | (with_reducible exact X.out.b) | (with_reducible exact Below.refl _ _) | (with_reducible refine Below.setCell ?_ ?_ _) | (with_reducible refine Below.alloc ?_ ?_ _) | (with_reducible exact Nat.le_refl _) | (dsimp only; omega) | (simp only [World.size_alloc]; omega) | (simp; omega))

set_option maxHeartbeats 4000000 in
theorem xp5 (o : XOp) (c : Ac) (w : World) (h1 : ¬ o.k = 1) (h2 : ¬ o.k = 2) (h3 : ¬ o.k = 3) (h4 : ¬ o.k = 4) : Calls Try.prog 15 #[acV c, xoV o] w fun e w' => e = .returned (.tuple #[acV (aoA o c), .int .i64 (aoE o c)]) ∧ Below w.heap.size w w' := by
  have e1 : aoE o c = 0 := by simp [aoE, h1, h2, h3, h4]
  have e2 : aoA o c = c := by simp [aoA, h1, h2, h3, h4]
  rw [e1, e2]
  clear e1 e2
  obtain ⟨k, t⟩ := o
  simp only at *
  go_enter Try.func15, Try.ntmps15
  · have X : Hid (X3 w (((w.alloc (.cells (acL c).toArray 38)).alloc (.cells (xoL ⟨k, t⟩).toArray 44)).alloc (.cells (acL ac0).toArray 38)) (acL c) (xoL ⟨k, t⟩) (acL ac0)) := x3 (T1 := 38) (T2 := 44) (T3 := 38) (Below.refl _ _)
    obtain ⟨x0, x1, x2⟩ := acc_three X.out.x
    obtain ⟨y0, y1, y2⟩ := acc_three (a := ac0) X.out.y
    have xl := X.out.xl
    have yl := X.out.yl
    have yf := X.out.yf
    have xf := X.out.xf
    go_wp2_with fail
    generalize (((w.alloc (.cells (acL c).toArray 38)).alloc (.cells (xoL ⟨k, t⟩).toArray 44)).alloc (.cells (acL ac0).toArray 38)) = w3 at *
    refine bodyPost_ret (v := .tuple #[acV c, .int .i64 0]) (by simp [results, Try.results15, go_sem, *]) rfl ⟨rfl, ?_⟩
    repeat (first | (with_reducible exact X.out.b) | (with_reducible exact Below.refl _ _) | (with_reducible refine Below.setCell ?_ ?_ _) | (with_reducible refine Below.alloc ?_ ?_ _) | (with_reducible exact Nat.le_refl _) | (dsimp only; omega) | (simp only [World.size_alloc]; omega) | (simp; omega))

theorem xp_any (o : XOp) (c : Ac) (w : World) : Calls Try.prog 15 #[acV c, xoV o] w fun e w' => e = .returned (.tuple #[acV (aoA o c), .int .i64 (aoE o c)]) ∧ Below w.heap.size w w' := by
  by_cases h1 : o.k = 1
  · exact xp1 o c w h1
  by_cases h2 : o.k = 2
  · exact xp2 o c w h2
  by_cases h3 : o.k = 3
  · exact xp3 o c w h3
  by_cases h4 : o.k = 4
  · exact xp4 o c w h4
  · exact xp5 o c w h1 h2 h3 h4

end Go.Proofs.Ytopjidlhhamjhab
