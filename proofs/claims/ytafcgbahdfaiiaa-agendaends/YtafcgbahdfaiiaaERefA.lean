/- What the calls of the document's agenda do. -/
import Derived.Test.YtafcgbahdfaiiaaERefF
namespace Go.Proofs.Ytafcgbahdfaiiaa
open Go.RowKit Go.Sort
set_option maxRecDepth 100000

theorem eown_mono {w : World} {b b' : Nat} {e : TypeId} {size : Nat} {v : Value} {n : Nat} {xs : List Value} (h : w.ownsRow b e size v n xs) (hb : b' ≤ b) : w.ownsRow b' e size v n xs :=
  ⟨h.1, h.2.imp id fun ⟨g, cap, cur, e1, e2, rest⟩ => ⟨g, cap, cur, e1, Nat.le_trans hb e2, rest⟩⟩
/-- behind r lies the document's agenda; none of the blocks Y is its -/
def Rn (w : World) (r : Nat) (D : List En) (last : Nat) (Y : Nat → Prop) : Prop := Srt D ∧ ∃ rv, Rd w r rv D last ∧ ∀ b, Y b → b < w.heap.size ∧ ¬ rhas r rv b
section
variable {w w' : World} {r : Nat} {rv : Value} {D : List En} {last : Nat} {Y Z : Nat → Prop}
theorem Rn.below (a : Rn w r D last Y) (h : Below w.heap.size w w') : Rn w' r D last Y := by
  obtain ⟨s, rv, x, hy⟩ := a
  exact ⟨s, rv, x.below h, fun b hb => ⟨Nat.lt_of_lt_of_le (hy b hb).1 h.size, (hy b hb).2⟩⟩
theorem Rn.less (a : Rn w r D last Y) (h : ∀ b, Z b → Y b) : Rn w r D last Z := by
  obtain ⟨s, rv, x, hy⟩ := a
  exact ⟨s, rv, x, fun b hb => hy b (h b hb)⟩
theorem Rn.but {S : Nat → Prop} (a : Rn w r D last Y) (h : But S w w') (hS : ∀ b, S b → Y b) : Rn w' r D last Y := by
  obtain ⟨s, rv, x, hy⟩ := a
  exact ⟨s, rv, x.but h fun b hb hs => (hy b (hS b hs)).2 hb, fun b hb => ⟨Nat.lt_of_lt_of_le (hy b hb).1 h.size, (hy b hb).2⟩⟩
theorem Rn.box (a : Rn w r D last Y) (z : Obj) : Rn (w.alloc z) r D last (fun b => Y b ∨ b = w.heap.size) := by
  obtain ⟨s, rv, x, hy⟩ := a
  have h : Below w.heap.size w (w.alloc z) := (Below.refl _ w).alloc (Nat.le_refl _) _
  refine ⟨s, rv, x.below h, fun b hb => ?_⟩
  rcases hb with hb | rfl
  · exact ⟨Nat.lt_of_lt_of_le (hy b hb).1 h.size, (hy b hb).2⟩
  · exact ⟨by simp, fun hh => Nat.lt_irrefl _ (x.lt hh)⟩
/-- the row is another one -/
theorem Rd.put {D' : List En} {last' : Nat} {base : Nat} {vD : Value} (bl : Blk w r 32 [rv, .int .i64 (last' : Int)]) (hb : r < base) (hown : w.ownsRow base 50 3 vD D'.length (encE D')) (bd : D'.length ≤ 50000 ∧ last' ≤ 50000) :
    Rd (w.setCell ⟨r, 0, none⟩ vD) r vD D' last' := by
  refine ⟨bl.set 0 vD, own_setO (eown_mono hown (Nat.zero_le _)) (fun e => by have := (hown.lt r e).1; omega) _, bd⟩
theorem find_n (D : List En) (id : Int) : (∃ (U V : List En) (e : En), D = U ++ e :: V ∧ (e.n : Int) = id) ∨ ∀ e, e ∈ D → (e.n : Int) ≠ id := by
  by_cases h : ∃ e, e ∈ D ∧ (e.n : Int) = id
  · obtain ⟨e, he, hn⟩ := h
    obtain ⟨U, V, rfl⟩ := split_at he
    exact .inl ⟨U, V, e, rfl, hn⟩
  · exact .inr fun e he hn => h ⟨e, he, hn⟩
theorem rat_in (w : World) (r : Nat) (rv : Value) (U V : List En) (e : En) (last : Nat) (x : Rd w r rv (U ++ e :: V) last) (s : Srt (U ++ e :: V)) :
    Calls Try.prog 37 #[ptr r, .int .i64 (e.n : Int)] w fun v w' => v = .returned (.int .i64 (U.length : Int)) ∧ w' = w := by
  have h := rat_ok w r rv _ last x (e.n : Int) U.length (by simp) (fun j y hj hy => by
    rw [List.getElem?_append_left hj] at hy
    have := (List.pairwise_append.1 s).2.2 y (List.mem_of_getElem? hy) e (by simp)
    omega) (fun y hy => by simp at hy; rw [hy])
  rw [if_pos (by simp)] at h
  exact h
theorem rat_no (w : World) (r : Nat) (rv : Value) (D : List En) (last : Nat) (x : Rd w r rv D last) (id : Int) (hno : ∀ e, e ∈ D → (e.n : Int) ≠ id) :
    Calls Try.prog 37 #[ptr r, .int .i64 id] w fun v w' => v = .returned (.int .i64 (-1)) ∧ w' = w := by
  have h := rat_ok w r rv D last x id D.length (Nat.le_refl _) (fun j y hj hy => hno y (List.mem_of_getElem? hy)) (fun y hy => by simp at hy)
  rw [if_neg (Nat.lt_irrefl _)] at h
  exact h
end
set_option maxHeartbeats 1000000 in
theorem getR {w : World} {r : Nat} {D : List En} {last : Nat} {Y : Nat → Prop} (a : Rn w r D last Y) {e : En} (he : e ∈ D) :
    Calls Try.prog 15 #[ptr r, .int .i64 (e.n : Int)] w fun v w' => v = .returned (.tuple #[thV e.k e.m, .bool true]) ∧ Below w.heap.size w w' := by
  obtain ⟨s, rv, x, _⟩ := a
  obtain ⟨U, V, rfl⟩ := split_at he
  have HB : Hid (Below w.heap.size w (bxT w)) := (Below.refl _ w).alloc (Nat.le_refl _) _
  have x1 := x.below HB.out
  have cA := rat_in (bxT w) r rv U V e last x1 s
  obtain ⟨g, cap, hv, _⟩ := x1.form1 (by rw [List.length_append, List.length_cons]; omega)
  obtain ⟨a0, a1, _⟩ := x1.cells hv (j := U.length) (e := e) (by simp)
  have c0 := x1.bl.cell (i := 0) rfl
  rw [hv] at c0
  have hR := bxT_blk w
  have r0 := hR.cell (i := 0) rfl
  have r1 := hR.cell (i := 1) rfl
  have rf := hR.fz
  have HR2 := (hR.set 0 (.int .i8 e.k)).set 1 (.int .i64 e.m)
  have s0 := HR2.cell (i := 0) (v := .int .i8 e.k) rfl
  have s1 := HR2.cell (i := 1) (v := .int .i64 e.m) rfl
  have hq : U.length < (U ++ e :: V).length := by simp
  have hbd := x.bd.1
  clear hR HR2 x x1 hv s he
  generalize (U ++ e :: V).length = N at *
  generalize U.length = q at *
  obtain ⟨w1, hw1⟩ : ∃ w1, bxT w = w1 := ⟨_, rfl⟩
  rw [hw1] at cA HB r0 r1 rf s0 s1 a0 a1 c0
  unfold bxT at hw1
  generalize hN : w.heap.size = M at *
  unfold thV
  go_enter Try.func15, Try.ntmps15
  go_wp2_with fail
  refine cA.mono ?_
  rintro v w2 ⟨rfl, hw2⟩
  subst hw2
  clear cA hw1
  go_wp2_with fail
  exact bodyPost_ret (v := .tuple #[thV e.k e.m, .bool true]) (by simp [results, Try.results15, go_sem, s0, s1]) rfl ⟨rfl, (HB.out.setCell (Nat.le_refl _) _).setCell (Nat.le_refl _) _⟩
set_option maxHeartbeats 1000000 in
theorem getR_no {w : World} {r : Nat} {D : List En} {last : Nat} {Y : Nat → Prop} (a : Rn w r D last Y) {id : Int} (hno : ∀ e, e ∈ D → (e.n : Int) ≠ id) :
    Calls Try.prog 15 #[ptr r, .int .i64 id] w fun v w' => v = .returned (.tuple #[thV 0 0, .bool false]) ∧ Below w.heap.size w w' := by
  obtain ⟨s, rv, x, _⟩ := a
  have HB : Hid (Below w.heap.size w (bxT w)) := (Below.refl _ w).alloc (Nat.le_refl _) _
  have cA := rat_no (bxT w) r rv D last (x.below HB.out) id hno
  have hR := bxT_blk w
  have r0 := hR.cell (i := 0) rfl
  have r1 := hR.cell (i := 1) rfl
  have rf := hR.fz
  have HR2 := (hR.set 0 (.int .i8 0)).set 1 (.int .i64 0)
  have s0 := HR2.cell (i := 0) (v := .int .i8 0) rfl
  have s1 := HR2.cell (i := 1) (v := .int .i64 0) rfl
  clear hR HR2 x hno s
  obtain ⟨w1, hw1⟩ : ∃ w1, bxT w = w1 := ⟨_, rfl⟩
  rw [hw1] at cA HB r0 r1 rf s0 s1
  unfold bxT at hw1
  generalize hN : w.heap.size = M at *
  unfold thV
  go_enter Try.func15, Try.ntmps15
  go_wp2_with fail
  refine cA.mono ?_
  rintro v w2 ⟨rfl, hw2⟩
  subst hw2
  clear cA hw1
  go_wp2_with fail
  exact bodyPost_ret (v := .tuple #[thV 0 0, .bool false]) (by simp [results, Try.results15, go_sem, s0, s1]) rfl ⟨rfl, (HB.out.setCell (Nat.le_refl _) _).setCell (Nat.le_refl _) _⟩
set_option maxHeartbeats 1000000 in
theorem setR_no {w : World} {r : Nat} {D : List En} {last : Nat} {Y : Nat → Prop} (a : Rn w r D last Y) {id : Int} (k m : Int) (hno : ∀ e, e ∈ D → (e.n : Int) ≠ id) :
    Calls Try.prog 29 #[ptr r, .int .i64 id, thV k m] w fun v w' => v = .returned (.int .i64 90) ∧ Below w.heap.size w w' := by
  obtain ⟨s, rv, x, _⟩ := a
  have HB : Hid (Below w.heap.size w (w.alloc (.cells #[.int .i8 k, .int .i64 m] 27))) := (Below.refl _ w).alloc (Nat.le_refl _) _
  have cA := rat_no _ r rv D last (x.below HB.out) id hno
  clear x hno s
  unfold thV
  go_enter Try.func29, Try.ntmps29
  go_wp2_with fail
  refine cA.mono ?_
  rintro v w2 ⟨rfl, hw2⟩
  subst hw2
  go_wp2_with fail
  go_ret
  exact ⟨rfl, HB.out⟩
set_option maxHeartbeats 1000000 in
theorem dropR_no {w : World} {r : Nat} {D : List En} {last : Nat} {Y : Nat → Prop} (a : Rn w r D last Y) {id : Int} (hno : ∀ e, e ∈ D → (e.n : Int) ≠ id) :
    Calls Try.prog 30 #[ptr r, .int .i64 id] w fun v w' => v = .returned (.int .i64 90) ∧ w' = w := by
  obtain ⟨s, rv, x, _⟩ := a
  have cA := rat_no w r rv D last x id hno
  clear x hno s
  go_enter Try.func30, Try.ntmps30
  go_wp2_with fail
  refine cA.mono ?_
  rintro v w2 ⟨rfl, hw2⟩
  subst hw2
  go_wp2_with fail
  go_ret
  exact ⟨rfl, rfl⟩
end Go.Proofs.Ytafcgbahdfaiiaa
