/- What LaneQueue keeps: the tickets out, in their order, and their slots; a lane beside two rows. -/
import Derived.Test.YtmdoiokgfdolpaaJWin
import Derived.Test.YtmdoiokgfdolpaaJOut
namespace Go.Proofs.Ytmdoiokgfdolpaa
open Go.RowKit Go.Sort
set_option maxRecDepth 100000

def qT (A : La) : List (Int × Int) := (A.P ++ A.C).map fun m => (sqI A.st m.k, A.ep)
def qS (A : La) : List (Int × Int) := (A.P ++ A.C).map fun m => (m.n, m.g)
section
variable {A : La}
theorem qT_len : (qT A).length = A.P.length + A.C.length := by simp [qT]
theorem qS_len : (qS A).length = A.P.length + A.C.length := by simp [qS]
theorem q_claim (h : roomB A = true) : qT (claimA A) = qT A ++ [(sqI A.st A.c, A.ep)] ∧ qS (claimA A) = qS A ++ [(0, 0)] := by
  unfold claimA
  rw [if_pos h]
  exact ⟨by simp [qT], by simp [qS]⟩
theorem q_pub (q e t s : Int) : qT (pubA A q e t s) = qT A ∧ qS (pubA A q e t s) = qS A := by
  unfold pubA
  split
  · cases hC : A.C with
    | nil => exact ⟨rfl, rfl⟩
    | cons m C => exact ⟨by simp [qT, hC], by simp [qS, hC]⟩
  · exact ⟨rfl, rfl⟩
theorem q_ret (q e : Int) : qT (retA A q e) = qT A ∧ qS (retA A q e) = qS A := by
  unfold retA
  split
  · split <;> exact ⟨rfl, rfl⟩
  · exact ⟨rfl, rfl⟩
theorem q_take {m : Ms} {P : List Ms} (h : A.P = m :: P) : qT A = (sqI A.st m.k, A.ep) :: qT (takeA A) ∧ qS A = (m.n, m.g) :: qS (takeA A) := by
  unfold takeA
  simp only [h]
  exact ⟨by simp [qT, h], by simp [qS, h]⟩
theorem q_res (h : resE A = 0) : qT (resA A) = [] ∧ qS (resA A) = [] := by
  have hC : A.C.length = 0 := by
    unfold resE at h
    split at h
    · assumption
    · simp at h
  have hC' := List.eq_nil_of_length_eq_zero hC
  unfold resA
  rw [if_pos hC]
  exact ⟨by simp [qT, hC'], by simp [qS, hC']⟩
theorem q_res_no (h : ¬ resE A = 0) : resA A = A := by
  unfold resE at h
  unfold resA
  split at h
  · simp at h
  · rename_i h'; rw [if_neg h']
/-- where a ticket stands among those out -/
def qJ (A : La) (q : Int) : Nat := A.P.length + atC A q
theorem q_k (o : A.Ok) {j : Nat} {m : Ms} (h : (A.P ++ A.C)[j]? = some m) : m.k = A.h + j := by
  have h2 := o.hr
  by_cases hj : j < A.P.length
  · rw [List.getElem?_append_left hj] at h
    exact (o.kP j m h).1
  · rw [List.getElem?_append_right (by omega)] at h
    have := (o.kC _ m h).1
    omega
theorem q_at (o : A.Ok) {q e : Int} (q0 : 0 ≤ q) (q1 : q < 18446744073709551616) (h : inC A q e = true) {j : Nat} {u : Int × Int} (hu : (qT A)[j]? = some u) : (u.1 = q ∧ u.2 = e) ↔ j = qJ A q := by
  obtain ⟨he, h1, h2⟩ := inC_iff.1 h
  have h3 := o.hr
  have hb := o.bd
  unfold qT at hu
  rw [List.getElem?_map] at hu
  cases hm : (A.P ++ A.C)[j]? with
  | none => rw [hm] at hu; simp at hu
  | some m =>
    rw [hm] at hu
    simp at hu
    subst hu
    have hk := q_k o hm
    have hl := (List.getElem?_eq_some_iff.1 hm).1
    rw [List.length_append] at hl
    rw [sq_iff (by omega) q0 q1, hk, he]
    unfold qJ atC
    omega
theorem qJ_lt (o : A.Ok) {q e : Int} (h : inC A q e = true) : qJ A q < (qS A).length := by
  obtain ⟨m, _, _, h3⟩ := inC_at o h
  rw [qS_len]
  unfold qJ
  omega
theorem map_modify_set (C : List Ms) (j : Nat) (n g : Int) : ((layL C j n g).map fun m => (m.n, m.g)) = (C.map fun m => (m.n, m.g)).set j (n, g) := by
  unfold layL
  apply List.ext_getElem?
  intro i
  rw [List.getElem?_map, List.getElem?_modify, List.getElem?_set, List.getElem?_map]
  by_cases h : j = i
  · subst h
    cases hc : C[j]? with
    | none =>
      have := List.getElem?_eq_none_iff.1 hc
      simp
      omega
    | some m =>
      have := (List.getElem?_eq_some_iff.1 hc).1
      simp [this]
  · cases hc : C[i]? <;> simp [h]
theorem map_modify_k (C : List Ms) (j : Nat) (n g s e : Int) : ((layL C j n g).map fun m => (sqI s m.k, e)) = C.map fun m => (sqI s m.k, e) := by
  unfold layL
  apply List.ext_getElem?
  intro i
  rw [List.getElem?_map, List.getElem?_modify, List.getElem?_map]
  cases hc : C[i]? with
  | none => rfl
  | some m => by_cases h : j = i <;> simp [h]
theorem q_lay {q e n g : Int} (h : inC A q e = true) : qT (layA A q e n g) = qT A ∧ qS (layA A q e n g) = (qS A).set (qJ A q) (n, g) := by
  unfold layA
  rw [if_pos h]
  refine ⟨?_, ?_⟩
  · unfold qT
    simp only [List.map_append, map_modify_k]
  · unfold qS qJ
    simp only [List.map_append, map_modify_set]
    rw [List.set_append]
    simp
    intro h
    omega
theorem q_lay_no {q e n g : Int} (h : inC A q e = false) : layA A q e n g = A := by
  unfold layA
  rw [if_neg (by rw [h]; simp)]
end
theorem encP_app (l k : List (Int × Int)) : encP (l ++ k) = encP l ++ encP k := by simp [encP]
theorem encP_len (l : List (Int × Int)) : (encP l).length = l.length * 2 := by
  induction l with
  | nil => rfl
  | cons m l ih => simp [encP] at ih ⊢; omega
theorem encP_at : ∀ {l : List (Int × Int)} {j : Nat} {u : Int × Int}, l[j]? = some u → (encP l)[j * 2]? = some (.int .i64 u.1) ∧ (encP l)[j * 2 + 1]? = some (.int .u64 u.2)
  | x :: l, 0, u, h => by
    cases h
    exact ⟨rfl, rfl⟩
  | x :: l, j + 1, u, h => by
    obtain ⟨h1, h2⟩ := encP_at (l := l) (j := j) (u := u) h
    have e : encP (x :: l) = .int .i64 x.1 :: .int .u64 x.2 :: encP l := rfl
    rw [e, show (j + 1) * 2 = j * 2 + 1 + 1 by omega, List.getElem?_cons_succ, List.getElem?_cons_succ, show j * 2 + 1 + 1 + 1 = (j * 2 + 1) + 1 + 1 by omega, List.getElem?_cons_succ, List.getElem?_cons_succ]
    exact ⟨h1, h2⟩

/-- a ticket of a window -/
theorem win_tk {base n : Nat} {w : World} {v : Value} {l : List (Int × Int)} (h : Win base w 2 v n (encK l)) {j : Nat} {u : Int × Int} (hj : l[j]? = some u) :
    ∃ b off cap, v = .slice (some ⟨b, off, none⟩) n cap ∧ n ≤ cap ∧ cap ≤ maxLen ∧ w.cell? ⟨b, off + j * 2, none⟩ = some (.int .u64 u.1) ∧ w.cell? ⟨b, off + j * 2 + 1, none⟩ = some (.int .u64 u.2) := by
  obtain ⟨h0, ao, cap, rfl, hc1, hc2, _, hcell⟩ := h
  have hl := (List.getElem?_eq_some_iff.1 hj).1
  rw [encK_len] at h0
  obtain ⟨b, off, rfl, h5, _⟩ := hcell (by omega)
  obtain ⟨e1, e2⟩ := encK_at hj
  exact ⟨b, off, cap, rfl, hc1, hc2, h5 _ _ e1, by rw [Nat.add_assoc]; exact h5 _ _ e2⟩
theorem win_sl {base n : Nat} {w : World} {v : Value} {l : List (Int × Int)} (h : Win base w 2 v n (encP l)) {j : Nat} {u : Int × Int} (hj : l[j]? = some u) :
    ∃ b off cap, v = .slice (some ⟨b, off, none⟩) n cap ∧ n ≤ cap ∧ cap ≤ maxLen ∧ base ≤ b ∧ w.cell? ⟨b, off + j * 2, none⟩ = some (.int .i64 u.1) ∧ w.cell? ⟨b, off + j * 2 + 1, none⟩ = some (.int .u64 u.2) ∧ w.frozen? ⟨b, off + j * 2, none⟩ = false ∧ w.frozen? ⟨b, off + j * 2 + 1, none⟩ = false := by
  obtain ⟨h0, ao, cap, rfl, hc1, hc2, hb, hcell⟩ := h
  have hl := (List.getElem?_eq_some_iff.1 hj).1
  rw [encP_len] at h0
  obtain ⟨b, off, rfl, h5, h6⟩ := hcell (by omega)
  obtain ⟨e1, e2⟩ := encP_at hj
  exact ⟨b, off, cap, rfl, hc1, hc2, (hb b rfl).1, h5 _ _ e1, by rw [Nat.add_assoc]; exact h5 _ _ e2, (h6 (j * 2) (by omega)).2, by rw [Nat.add_assoc]; exact (h6 (j * 2 + 1) (by omega)).2⟩
theorem encP_set {l : List (Int × Int)} {k : Nat} {x y : Int} (hk : k < l.length) : encP (l.set k (x, y)) = ((encP l).set (k * 2) (.int .i64 x)).set (k * 2 + 1) (.int .u64 y) := by
  induction l generalizing k with
  | nil => simp at hk
  | cons a l ih =>
    have e : ∀ (z : Int × Int) (m : List (Int × Int)), encP (z :: m) = .int .i64 z.1 :: .int .u64 z.2 :: encP m := fun _ _ => rfl
    cases k with
    | zero => rw [List.set_cons_zero, e, e]; rfl
    | succ k =>
      rw [List.set_cons_succ, e, e, ih (by simpa using hk), show (k + 1) * 2 = k * 2 + 1 + 1 by omega, List.set_cons_succ, List.set_cons_succ, List.set_cons_succ, List.set_cons_succ]
/-- a slot is written -/
theorem Win.put {base n b off cap : Nat} {w : World} {l : List (Int × Int)} (h : Win base w 2 (.slice (some ⟨b, off, none⟩) n cap) n (encP l)) {k : Nat} {x y : Int} (hk : k < l.length) :
    Win base ((w.setCell ⟨b, off + k * 2, none⟩ (.int .i64 x)).setCell ⟨b, off + k * 2 + 1, none⟩ (.int .u64 y)) 2 (.slice (some ⟨b, off, none⟩) n cap) n (encP (l.set k (x, y))) := by
  obtain ⟨h0, ao, cap', e, hc1, hc2, hb, hcell⟩ := h
  injection e with e1 _ e2
  subst e1 e2
  rw [encP_len] at h0
  have one : ∀ {w : World} {xs : List Value} (i : Nat) (u : Value), (∀ j u, xs[j]? = some u → w.cell? ⟨b, off + j, none⟩ = some u) → (∀ j u', (xs.set i u)[j]? = some u' → (w.setCell ⟨b, off + i, none⟩ u).cell? ⟨b, off + j, none⟩ = some u') := fun {w xs} i u hx j u' hu => by
    rw [List.getElem?_set] at hu
    by_cases hi : i = j
    · subst hi
      rw [if_pos rfl] at hu
      split at hu
      · rename_i hl
        cases hu
        exact World.cell?_setCell_same _ _ _ (hx i _ (List.getElem?_eq_getElem hl))
      · cases hu
    · rw [if_neg hi] at hu
      rw [World.cell?_setCell_other _ _ _ _ (by intro h; injection h with _ h2 _; omega)]
      exact hx j u' hu
  have some1 : ∀ {w : World} {a : Addr} (u : Value) (j : Nat), (w.cell? ⟨b, off + j, none⟩).isSome = true → ((w.setCell a u).cell? ⟨b, off + j, none⟩).isSome = true := fun {w a} u j hs => by
    obtain ⟨y, hy⟩ := Option.isSome_iff_exists.1 hs
    by_cases ha : a = ⟨b, off + j, none⟩
    · subst ha
      rw [World.cell?_setCell_same _ _ _ hy]
      rfl
    · rw [World.cell?_setCell_other _ _ _ _ ha]
      exact hs
  refine ⟨by rw [encP_len, List.length_set]; exact h0, _, _, rfl, hc1, hc2, fun b' e => by simpa [World.setCell] using hb b' e, fun hc => ?_⟩
  obtain ⟨b', off', e, h5, h6⟩ := hcell hc
  injection e with e
  injection e with e1 e2 _
  subst e1 e2
  refine ⟨b, off, rfl, ?_, fun j hj => ⟨some1 _ _ (some1 _ _ (h6 j hj).1), by rw [World.frozen?_setCell, World.frozen?_setCell]; exact (h6 j hj).2⟩⟩
  rw [encP_set hk, Nat.add_assoc off (k * 2) 1]
  exact one _ _ (one _ _ h5)

/-- blocks that are not the lane's -/
def X2 (w : World) (v1 v2 : Value) (b : Nat) : Prop := b < w.heap.size ∨ v1.ownBlock = some b ∨ v2.ownBlock = some b
/-- a lane beside its two rows -/
structure Sq (w wr : World) (p : Nat) (A : La) (v1 v2 : Value) (us ss : List (Int × Int)) : Prop where
  ln : Ln wr p A (X2 w v1 v2)
  o1 : Win w.heap.size wr 2 v1 us.length (encK us)
  o2 : Win w.heap.size wr 2 v2 ss.length (encP ss)
  ap : ∀ b, v1.ownBlock = some b → ¬ v2.ownBlock = some b
  bel : Below w.heap.size w wr
section
variable {w wr w' : World} {p : Nat} {A A' : La} {v1 v2 v' : Value} {us ss us' ss' : List (Int × Int)}
theorem Sq.step (s : Sq w wr p A v1 v2 us ss) (l : Ln w' p A' (X2 w v1 v2)) (b : But (Els (X2 w v1 v2)) wr w') : Sq w w' p A' v1 v2 us ss :=
  ⟨l, s.o1.but b fun _ e h => h (.inr (.inl e)), s.o2.but b fun _ e h => h (.inr (.inr e)), s.ap, els_base s.bel b fun _ h => .inl h⟩
theorem Sq.below (s : Sq w wr p A v1 v2 us ss) (h : Below wr.heap.size wr w') : Sq w w' p A v1 v2 us ss :=
  ⟨s.ln.below h, s.o1.below h, s.o2.below h, s.ap, Below.onto s.bel h⟩
theorem Sq.alloc (s : Sq w wr p A v1 v2 us ss) (z : Obj) : Sq w (wr.alloc z) p A v1 v2 us ss := s.below (jalloc (Below.refl _ _) z)
theorem Sq.turn (s : Sq w wr p A v1 v2 us ss) : Ln wr p A (X2 w v2 v1) := s.ln.less fun b hb => by
  rcases hb with hb | hb | hb
  · exact .inl hb
  · exact .inr (.inr hb)
  · exact .inr (.inl hb)
theorem ln_app {base : Nat} {x : List Value} {n size : Nat} (l : Ln wr p A (X2 w v1 v2)) (o : Win base w' size v' n x) (g : wr.grownBy w' v1.ownBlock) (hl : v'.ownBlock = v1.ownBlock ∨ ∀ b, v'.ownBlock = some b → wr.heap.size ≤ b) : Ln w' p A (X2 w v' v2) := by
  have hb : But (fun b => v1.ownBlock = some b) wr w' := ⟨g.os, g.tape, g.output, g.size, fun k hk hne => g.block k hk (fun e => hne e.symm)⟩
  obtain ⟨h1, o1, hp, x, hX⟩ := l
  refine ⟨fun b hx => ?_, o1, hp, x.but hb (fun b ho hs => hX b (.inr (.inl hs)) ho), fun b hx ho => ?_⟩
  · rcases hx with hx | hx | hx
    · exact Nat.lt_of_lt_of_le (h1 b (.inl hx)) hb.size
    · exact (o.blk hx).2
    · exact Nat.lt_of_lt_of_le (h1 b (.inr (.inr hx))) hb.size
  · rcases hx with hx | hx | hx
    · exact hX b (.inl hx) ho
    · rcases hl with hl | hl
      · exact hX b (.inr (.inl (hl ▸ hx))) ho
      · have h9 := x.lt ho
        have := hl b hx
        omega
    · exact hX b (.inr (.inr hx)) ho
theorem Sq.app1 (s : Sq w wr p A v1 v2 us ss) (o : Win w.heap.size w' 2 v' us'.length (encK us')) (g : wr.grownBy w' v1.ownBlock) (hl : v'.ownBlock = v1.ownBlock ∨ ∀ b, v'.ownBlock = some b → wr.heap.size ≤ b) : Sq w w' p A v' v2 us' ss := by
  refine ⟨ln_app s.ln o g hl, o, s.o2.same g.size fun b e => g.block b (s.o2.blk e).2 (fun h => s.ap b h.symm e), fun b e h => ?_, s.bel.grown g s.bel.size (fun k e => (s.o1.blk e).1)⟩
  rcases hl with hl | hl
  · exact s.ap b (hl ▸ e) h
  · have := hl b e
    have := (s.o2.blk h).2
    omega
theorem Sq.app2 (s : Sq w wr p A v1 v2 us ss) (o : Win w.heap.size w' 2 v' ss'.length (encP ss')) (g : wr.grownBy w' v2.ownBlock) (hl : v'.ownBlock = v2.ownBlock ∨ ∀ b, v'.ownBlock = some b → wr.heap.size ≤ b) : Sq w w' p A v1 v' us ss' := by
  refine ⟨(ln_app s.turn o g hl).less fun b hb => ?_, s.o1.same g.size fun b e => g.block b (s.o1.blk e).2 (fun h => s.ap b e h.symm), o, fun b e h => ?_, s.bel.grown g s.bel.size (fun k e => (s.o2.blk e).1)⟩
  · rcases hb with hb | hb | hb
    · exact .inl hb
    · exact .inr (.inr hb)
    · exact .inr (.inl hb)
  · rcases hl with hl | hl
    · exact s.ap b e (hl ▸ h)
    · have := hl b h
      have := (s.o1.blk e).2
      omega
theorem Sq.start (l : Ln wr p A (fun b => b < w.heap.size)) (h : Below w.heap.size w wr) : Sq w wr p A (.slice none 0 0) (.slice none 0 0) [] [] :=
  ⟨l.less fun b hb => by
    rcases hb with hb | hb | hb
    · exact hb
    · simp [Value.ownBlock] at hb
    · simp [Value.ownBlock] at hb, win_nil, win_nil, fun b e => by simp [Value.ownBlock] at e, h⟩
theorem Sq.tail {a1 a2 : Option Addr} {n c1 c2 : Nat} {u x : Int × Int} (s : Sq w wr p A (.slice a1 n c1) (.slice a2 n c2) (u :: us) (x :: ss)) :
    Sq w wr p A (.slice (if c1 = 1 then a1 else a1.map (·.add 2)) (n - 1) (c1 - 1)) (.slice (if c2 = 1 then a2 else a2.map (·.add 2)) (n - 1) (c2 - 1)) us ss := by
  obtain ⟨h1, h2, h3, h4, h5⟩ := s
  obtain ⟨_, _, e1, _⟩ := h2.form
  obtain ⟨_, _, e2, _⟩ := h3.form
  injection e1 with _ e1 _
  injection e2 with _ e2 _
  subst e1
  have h2' : Win w.heap.size wr 2 (.slice a1 (us.length + 1) c1) (us.length + 1) ([.int .u64 u.1, .int .u64 u.2] ++ encK us) := h2
  have h3' : Win w.heap.size wr 2 (.slice a2 (ss.length + 1) c2) (ss.length + 1) ([.int .i64 x.1, .int .u64 x.2] ++ encP ss) := by
    have : (u :: us).length = ss.length + 1 := e2
    rw [this] at h3
    exact h3
  have el : us.length = ss.length := by simpa using e2
  have t1 := h2'.tail rfl
  have t2 := h3'.tail rfl
  refine ⟨h1.less fun b hb => ?_, t1, by rw [show (u :: us).length - 1 = ss.length by simp [el]]; exact t2, fun b e h => ?_, h5⟩
  · rcases hb with hb | hb | hb
    · exact .inl hb
    · exact .inr (.inl (by rw [← tail_block (size := 2) (m := (u :: us).length - 1)]; exact hb))
    · exact .inr (.inr (by rw [← tail_block (size := 2) (m := (u :: us).length - 1)]; exact hb))
  · rw [tail_block (k := (u :: us).length)] at e h
    exact h4 b e h
theorem Sq.put {b off n cap : Nat} (s : Sq w wr p A v1 (.slice (some ⟨b, off, none⟩) n cap) us ss) {k : Nat} {x y : Int} (hk : k < ss.length) :
    Sq w ((wr.setCell ⟨b, off + k * 2, none⟩ (.int .i64 x)).setCell ⟨b, off + k * 2 + 1, none⟩ (.int .u64 y)) p A v1 (.slice (some ⟨b, off, none⟩) n cap) us (ss.set k (x, y)) := by
  obtain ⟨h1, h2, h3, h4, h5⟩ := s
  obtain ⟨_, _, e2, _⟩ := h3.form
  injection e2 with _ e2 _
  subst e2
  have hbb := h3.blk (b := b) rfl
  have hbut : But (fun i => i = b) wr ((wr.setCell ⟨b, off + k * 2, none⟩ (.int .i64 x)).setCell ⟨b, off + k * 2 + 1, none⟩ (.int .u64 y)) :=
    ⟨rfl, rfl, rfl, by simp [World.setCell], fun i hi hne => by rw [Below.heap_setCell _ _ _ _ hne, Below.heap_setCell _ _ _ _ hne]⟩
  refine ⟨h1.but hbut fun i e => .inr (.inr (by rw [e]; rfl)), h2.but hbut fun i e h => h4 i e (by rw [h]; rfl), by rw [List.length_set]; exact h3.put hk, h4, (h5.setCell hbb.1 _).setCell hbb.1 _⟩
end
end Go.Proofs.Ytmdoiokgfdolpaa
