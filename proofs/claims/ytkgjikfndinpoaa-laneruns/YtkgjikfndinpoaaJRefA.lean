/- The document's acts, in words of the lane. -/
import Derived.Test.YtkgjikfndinpoaaJRefM
import Derived.Test.YtkgjikfndinpoaaJRefP
import Derived.Test.YtkgjikfndinpoaaJRefT
import Derived.Test.YtkgjikfndinpoaaJRefE
import Derived.Test.YtkgjikfndinpoaaJRefN
import Derived.Test.YtkgjikfndinpoaaJRefC
import Derived.Test.YtkgjikfndinpoaaJRefR
namespace Go.Proofs.Ytkgjikfndinpoaa
open Go.RowKit Go.Sort
set_option maxRecDepth 100000

section
variable {A : La}
theorem set_C {i : Nat} (m : Ms) : A.T ++ (A.P ++ A.C.set i m) = A.L.set (cI A + i) m := by
  unfold La.L cI
  rw [List.set_append, if_neg (by omega), List.set_append, if_neg (by omega)]
  congr 3
  omega
theorem modify_set {l : List Ms} {i : Nat} {m : Ms} {f : Ms → Ms} (h : l[i]? = some m) : l.modify i f = l.set i (f m) := by
  apply List.ext_getElem?
  intro j
  rw [List.getElem?_modify, List.getElem?_set]
  have hl := (List.getElem?_eq_some_iff.1 h).1
  by_cases e : i = j
  · subst e
    rw [if_pos rfl, if_pos hl, h]
    simp
  · rw [if_neg e]
    cases l[j]? <;> simp [e]
theorem lay_L {q e n g : Int} (h : inC A q e = true) {m : Ms} (hm : A.C[atC A q]? = some m) : (layA A q e n g).L = A.L.set (cI A + atC A q) { m with laid := true, n := n, g := g } := by
  unfold layA
  rw [if_pos h]
  show A.T ++ (A.P ++ layL A.C (atC A q) n g) = _
  unfold layL
  rw [modify_set hm]
  exact set_C _
theorem pub_L {q e t s : Int} (h : lackE A q e = 0) {m : Ms} {C : List Ms} (hC : A.C = m :: C) : (pubA A q e t s).L = A.L.set (cI A) { m with is := 2, tk := t, sp := s } := by
  unfold pubA
  rw [if_pos h, hC]
  show A.T ++ ((A.P ++ [_]) ++ C) = _
  have := set_C (A := A) (i := 0) { m with is := 2, tk := t, sp := s }
  rw [Nat.add_zero] at this
  rw [← this, hC]
  simp
theorem take_L {m : Ms} {P : List Ms} (hP : A.P = m :: P) : (takeA A).L = A.L.set A.T.length { m with is := 3 } := by
  unfold takeA
  simp only [hP]
  unfold La.L
  simp only [hP]
  rw [List.set_append, if_neg (by omega)]
  simp
theorem ret_L1 {q e : Int} (h : e = A.ep ∧ takenB A q = true) (ht : A.two = false) {m : Ms} (hm : A.T[tkI A q]? = some m) : (retA A q e).L = A.L.set (tkI A q) { m with is := 4 } := by
  unfold retA
  rw [if_pos h, if_neg (by rw [ht]; simp)]
  show holdL A.T (tkI A q) ++ (A.P ++ A.C) = _
  unfold holdL La.L
  rw [modify_set hm, List.set_append, if_pos (List.getElem?_eq_some_iff.1 hm).1]
theorem ret_L2 {q e : Int} (h : e = A.ep ∧ takenB A q = true) (ht : A.two = true) {m : Ms} (hm : A.T[tkI A q]? = some m) : (retA A q e).L = A.L.take (tkI A q) ++ A.L.drop (tkI A q + 1) := by
  unfold retA
  rw [if_pos h, if_pos ht]
  show A.T.eraseIdx (tkI A q) ++ (A.P ++ A.C) = _
  have hl := (List.getElem?_eq_some_iff.1 hm).1
  rw [← List.eraseIdx_eq_take_drop_succ]
  unfold La.L
  rw [List.eraseIdx_append_of_lt_length hl]
theorem L_le (o : A.Ok) : A.L.length ≤ 64 := by
  have := o.room
  have := o.cr
  rw [La.L_len]
  omega
theorem ft_no (o : A.Ok) (h : A.P = []) : ftI A.L = -1 := by
  unfold ftI
  rw [if_neg]
  refine find_none fun j m hm => ?_
  unfold isP
  rcases L_is o hm with ⟨_, _, h2⟩ | ⟨i, _, _, _, h2⟩ | ⟨i, _, _, h2, _⟩
  · simp; omega
  · rw [h] at h2; simp at h2
  · simp; omega
theorem ft_ok (o : A.Ok) {m : Ms} {P : List Ms} (h : A.P = m :: P) : A.L[A.T.length]? = some m ∧ ftI A.L = ((A.T.length : Nat) : Int) := by
  have hP0 : A.P[0]? = some m := by rw [h]; rfl
  have hL : A.L[A.T.length]? = some m := by
    have := L_P (A := A) (i := 0) (by rw [h]; simp)
    rw [Nat.add_zero] at this
    exact this.trans hP0
  refine ⟨hL, ?_⟩
  have hf : A.L.findIdx isP = A.T.length := by
    refine find_at hL ?_ fun j m' hj h' => ?_
    · unfold isP
      simp [(o.kP 0 m hP0).2]
    · unfold isP
      rcases L_is o h' with ⟨_, _, h2⟩ | ⟨i, h2, _⟩ | ⟨i, h2, _⟩
      · simp; omega
      · omega
      · omega
  unfold ftI
  rw [hf, if_pos (List.getElem?_eq_some_iff.1 hL).1]
/-- how the messages are counted -/
theorem cnt_all (o : A.Ok) : cntN A.L 1 A.L.length = A.C.length ∧ cntN A.L 2 A.L.length = A.P.length ∧ cntN A.L 3 A.L.length = (A.T.filter is3).length ∧ cntO A.L A.L.length = (A.T.filter is4).length := by
  have all : ∀ (l : List Ms) (p : Ms → Bool), (∀ m ∈ l, p m = true) → l.countP p = l.length := fun l p h => List.countP_eq_length.2 h
  have non : ∀ (l : List Ms) (p : Ms → Bool), (∀ m ∈ l, p m = false) → l.countP p = 0 := fun l p h => List.countP_eq_zero.2 fun m hm => by simp [h m hm]
  have hT : ∀ m ∈ A.T, m.is = 3 ∨ m.is = 4 := fun m hm => (o.kT m hm).2
  have hP : ∀ m ∈ A.P, m.is = 2 := fun m hm => (o.mem_P hm).2.2
  have hC : ∀ m ∈ A.C, m.is = 1 := fun m hm => (o.mem_C hm).2.2
  unfold cntN cntO
  rw [List.take_length]
  unfold La.L
  simp only [List.countP_append]
  refine ⟨?_, ?_, ?_, ?_⟩
  · rw [non A.T _ fun m hm => by rcases hT m hm with h | h <;> simp [h], non A.P _ fun m hm => by simp [hP m hm], all A.C _ fun m hm => by simp [hC m hm]]
    omega
  · rw [non A.T _ fun m hm => by rcases hT m hm with h | h <;> simp [h], all A.P _ fun m hm => by simp [hP m hm], non A.C _ fun m hm => by simp [hC m hm]]
    omega
  · rw [non A.P _ fun m hm => by simp [hP m hm], non A.C _ fun m hm => by simp [hC m hm], List.countP_eq_length_filter]
    rfl
  · rw [non A.P _ fun m hm => by simp [hP m hm], non A.C _ fun m hm => by simp [hC m hm], List.countP_eq_length_filter]
    have : A.T.filter (fun m => !(m.is == 1 || m.is == 2 || m.is == 3)) = A.T.filter is4 := List.filter_congr fun m hm => by
      unfold is4
      rcases hT m hm with h | h <;> simp [h]
    rw [this]
    omega
end
/-- the document's lane behind r; none of the blocks X is its -/
def Rn (w : World) (r : Nat) (A : La) (X : Nat → Prop) : Prop := (∀ b, X b → b < w.heap.size) ∧ A.Ok ∧ ∃ rv, Rq w r rv A A.L ∧ ∀ b, X b → ¬ rhas r rv b
section
variable {w w' : World} {r : Nat} {A A' : La} {X : Nat → Prop} {f : FuncId} {args : Array Value} {R : Ending → World → Prop}
theorem Rn.ok (x : Rn w r A X) : A.Ok := x.2.1
theorem rliftR (x : Rn w r A X) (ok' : A'.Ok) (h : ∀ rv, Rq w r rv A A.L → Calls Try.prog f args w fun e w' => R e w' ∧ RGo w r rv w' A' A'.L) :
    Calls Try.prog f args w fun e w' => R e w' ∧ Rn w' r A' X ∧ But (Els X) w w' := by
  obtain ⟨hlt, _, rv, y, hX⟩ := x
  refine (h rv y).mono ?_
  rintro e w' ⟨he, rv', y', hb, hh⟩
  refine ⟨he, ⟨fun b hb' => Nat.lt_of_lt_of_le (hlt b hb') hb.size, ok', rv', y', fun b hb' ho => ?_⟩, hb.mono fun i hi hx => hX i hx (.inl hi)⟩
  rcases ho with ho | ho
  · exact hX b hb' (.inl ho)
  · rcases hh b ho with h1 | h1
    · exact hX b hb' (.inr h1)
    · have := hlt b hb'; omega
theorem rlift {v : Value} (x : Rn w r A X) (ok' : A'.Ok) (h : ∀ rv, Rq w r rv A A.L → Calls Try.prog f args w fun e w' => e = .returned v ∧ RGo w r rv w' A' A'.L) :
    Calls Try.prog f args w fun e w' => e = .returned v ∧ Rn w' r A' X ∧ But (Els X) w w' := rliftR (R := fun e _ => e = .returned v) x ok' h
theorem rliftB {v : Value} (x : Rn w r A X) (h : ∀ rv, Rq w r rv A A.L → Calls Try.prog f args w fun e w' => e = .returned v ∧ Below w.heap.size w w') :
    Calls Try.prog f args w fun e w' => e = .returned v ∧ Rn w' r A X ∧ But (Els X) w w' :=
  rlift x x.ok fun rv y => (h rv y).mono fun _ _ h' => ⟨h'.1, RGo.stay y h'.2⟩
theorem rgo_as {rv : Value} {A'' : La} {l' : List Ms} (h : RGo w r rv w' A l') (e : A''.cr = A.cr ∧ A''.two = A.two ∧ A''.st = A.st ∧ A''.c = A.c ∧ A''.ep = A.ep) (hl : A''.L = l') : RGo w r rv w' A'' A''.L := by
  obtain ⟨rv', y, hb, hh⟩ := h
  obtain ⟨e1, e2, e3, e4, e5⟩ := e
  refine ⟨rv', ⟨?_, ?_, y.ne⟩, hb, hh⟩
  · rw [e1, e2, e3, e4, e5]; exact y.bl
  · rw [e3, hl]; exact y.ow
theorem claimR (x : Rn w r A X) (hc : A.c < 1000000) : Calls Try.prog 20 #[pV r] w fun e w' => e = .returned (claimV A) ∧ Rn w' r (claimA A) X ∧ But (Els X) w w' := by
  have o := x.ok
  have hlen := L_le o
  unfold claimV
  cases hr : roomB A
  · have e : claimA A = A := by simp [claimA, hr]
    rw [e]
    simp only [Bool.false_eq_true, if_false]
    refine rlift x o fun rv y => rclaim_no y ?_
    rw [La.L_len]
    simp [roomB] at hr
    exact hr
  · simp only [if_true]
    refine rlift x (claimA_ok o hc) fun rv y => ?_
    have hL : (claimA A).L = A.L ++ [⟨A.c, 1, false, 0, 0, 0, 0⟩] := by unfold claimA; rw [if_pos hr]; simp [La.L]
    rw [hL]
    refine rclaim_ok y (by omega) (by rw [La.L_len]; simpa [roomB] using hr) _ ?_ _ rfl _ rfl
    unfold claimA
    rw [if_pos hr]
    exact ⟨rfl, rfl, rfl, rfl, rfl⟩
theorem layR (x : Rn w r A X) {q e n g : Int} (q0 : 0 ≤ q) (q1 : q < 18446744073709551616) : Calls Try.prog 21 #[pV r, tkV q e, slV n g] w fun v w' => v = .returned (.int .i64 (layE A q e)) ∧ Rn w' r (layA A q e n g) X ∧ But (Els X) w w' := by
  have o := x.ok
  have hlen := L_le o
  cases h : inC A q e
  · have e1 : layE A q e = 82 := by unfold layE; rw [h]; rfl
    have e2 : layA A q e n g = A := by unfold layA; rw [if_neg (by rw [h]; simp)]
    rw [e1, e2]
    exact rlift x o fun rv y => rlay_no y (by omega) q e n g (fd1_no o q0 q1 h)
  · have e1 : layE A q e = 0 := by unfold layE; rw [h]; rfl
    rw [e1]
    obtain ⟨m, hm, hmC, hf⟩ := fd1_in o q0 q1 h
    refine rlift x (layA_ok o q e n g) fun rv y => (rlay_ok y (by omega) q e n g _ m hm hf).mono fun _ _ h' => ⟨h'.1, rgo_as h'.2 ?_ (lay_L h hmC)⟩
    unfold layA
    rw [if_pos h]
    exact ⟨rfl, rfl, rfl, rfl, rfl⟩
theorem c_eq (o : A.Ok) {q e : Int} (q0 : 0 ≤ q) (q1 : q < 18446744073709551616) (h : inC A q e = true) : (cI A = cI A + atC A q) ↔ (q = sqI A.st A.r) := by
  have h1 := (inC_iff.1 h).2
  have hb := o.bd
  have h2 := sq_iff (s := A.st) (k := A.r) (by omega) q0 q1
  constructor
  · intro h3
    exact (h2.2 (by unfold atC at h3; omega)).symm
  · intro h3
    have := h2.1 h3.symm
    unfold atC
    omega
theorem lack_eq {q e : Int} (h : inC A q e = true) {m : Ms} (hm : A.C[atC A q]? = some m) : laidB A q e = m.laid := by
  unfold laidB
  rw [h, hm]
  rfl
theorem readyR (x : Rn w r A X) {q e : Int} (q0 : 0 ≤ q) (q1 : q < 18446744073709551616) : Calls Try.prog 22 #[pV r, tkV q e] w fun v w' => v = .returned (.bool (decide (lackE A q e = 0))) ∧ Rn w' r A X ∧ But (Els X) w w' := by
  have o := x.ok
  have hlen := L_le o
  cases h : inC A q e
  · have e1 : decide (lackE A q e = 0) = false := by
      have : laidB A q e = false := by unfold laidB; rw [h]; rfl
      unfold lackE
      rw [this]
      rfl
    rw [e1]
    exact rliftB x fun rv y => rready_no y (by omega) q e (fd1_no o q0 q1 h)
  · obtain ⟨m, hm, hmC, hf⟩ := fd1_in o q0 q1 h
    have hce := c_eq o q0 q1 h
    have e1 : decide (lackE A q e = 0) = (m.laid && decide (cI A = cI A + atC A q)) := by
      have hd : decide (cI A = cI A + atC A q) = decide (q = sqI A.st A.r) := by rw [decide_eq_decide]; exact hce
      unfold lackE
      rw [lack_eq h hmC, hd]
      cases m.laid
      · rfl
      · by_cases hq : q = sqI A.st A.r
        · simp [hq]
        · simp [hq]
    rw [e1]
    exact rliftB x fun rv y => rready_at y (by omega) q e _ m hm hf (cI A) (by omega) (c_before o) (c_here o)
theorem pubR (x : Rn w r A X) {q e t s : Int} (q0 : 0 ≤ q) (q1 : q < 18446744073709551616) : Calls Try.prog 23 #[pV r, tkV q e, smV t s] w fun v w' => v = .returned (.int .i64 (lackE A q e)) ∧ Rn w' r (pubA A q e t s) X ∧ But (Els X) w w' := by
  have o := x.ok
  have hlen := L_le o
  cases h : inC A q e
  · have e1 : lackE A q e = 82 := by
      have : laidB A q e = false := by unfold laidB; rw [h]; rfl
      unfold lackE
      rw [this]
      rfl
    have e2 : pubA A q e t s = A := by unfold pubA; rw [if_neg (by rw [e1]; decide)]
    rw [e1, e2]
    exact rlift x o fun rv y => rpub_no y (by omega) q e t s (fd1_no o q0 q1 h)
  · obtain ⟨m, hm, hmC, hf⟩ := fd1_in o q0 q1 h
    have hce := c_eq o q0 q1 h
    have e1 : lackE A q e = if m.laid then (if cI A = cI A + atC A q then 0 else 83) else 82 := by
      unfold lackE
      rw [lack_eq h hmC]
      simp only [hce]
    rw [e1]
    refine rlift x (pubA_ok o q e t s) fun rv y => (rpub_at y (by omega) q e t s _ m hm hf (cI A) (by omega) (c_before o) (c_here o)).mono fun _ _ h' => ⟨h'.1, ?_⟩
    have h9 := h'.2
    by_cases hz : m.laid = true ∧ cI A = cI A + atC A q
    · rw [if_pos hz] at h9
      have h0 : atC A q = 0 := by omega
      rw [h0] at hmC h9
      have hC : ∃ C, A.C = m :: C := by
        cases hh : A.C with
        | nil => rw [hh] at hmC; simp at hmC
        | cons a C => rw [hh] at hmC; simp at hmC; exact ⟨C, by rw [hmC]⟩
      obtain ⟨C, hC⟩ := hC
      have hl0 : lackE A q e = 0 := by rw [e1, if_pos hz.1, if_pos hz.2]
      refine rgo_as h9 ?_ (by rw [pub_L hl0 hC, Nat.add_zero])
      unfold pubA
      rw [if_pos hl0, hC]
      exact ⟨rfl, rfl, rfl, rfl, rfl⟩
    · rw [if_neg hz] at h9
      have hl0 : ¬ lackE A q e = 0 := by
        rw [e1]
        intro hh
        apply hz
        cases hml : m.laid
        · rw [hml] at hh; simp at hh
        · rw [hml] at hh
          refine ⟨rfl, ?_⟩
          by_cases h5 : cI A = cI A + atC A q
          · exact h5
          · rw [if_pos rfl, if_neg h5] at hh; simp at hh
      have e2 : pubA A q e t s = A := by unfold pubA; rw [if_neg hl0]
      rw [e2]
      exact h9
theorem firstR (x : Rn w r A X) : Calls Try.prog 25 #[pV r] w fun v w' => v = .returned (firstV A) ∧ Rn w' r A X ∧ But (Els X) w w' := by
  have o := x.ok
  have hlen := L_le o
  unfold firstV
  cases hP : A.P with
  | nil => exact rliftB x fun rv y => rFirst_no y (by omega) (ft_no o hP)
  | cons m P =>
    obtain ⟨h1, h2⟩ := ft_ok o hP
    exact rliftB x fun rv y => rFirst_ok y (by omega) _ m h1 h2
theorem takeR (x : Rn w r A X) : Calls Try.prog 26 #[pV r] w fun v w' => v = .returned (takeV A) ∧ Rn w' r (takeA A) X ∧ But (Els X) w w' := by
  have o := x.ok
  have hlen := L_le o
  unfold takeV
  cases hP : A.P with
  | nil =>
    have e : takeA A = A := by unfold takeA; rw [hP]
    rw [e]
    exact rlift x o fun rv y => rtake_no y (by omega) (ft_no o hP)
  | cons m P =>
    obtain ⟨h1, h2⟩ := ft_ok o hP
    refine rlift x (takeA_ok o) fun rv y => (rtake_ok y (by omega) _ m h1 h2).mono fun _ _ h' => ⟨h'.1, rgo_as h'.2 ?_ (take_L hP)⟩
    unfold takeA
    rw [hP]
    exact ⟨rfl, rfl, rfl, rfl, rfl⟩
theorem retR (x : Rn w r A X) {q e : Int} (q0 : 0 ≤ q) (q1 : q < 18446744073709551616) :
    Calls Try.prog 27 #[pV r, tkV q e] w fun v w' => v = .returned (.tuple #[slV (retS A q e).1 (retS A q e).2, .bool (retB A q e), .int .i64 (retE A q e)]) ∧ Rn w' r (retA A q e) X ∧ But (Els X) w w' := by
  have o := x.ok
  have hlen := L_le o
  by_cases he : e = A.ep
  · refine rlift x (retA_ok o q e) fun rv y => ?_
    cases ht : takenB A q
    · have hf := fd3_no (e := e) o q0 q1 ht
      have e1 : retS A q e = (0, 0) := by unfold retS; rw [if_neg (by rw [ht]; simp)]
      have e2 : retB A q e = false := by unfold retB; rw [ht]; simp
      have e3 : retE A q e = 82 := by unfold retE; rw [if_pos he, ht]; simp
      have e4 : retA A q e = A := by unfold retA; rw [if_neg (by rw [ht]; simp)]
      rw [e1, e2, e3, e4]
      refine rret_at y (by omega) q e he _ _ _ _ _ (fun _ => ⟨rfl, rfl, rfl, rfl, rfl⟩) (fun i m h => ?_) (fun i m h => ?_) (.inl hf)
      · rw [hf] at h; omega
      · rw [hf] at h; omega
    · obtain ⟨m, hm, hmT, hlt, hf⟩ := fd3_in o q0 q1 he ht
      have e3 : retE A q e = 0 := by unfold retE; rw [if_pos he, ht]; simp
      have same : (retA A q e).cr = A.cr ∧ (retA A q e).two = A.two ∧ (retA A q e).st = A.st ∧ (retA A q e).c = A.c ∧ (retA A q e).ep = A.ep := by
        unfold retA
        split
        · split <;> exact ⟨rfl, rfl, rfl, rfl, rfl⟩
        · exact ⟨rfl, rfl, rfl, rfl, rfl⟩
      rw [e3]
      refine (rret_at y (by omega) q e he _ _ _ _ (retA A q e).L (fun h => ?_) (fun i m' h hm' htw => ?_) (fun i m' h hm' htw => ?_) (.inr ⟨_, m, hf, hm⟩)).mono fun _ _ h' => ⟨h'.1, rgo_as h'.2 same rfl⟩
      · rw [hf] at h; omega
      · rw [hf] at h
        obtain rfl : tkI A q = i := by omega
        rw [hm] at hm'
        cases hm'
        have e1 : retS A q e = (m.n, m.g) := by unfold retS; rw [if_pos ⟨he, ht, htw⟩, hmT]; rfl
        rw [e1]
        exact ⟨rfl, rfl, by unfold retB; rw [ht, htw, he]; simp, rfl, ret_L2 ⟨he, ht⟩ htw hmT⟩
      · rw [hf] at h
        obtain rfl : tkI A q = i := by omega
        rw [hm] at hm'
        cases hm'
        have e1 : retS A q e = (0, 0) := by unfold retS; rw [if_neg (by rw [htw]; simp)]
        rw [e1]
        exact ⟨rfl, rfl, by unfold retB; rw [ht, htw, he]; simp, rfl, ret_L1 ⟨he, ht⟩ htw hmT⟩
  · have e1 : retS A q e = (0, 0) := by unfold retS; rw [if_neg (by rintro ⟨h, _⟩; exact he h)]
    have e2 : retB A q e = false := by unfold retB; simp [he]
    have e3 : retE A q e = 0 := by unfold retE; rw [if_neg he]
    have e4 : retA A q e = A := by unfold retA; rw [if_neg (by rintro ⟨h, _⟩; exact he h)]
    rw [e1, e2, e3, e4]
    exact rlift x o fun rv y => rret_other y q e he
theorem resetR (x : Rn w r A X) : Calls Try.prog 28 #[pV r] w fun e w' => (∃ v, e = .returned (.tuple #[v, .int .i64 (resE A)]) ∧ SlN w.heap.size w' v (resL A)) ∧ Rn w' r (resA A) X ∧ But (Els X) w w' := by
  have o := x.ok
  have hlen := L_le o
  have hcl : cI A + A.C.length = A.L.length := by rw [La.L_len]; unfold cI La.len; omega
  refine rliftR (R := fun e w' => ∃ v, e = .returned (.tuple #[v, .int .i64 (resE A)]) ∧ SlN w.heap.size w' v (resL A)) x (resA_ok o) fun rv y => ?_
  by_cases hC : A.C.length = 0
  · have hC' := List.eq_nil_of_length_eq_zero hC
    have e1 : resE A = 0 := by unfold resE; rw [if_pos hC]
    have e2 : resL A = slotsL A.L := by unfold resL La.L; rw [if_pos hC, hC', List.append_nil]
    have e3 : (resA A).L = [] := by unfold resA; rw [if_pos hC]; simp [La.L, hC']
    rw [e1, e2]
    refine (rreset y (by omega) (cI A) (by omega) (c_before o) (c_here o) 0 { A with ep := (A.ep + 1) % 18446744073709551616 } [] (slotsL A.L) (fun h => ?_) (fun _ => ⟨rfl, rfl, rfl, rfl⟩)).mono fun _ _ h' => ⟨h'.1, rgo_as h'.2 ?_ e3⟩
    · omega
    · unfold resA
      rw [if_pos hC]
      exact ⟨rfl, rfl, rfl, rfl, rfl⟩
  · refine rreset y (by omega) (cI A) (by omega) (c_before o) (c_here o) _ _ _ _ (fun _ => ?_) (fun h => ?_)
    · unfold resE resA resL
      rw [if_neg hC, if_neg hC, if_neg hC]
      exact ⟨rfl, rfl, rfl, rfl⟩
    · omega
theorem stateR (x : Rn w r A X) : Calls Try.prog 11 #[pV r] w fun v w' => v = .returned (staV A) ∧ Rn w' r A X ∧ But (Els X) w w' := by
  have o := x.ok
  have hlen := L_le o
  have hcr := o.cr
  obtain ⟨c1, c2, c3, c4⟩ := cnt_all o
  refine rliftB x fun rv y => (rstate y (by omega) (by omega)).mono fun _ _ h' => ⟨h'.1.trans ?_, h'.2⟩
  unfold staV leftI
  rw [c1, c2, c3, c4, La.L_len]
end
end Go.Proofs.Ytkgjikfndinpoaa
