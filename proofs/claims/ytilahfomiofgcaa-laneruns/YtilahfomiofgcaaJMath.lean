/- Lanes as plain data: messages by how far they are from the start. -/
import Derived.Test.YtilahfomiofgcaaOLeaf
namespace Go.Proofs.Ytilahfomiofgcaa

/-- a message: how far from the start, what it is (1 claimed, 2 published, 3 taken, 4 held), has it a slot, its slot, its stamp -/
structure Ms where
  k : Nat
  is : Nat
  laid : Bool
  n : Int
  g : Int
  tk : Int
  sp : Int
/-- a lane: taken and held ones, published ones, claimed ones -/
structure La where
  cr : Nat
  two : Bool
  st : Int
  ep : Int
  c : Nat
  T : List Ms
  P : List Ms
  C : List Ms
def La.r (A : La) : Nat := A.c - A.C.length
def La.h (A : La) : Nat := A.c - A.C.length - A.P.length
def La.len (A : La) : Nat := A.T.length + A.P.length + A.C.length
def La.L (A : La) : List Ms := A.T ++ (A.P ++ A.C)
/-- the number of a message -/
def sqI (s : Int) (k : Nat) : Int := (s + (k : Int)) % 18446744073709551616
/-- how far a number is from the start -/
def dqN (s q : Int) : Nat := ((q - s) % 18446744073709551616).toNat

theorem sqI_0 (s : Int) (k : Nat) : 0 ≤ sqI s k := by unfold sqI; omega
theorem sqI_1 (s : Int) (k : Nat) : sqI s k < 18446744073709551616 := by unfold sqI; omega
theorem sqI_succ (s : Int) (k : Nat) : (sqI s k + 1) % 18446744073709551616 = sqI s (k + 1) := by unfold sqI; omega
theorem sq_dq {s q : Int} (h0 : 0 ≤ q) (h1 : q < 18446744073709551616) : sqI s (dqN s q) = q := by unfold sqI dqN; omega
theorem dq_lt (s q : Int) : dqN s q < 18446744073709551616 := by unfold dqN; omega
theorem sq_iff {s q : Int} {k : Nat} (hk : k ≤ 1000001) (h0 : 0 ≤ q) (h1 : q < 18446744073709551616) : sqI s k = q ↔ k = dqN s q := by unfold sqI dqN; omega
theorem sq_inj {s : Int} {a b : Nat} (ha : a ≤ 1000001) (hb : b ≤ 1000001) (h : sqI s a = sqI s b) : a = b := by unfold sqI at h; omega
theorem sq_within {s q : Int} {a b : Nat} (hab : a ≤ b) (hb : b ≤ 1000001) (h0 : 0 ≤ q) (h1 : q < 18446744073709551616) :
    lessI (sqI s a) q < lessI (sqI s a) (sqI s b) ↔ a ≤ dqN s q ∧ dqN s q < b := by
  unfold lessI sqI dqN
  omega
theorem sq_less {s : Int} {a b : Nat} (hab : a ≤ b) (hb : b ≤ 1000001) : lessI (sqI s a) (sqI s b) = ((b - a : Nat) : Int) := by
  unfold lessI sqI
  omega
/-- a number's place in the ring -/
def pzN (q : Int) : Nat := (q % 64).toNat
theorem pz_lt (q : Int) : pzN q < 64 := by unfold pzN; omega
theorem pz_int (q : Int) : q % 64 = (pzN q : Int) := by unfold pzN; omega
theorem pz_ne {s : Int} {a b : Nat} (h1 : a < b) (h2 : b < a + 64) : pzN (sqI s a) ≠ pzN (sqI s b) := by unfold pzN sqI; omega

structure La.Ok (A : La) : Prop where
  cr : 1 ≤ A.cr ∧ A.cr ≤ 64
  st : 0 ≤ A.st ∧ A.st < 18446744073709551616
  ep : 0 ≤ A.ep ∧ A.ep < 18446744073709551616
  c : A.c ≤ 1000000
  le : A.C.length + A.P.length ≤ A.c
  room : A.len ≤ A.cr
  kC : ∀ j m, A.C[j]? = some m → m.k = A.r + j ∧ m.is = 1
  kP : ∀ j m, A.P[j]? = some m → m.k = A.h + j ∧ m.is = 2
  kT : ∀ m, m ∈ A.T → m.k < A.h ∧ (m.is = 3 ∨ m.is = 4)
  up : A.T.Pairwise (fun x y => x.k < y.k)

/-- a new lane -/
def newA (cr : Nat) (two : Bool) (st : Int) : La := ⟨cr, two, st, 0, 0, [], [], []⟩
theorem newA_ok {cr : Nat} {two : Bool} {st : Int} (h0 : 1 ≤ cr) (h1 : cr ≤ 64) (s0 : 0 ≤ st) (s1 : st < 18446744073709551616) : (newA cr two st).Ok :=
  ⟨⟨h0, h1⟩, ⟨s0, s1⟩, ⟨by simp [newA], by simp [newA]⟩, by simp [newA], by simp [newA], by simp [newA, La.len], by simp [newA], by simp [newA], by simp [newA], by simp [newA]⟩

section
variable {A : La}
theorem La.Ok.hr (o : A.Ok) : A.h + A.P.length = A.r ∧ A.r + A.C.length = A.c := by
  have := o.le
  unfold La.h La.r
  omega
theorem La.Ok.bd (o : A.Ok) : A.h ≤ 1000000 ∧ A.r ≤ 1000000 ∧ A.c ≤ 1000000 ∧ A.T.length ≤ 64 ∧ A.P.length ≤ 64 ∧ A.C.length ≤ 64 := by
  have h1 := o.hr
  have h2 := o.c
  have h3 := o.room
  have h4 := o.cr
  unfold La.len at h3
  omega
theorem La.Ok.mem_P (o : A.Ok) {m : Ms} (h : m ∈ A.P) : A.h ≤ m.k ∧ m.k < A.r ∧ m.is = 2 := by
  obtain ⟨j, hj⟩ := List.getElem?_of_mem h
  have h1 := o.kP j m hj
  have h2 := (List.getElem?_eq_some_iff.1 hj).1
  have h3 := o.hr
  omega
theorem La.Ok.mem_C (o : A.Ok) {m : Ms} (h : m ∈ A.C) : A.r ≤ m.k ∧ m.k < A.c ∧ m.is = 1 := by
  obtain ⟨j, hj⟩ := List.getElem?_of_mem h
  have h1 := o.kC j m hj
  have h2 := (List.getElem?_eq_some_iff.1 hj).1
  have h3 := o.hr
  omega
theorem La.Ok.mem_L (o : A.Ok) {m : Ms} (h : m ∈ A.L) : m.k < A.c := by
  have h3 := o.hr
  rcases List.mem_append.1 h with h | h
  · have := o.kT m h; omega
  · rcases List.mem_append.1 h with h | h
    · have := o.mem_P h; omega
    · have := o.mem_C h; omega
theorem La.L_len : A.L.length = A.len := by simp [La.L, La.len]; omega
end

/-! ### what calls do -/
def roomB (A : La) : Bool := decide (A.len < A.cr)
def claimA (A : La) : La := if roomB A then { A with C := A.C ++ [⟨A.c, 1, false, 0, 0, 0, 0⟩], c := A.c + 1 } else A
def claimE (A : La) : Int := if roomB A then 0 else 81
/-- is a ticket's message claimed? -/
def inC (A : La) (q e : Int) : Bool := decide (e = A.ep) && (decide (A.r ≤ dqN A.st q) && decide (dqN A.st q < A.c))
def atC (A : La) (q : Int) : Nat := dqN A.st q - A.r
def laidB (A : La) (q e : Int) : Bool := inC A q e && ((A.C[atC A q]?.map (·.laid)).getD false)
def layL (C : List Ms) (j : Nat) (n g : Int) : List Ms := C.modify j fun m => { m with laid := true, n := n, g := g }
def layA (A : La) (q e n g : Int) : La := if inC A q e then { A with C := layL A.C (atC A q) n g } else A
def layE (A : La) (q e : Int) : Int := if inC A q e then 0 else 82
def lackE (A : La) (q e : Int) : Int := if laidB A q e then (if q = sqI A.st A.r then 0 else 83) else 82
def pubA (A : La) (q e t s : Int) : La :=
  if lackE A q e = 0 then
    match A.C with
    | [] => A
    | m :: C => { A with P := A.P ++ [{ m with is := 2, tk := t, sp := s }], C := C }
  else A
def takeA (A : La) : La :=
  match A.P with
  | [] => A
  | m :: P => { A with T := A.T ++ [{ m with is := 3 }], P := P }
/-- is a ticket's message taken? -/
def tkB (d : Nat) (m : Ms) : Bool := m.k == d && m.is == 3
def tkI (A : La) (q : Int) : Nat := A.T.findIdx (tkB (dqN A.st q))
def takenB (A : La) (q : Int) : Bool := A.T.any (tkB (dqN A.st q))
/-- the state of a ticket, as the program counts it -/
def staI (A : La) (q e : Int) : Int :=
  if e = A.ep then (if inC A q e then (if laidB A q e then 3 else 2) else if decide (A.h ≤ dqN A.st q) && decide (dqN A.st q < A.r) then 4 else if takenB A q then 5 else 0) else 1
def holdL (T : List Ms) (i : Nat) : List Ms := T.modify i fun m => { m with is := 4 }
def retA (A : La) (q e : Int) : La :=
  if e = A.ep ∧ takenB A q = true then (if A.two then { A with T := A.T.eraseIdx (tkI A q) } else { A with T := holdL A.T (tkI A q) }) else A
def retS (A : La) (q e : Int) : Int × Int := if e = A.ep ∧ takenB A q = true ∧ A.two = true then ((A.T[tkI A q]?.map fun m => (m.n, m.g)).getD (0, 0)) else (0, 0)
def retB (A : La) (q e : Int) : Bool := decide (e = A.ep) && (takenB A q && A.two)
def retE (A : La) (q e : Int) : Int := if e = A.ep then (if takenB A q then 0 else 82) else 0
def resA (A : La) : La := if A.C.length = 0 then { A with T := [], P := [], ep := (A.ep + 1) % 18446744073709551616 } else A
def resE (A : La) : Int := if A.C.length = 0 then 0 else 84
def slotsL (l : List Ms) : List (Int × Int) := l.map fun m => (m.n, m.g)
def resL (A : La) : List (Int × Int) := if A.C.length = 0 then slotsL (A.T ++ A.P) else []
def is3 (m : Ms) : Bool := m.is == 3
def is4 (m : Ms) : Bool := m.is == 4

theorem inC_iff {A : La} {q e : Int} : inC A q e = true ↔ e = A.ep ∧ A.r ≤ dqN A.st q ∧ dqN A.st q < A.c := by simp [inC]
theorem inC_at {A : La} (o : A.Ok) {q e : Int} (h : inC A q e = true) : ∃ m, A.C[atC A q]? = some m ∧ m.k = dqN A.st q ∧ atC A q < A.C.length := by
  have h1 := inC_iff.1 h
  have h2 := o.hr
  have h3 : atC A q < A.C.length := by unfold atC; omega
  refine ⟨A.C[atC A q], List.getElem?_eq_getElem h3, ?_, h3⟩
  have := (o.kC (atC A q) _ (List.getElem?_eq_getElem h3)).1
  rw [this]
  unfold atC
  omega
theorem takenB_at {A : La} {q : Int} (h : takenB A q = true) : ∃ m, A.T[tkI A q]? = some m ∧ m.k = dqN A.st q ∧ m.is = 3 ∧ tkI A q < A.T.length := by
  have h1 : tkI A q < A.T.length := List.findIdx_lt_length_of_exists (by simpa [takenB] using h)
  have h2 := List.findIdx_getElem (p := tkB (dqN A.st q)) (w := h1)
  unfold tkB at h2
  simp only [Bool.and_eq_true, beq_iff_eq] at h2
  exact ⟨A.T[tkI A q], List.getElem?_eq_getElem h1, h2.1, h2.2, h1⟩
theorem split_at {α : Type} {l : List α} {i : Nat} {m : α} (h : l[i]? = some m) : l = l.take i ++ m :: l.drop (i + 1) := by
  have h1 := (List.getElem?_eq_some_iff.1 h).1
  have h2 := (List.getElem?_eq_some_iff.1 h).2
  rw [← h2, ← List.drop_eq_getElem_cons h1, List.take_append_drop]
theorem modify_at {l : List Ms} {i : Nat} {m : Ms} {f : Ms → Ms} (h : l[i]? = some m) : l.modify i f = l.take i ++ f m :: l.drop (i + 1) := by
  have h1 := (List.getElem?_eq_some_iff.1 h).1
  have h2 := (List.getElem?_eq_some_iff.1 h).2
  rw [List.modify_eq_take_cons_drop h1, h2]

/-! ### they keep lanes as they should be -/
theorem claimA_ok {A : La} (o : A.Ok) (hc : A.c < 1000000) : (claimA A).Ok := by
  unfold claimA
  by_cases hr : roomB A = true
  · rw [if_pos hr]
    have hr' : A.len < A.cr := by simpa [roomB] using hr
    have h1 := o.hr
    have e1 : ({ A with C := A.C ++ [⟨A.c, 1, false, 0, 0, 0, 0⟩], c := A.c + 1 } : La).r = A.r := by simp [La.r]
    have e2 : ({ A with C := A.C ++ [⟨A.c, 1, false, 0, 0, 0, 0⟩], c := A.c + 1 } : La).h = A.h := by simp [La.h]
    refine ⟨o.cr, o.st, o.ep, by simp; omega, by simp; have := o.le; omega, by simp [La.len] at hr' ⊢; omega, ?_, ?_, ?_, o.up⟩
    · intro j m hj
      rw [e1]
      simp only [List.getElem?_append] at hj
      split at hj
      · exact o.kC j m hj
      · have : j - A.C.length = 0 := by
          by_cases e : j - A.C.length = 0
          · exact e
          · rw [List.getElem?_eq_none (by simp; omega)] at hj; cases hj
        rw [this] at hj
        cases hj
        simp
        omega
    · intro j m hj; rw [e2]; exact o.kP j m hj
    · intro m hm; rw [e2]; exact o.kT m hm
  · rw [if_neg hr]; exact o
theorem layL_len (C : List Ms) (j : Nat) (n g : Int) : (layL C j n g).length = C.length := by simp [layL]
theorem layA_ok {A : La} (o : A.Ok) (q e n g : Int) : (layA A q e n g).Ok := by
  unfold layA
  by_cases hr : inC A q e = true
  · rw [if_pos hr]
    refine ⟨o.cr, o.st, o.ep, o.c, by rw [layL_len]; exact o.le, by unfold La.len; rw [layL_len]; exact o.room, ?_, ?_, ?_, o.up⟩
    · intro j m hj
      have e1 : ({ A with C := layL A.C (atC A q) n g } : La).r = A.r := by simp [La.r, layL_len]
      rw [e1]
      simp only [layL, List.getElem?_modify] at hj
      cases h : A.C[j]? with
      | none => rw [h] at hj; cases hj
      | some x =>
        rw [h] at hj
        have := o.kC j x h
        simp only [Option.map_eq_map, Option.map_some, Option.some.injEq] at hj
        rw [← hj]
        split <;> exact this
    · intro j m hj
      have e1 : ({ A with C := layL A.C (atC A q) n g } : La).h = A.h := by simp [La.h, layL_len]
      rw [e1]; exact o.kP j m hj
    · intro m hm
      have e1 : ({ A with C := layL A.C (atC A q) n g } : La).h = A.h := by simp [La.h, layL_len]
      rw [e1]; exact o.kT m hm
  · rw [if_neg hr]; exact o
theorem pubA_ok {A : La} (o : A.Ok) (q e t s : Int) : (pubA A q e t s).Ok := by
  unfold pubA
  split
  · obtain ⟨cr, two, st, ep, c, T, P, C⟩ := A
    cases C with
    | nil => exact o
    | cons m C =>
      have h1 := o.hr
      have hk := o.kC 0 m rfl
      have hle := o.le
      have hrm := o.room
      simp only [La.h, La.r, La.len, List.length_cons] at h1 hk hle hrm
      refine ⟨o.cr, o.st, o.ep, o.c, by simp; omega, by simp [La.len]; omega, ?_, ?_, ?_, o.up⟩
      · intro j x hj
        have := o.kC (j + 1) x (by simpa using hj)
        simp only [La.r, List.length_cons] at this ⊢
        exact ⟨by omega, this.2⟩
      · intro j x hj
        simp only [List.getElem?_append] at hj
        simp only [La.h, List.length_append, List.length_singleton]
        split at hj
        · have := o.kP j x hj
          simp only [La.h, List.length_cons] at this
          exact ⟨by omega, this.2⟩
        · have e0 : j - P.length = 0 := by
            by_cases e : j - P.length = 0
            · exact e
            · rw [List.getElem?_eq_none (by simp; omega)] at hj; cases hj
          rw [e0] at hj
          cases hj
          simp only
          exact ⟨by omega, trivial⟩
      · intro x hx
        have := o.kT x hx
        simp only [La.h, List.length_cons, List.length_append, List.length_nil] at this ⊢
        exact ⟨by omega, this.2⟩
  · exact o
theorem takeA_ok {A : La} (o : A.Ok) : (takeA A).Ok := by
  obtain ⟨cr, two, st, ep, c, T, P, C⟩ := A
  cases P with
  | nil => exact o
  | cons m P =>
    have h1 := o.hr
    have hk := o.kP 0 m rfl
    have hle := o.le
    have hrm := o.room
    simp only [La.h, La.r, La.len, List.length_cons] at h1 hk hle hrm
    refine ⟨o.cr, o.st, o.ep, o.c, by simp [takeA]; omega, by simp [takeA, La.len]; omega, ?_, ?_, ?_, ?_⟩
    · intro j x hj; exact o.kC j x hj
    · intro j x hj
      have := o.kP (j + 1) x (by simpa [takeA] using hj)
      simp only [takeA, La.h, List.length_cons] at this ⊢
      exact ⟨by omega, this.2⟩
    · intro x hx
      simp only [takeA, List.mem_append, List.mem_singleton, La.h] at hx ⊢
      rcases hx with hx | rfl
      · have := o.kT x hx
        simp only [La.h, List.length_cons] at this
        exact ⟨by omega, this.2⟩
      · exact ⟨by simp only; omega, .inl rfl⟩
    · simp only [takeA, List.pairwise_append]
      refine ⟨o.up, by simp, ?_⟩
      intro x hx y hy
      simp only [List.mem_singleton] at hy
      subst hy
      have := o.kT x hx
      simp only [La.h, List.length_cons] at this ⊢
      omega
theorem retA_ok {A : La} (o : A.Ok) (q e : Int) : (retA A q e).Ok := by
  unfold retA
  by_cases hr : e = A.ep ∧ takenB A q = true
  · rw [if_pos hr]
    obtain ⟨m, hm, h1, h2, h3⟩ := takenB_at hr.2
    cases ht : A.two
    · simp only [Bool.false_eq_true, if_false]
      refine ⟨o.cr, o.st, o.ep, o.c, o.le, ?_, o.kC, o.kP, ?_, ?_⟩
      · have := o.room; simp [La.len, holdL] at this ⊢; omega
      · intro x hx
        simp only [holdL] at hx
        obtain ⟨j, hj⟩ := List.getElem?_of_mem hx
        rw [List.getElem?_modify] at hj
        cases h : A.T[j]? with
        | none => rw [h] at hj; cases hj
        | some y =>
          rw [h] at hj
          have := o.kT y (List.mem_of_getElem? h)
          simp only [Option.map_eq_map, Option.map_some, Option.some.injEq] at hj
          rw [← hj]
          split
          · exact ⟨this.1, .inr rfl⟩
          · exact this
      · simp only [holdL]
        rw [modify_at hm]
        have hu := o.up
        rw [split_at hm, List.pairwise_append] at hu
        rw [List.pairwise_append]
        obtain ⟨u1, u2, u3⟩ := hu
        rw [List.pairwise_cons] at u2 ⊢
        refine ⟨u1, ⟨fun y hy => u2.1 y hy, u2.2⟩, fun x hx y hy => ?_⟩
        rcases List.mem_cons.1 hy with rfl | hy
        · exact u3 x hx m (by simp)
        · exact u3 x hx y (by simp [hy])
    · simp only [if_true]
      refine ⟨o.cr, o.st, o.ep, o.c, o.le, ?_, o.kC, o.kP, ?_, ?_⟩
      · have := o.room; simp [La.len, List.length_eraseIdx, h3] at this ⊢; omega
      · intro x hx; exact o.kT x (List.mem_of_mem_eraseIdx hx)
      · exact o.up.sublist (List.eraseIdx_sublist _ _)
  · rw [if_neg hr]; exact o
theorem resA_ok {A : La} (o : A.Ok) : (resA A).Ok := by
  unfold resA
  split
  · rename_i hc
    refine ⟨o.cr, o.st, ⟨by simp only; omega, by simp only; omega⟩, o.c, by simp [hc], by simp [La.len, hc], ?_, by simp, by simp, by simp⟩
    intro j m hj
    have := o.kC j m hj
    simpa [La.r] using this
  · exact o

/-! ### the counters -/
theorem claimA_st (A : La) : (claimA A).st = A.st ∧ (claimA A).ep = A.ep ∧ (claimA A).two = A.two ∧ (claimA A).cr = A.cr ∧ (claimA A).T = A.T ∧ (claimA A).P = A.P ∧ (claimA A).c ≤ A.c + 1 := by unfold claimA; split <;> simp
theorem layA_c (A : La) (q e n g : Int) : (layA A q e n g).c = A.c := by unfold layA; split <;> rfl
theorem pubA_c (A : La) (q e t s : Int) : (pubA A q e t s).c = A.c := by
  unfold pubA
  split
  · split <;> rfl
  · rfl
theorem takeA_c (A : La) : (takeA A).c = A.c := by unfold takeA; split <;> rfl
theorem retA_c (A : La) (q e : Int) : (retA A q e).c = A.c := by unfold retA; split <;> try split
                                                                 all_goals rfl
theorem resA_c (A : La) : (resA A).c = A.c := by unfold resA; split <;> rfl
end Go.Proofs.Ytilahfomiofgcaa
