/- What each act makes of the lists, by rows. -/
import Derived.Test.YtiaacjollcccaaaKLeave
namespace Go.Proofs.Ytiaacjollcccaaa
open Go.RowKit

theorem len_le {n : Nat} {l : List Nat} (nd : l.Nodup) (h : ∀ x, x ∈ l → x < n) : l.length ≤ n := by
  induction n generalizing l with
  | zero =>
    cases l with
    | nil => simp
    | cons x l => exact absurd (h x (by simp)) (by omega)
  | succ n ih =>
    by_cases hn : n ∈ l
    · obtain ⟨l1, l2, rfl⟩ := List.append_of_mem hn
      have := ih (l := l1 ++ l2) (by grind) (fun x hx => by
        have h1 := h x (by grind)
        have h2 : x ≠ n := by rintro rfl; grind
        omega)
      simp at this ⊢; omega
    · have := ih nd (fun x hx => by
        have h1 := h x hx
        have h2 : x ≠ n := by rintro rfl; exact hn hx
        omega)
      omega

/-- the list in which x is -/
def whr (R : Nat → List Nat) (m x : Nat) : Option Nat := (List.range m).find? fun k => decide (x ∈ R k)
theorem whr_some {R : Nat → List Nat} {m x k : Nat} (h : whr R m x = some k) : k < m ∧ x ∈ R k := by
  have h1 := List.mem_of_find?_eq_some h
  have h2 := List.find?_some h
  simp at h1 h2
  exact ⟨h1, h2⟩
theorem whr_none {R : Nat → List Nat} {m x : Nat} (h : whr R m x = none) : ∀ k, k < m → x ∉ R k := by
  intro k hk
  have := (List.find?_eq_none.1 h) k (by simpa using hk)
  simpa using this
theorem whr_at {s : Sx} {R : Nat → List Nat} (h : Inv0 s R) {k x : Nat} (hk : k < s.m) (hx : x ∈ R k) : whr R s.m x = some k := by
  cases hw : whr R s.m x with
  | none => exact absurd hx (whr_none hw k hk)
  | some j =>
    obtain ⟨h1, h2⟩ := whr_some hw
    rw [h.dis j k x h1 hk h2 hx]

/-- x is in no list then -/
def outR (R : Nat → List Nat) (m x : Nat) : Nat → List Nat :=
  match whr R m x with
  | some k => upd R k ((R k).filter fun y => !decide (y = x))
  | none => R
def pushE (n m : Nat) (R : Nat → List Nat) (i x : Int) : Int := if inR m i && inR n x then (if (whr R m x.toNat).isSome then 50 else 0) else 5
def pushR (n m : Nat) (R : Nat → List Nat) (front : Bool) (i x : Int) : Nat → List Nat :=
  if pushE n m R i x = 0 then upd R i.toNat (if front then x.toNat :: R i.toNat else R i.toNat ++ [x.toNat]) else R
def dropE (n m : Nat) (R : Nat → List Nat) (x : Int) : Int := if inR n x then (if (whr R m x.toNat).isSome then 0 else 51) else 5
def dropR (n m : Nat) (R : Nat → List Nat) (x : Int) : Nat → List Nat := if inR n x then outR R m x.toNat else R
def moveR (n m : Nat) (R : Nat → List Nat) (i x : Int) : Nat → List Nat :=
  if inR m i && inR n x then upd (outR R m x.toNat) i.toNat (outR R m x.toNat i.toNat ++ [x.toNat]) else R
def popB (m : Nat) (R : Nat → List Nat) (i : Int) : Bool := inR m i && !(R i.toNat).isEmpty
def popI (m : Nat) (R : Nat → List Nat) (i : Int) : Int := if popB m R i then (((R i.toNat).headD 0 : Nat) : Int) else 0
def popR (m : Nat) (R : Nat → List Nat) (i : Int) : Nat → List Nat := if popB m R i then upd R i.toNat (R i.toNat).tail else R
def ofB (n m : Nat) (R : Nat → List Nat) (x : Int) : Bool := inR n x && (whr R m x.toNat).isSome
def ofI (n m : Nat) (R : Nat → List Nat) (x : Int) : Int := if inR n x then (((whr R m x.toNat).getD 0 : Nat) : Int) else 0
def lenR (m : Nat) (R : Nat → List Nat) (i : Int) : Int := if inR m i then ((R i.toNat).length : Int) else 0
/-- the nodes of a list -/
def rowR (m : Nat) (R : Nat → List Nat) (i : Int) : List Nat := if inR m i then R i.toNat else []

/-- lists in memory, and how they stand -/
def Kv (w : World) (o : Pl) (n m : Nat) (R : Nat → List Nat) : Prop := ∃ s : Sx, s.n = n ∧ s.m = m ∧ Kx w o s ∧ Inv s R
theorem Kv.but {w w' : World} {o : Pl} {n m : Nat} {R : Nat → List Nat} {S : Nat → Prop} (h : Kv w o n m R) (hb : But S w w') (hS : ∀ b, o.has b → ¬ S b) : Kv w' o n m R := by
  obtain ⟨s, h1, h2, h3, h4⟩ := h
  exact ⟨s, h1, h2, h3.but hb hS, h4⟩
theorem Kv.below {w w' : World} {o : Pl} {n m : Nat} {R : Nat → List Nat} (h : Kv w o n m R) (hb : Below w.heap.size w w') : Kv w' o n m R := by
  obtain ⟨s, h1, h2, h3, h4⟩ := h
  exact ⟨s, h1, h2, h3.below hb, h4⟩
theorem Kv.lt {w : World} {o : Pl} {n m : Nat} {R : Nat → List Nat} (h : Kv w o n m R) : ∀ b, o.has b → b < w.heap.size := by
  obtain ⟨s, h1, h2, h3, h4⟩ := h
  exact h3.lt
theorem Kv.len {w : World} {o : Pl} {n m : Nat} {R : Nat → List Nat} (h : Kv w o n m R) {k : Nat} (hk : k < m) : (R k).length ≤ n ∧ n ≤ 65536 ∧ m ≤ 65536 ∧ ∀ x, x ∈ R k → x < n := by
  obtain ⟨s, rfl, rfl, h3, h4⟩ := h
  exact ⟨len_le (h4.nod k hk) (h4.rng k hk), h3.bd.1, h3.bd.2, h4.rng k hk⟩

theorem Inv.free {s : Sx} {R : Nat → List Nat} (h : Inv s R) {x : Nat} (hx : x < s.n) : s.free x = (whr R s.m x).isNone := by
  cases hw : whr R s.m x with
  | none =>
    obtain ⟨h1, h2, h3⟩ := h.out x hx (whr_none hw)
    simp [Sx.free, h1, h2, h3]
  | some k =>
    obtain ⟨hk, hm⟩ := whr_some hw
    have h1 := h.bg k hk x hm
    have h2 := h.lb k hk
    simp [Sx.free, h1]
    omega
theorem Inv0.size {s : Sx} {R : Nat → List Nat} (h : Inv0 s R) {k : Nat} (hk : k < s.m) : s.ls k ≤ s.n := by
  rw [h.ls k hk]; exact len_le (h.nod k hk) (h.rng k hk)
/-- what leave wants -/
theorem Inv.leaves {s : Sx} {R : Nat → List Nat} (h : Inv s R) {k x : Nat} (hk : k < s.m) (hx : x ∈ R k) :
    (s.ah x < s.n + s.m ∧ s.bh x < s.n + s.m) ∧ s.bg x < s.m + 1 ∧ s.ow (s.bg x) < s.m ∧ 1 ≤ s.ls (s.ow (s.bg x)) ∧ s.ls (s.ow (s.bg x)) ≤ s.n := by
  have h1 := h.bg k hk x hx
  have h2 := h.lb k hk
  rw [h1, h2.2.2]
  refine ⟨h.toInv0.mem hk (.inl hx), by omega, hk, ?_, h.toInv0.size hk⟩
  rw [h.ls k hk]
  exact List.length_pos_of_mem hx
theorem Inv.outs {s : Sx} {R : Nat → List Nat} (h : Inv s R) {k x : Nat} (hw : whr R s.m x = some k) : Inv (s.leave x) (outR R s.m x) := by
  obtain ⟨hk, hx⟩ := whr_some hw
  obtain ⟨l1, l2, e⟩ := List.append_of_mem hx
  have := h.leave hk e
  unfold outR
  rw [hw]
  show Inv _ (upd R k ((R k).filter fun y => !decide (y = x)))
  have nd := h.nod k hk
  rw [e] at nd ⊢
  rw [filter_split nd]
  exact this
/-- behind it x is in none -/
theorem outR_none {s : Sx} {R : Nat → List Nat} (h : Inv0 s R) (x : Nat) : ∀ k, k < s.m → x ∉ outR R s.m x k := by
  intro k hk hx
  unfold outR at hx
  cases hw : whr R s.m x with
  | none => rw [hw] at hx; exact whr_none hw k hk hx
  | some j =>
    rw [hw] at hx
    obtain ⟨hj, hxj⟩ := whr_some hw
    simp only [upd] at hx
    split at hx
    · simp at hx
    · rename_i hne
      exact hne (h.dis k j x hk hj hx hxj)
theorem whr_none_of {R : Nat → List Nat} {m x : Nat} (h : ∀ k, k < m → x ∉ R k) : whr R m x = none := by
  cases hw : whr R m x with
  | none => rfl
  | some k => exact absurd (whr_some hw).2 (h k (whr_some hw).1)

end Go.Proofs.Ytiaacjollcccaaa
