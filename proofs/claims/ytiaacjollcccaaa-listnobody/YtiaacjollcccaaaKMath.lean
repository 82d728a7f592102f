/- Lists by links: rings of nodes, and what each act makes of them. -/
namespace Go.Proofs.Ytiaacjollcccaaa

/-- f, but b at a -/
def upd {α : Type} (f : Nat → α) (a : Nat) (b : α) : Nat → α := fun j => if j = a then b else f j
theorem upd_at {α : Type} (f : Nat → α) (a : Nat) (b : α) : upd f a b a = b := by simp [upd]
theorem upd_ne {α : Type} {f : Nat → α} {a j : Nat} {b : α} (h : j ≠ a) : upd f a b j = f j := by simp [upd, h]

/-- the links, the lists' facts and the badges' owners -/
structure Sx where
  n : Nat
  m : Nat
  ah : Nat → Nat
  bh : Nat → Nat
  bg : Nat → Nat
  lb : Nat → Nat
  ls : Nat → Nat
  ow : Nat → Nat

def Sx.join (s : Sx) (a b : Nat) : Sx := { s with bh := upd s.bh a b, ah := upd s.ah b a }
def Sx.size (s : Sx) (k z : Nat) : Sx := { s with ls := upd s.ls k z }
def Sx.put (s : Sx) (x g : Nat) : Sx := { s with ah := upd s.ah x 0, bh := upd s.bh x 0, bg := upd s.bg x g }
def Sx.wear (s : Sx) (k b : Nat) : Sx := { s with lb := upd s.lb k b, ow := upd s.ow b k }
def Sx.badge (s : Sx) (x g : Nat) : Sx := { s with bg := upd s.bg x g }
def Sx.empty (s : Sx) (k : Nat) : Sx := (s.size k 0).join (s.n + k) (s.n + k)
/-- x is in list k, behind a -/
def Sx.enter (s : Sx) (k x a : Nat) : Sx :=
  (((s.put x (s.lb k)).join a x).join x (s.bh a)).size k (s.ls k + 1)
def Sx.leave (s : Sx) (x : Nat) : Sx :=
  ((s.join (s.ah x) (s.bh x)).size (s.ow (s.bg x)) (s.ls (s.ow (s.bg x)) - 1)).put x 0
/-- all of r have badge g -/
def Sx.badges (s : Sx) (r : List Nat) (g : Nat) : Sx := { s with bg := fun j => if j ∈ r then g else s.bg j }
/-- the two lists have changed their badges -/
def Sx.swap (s : Sx) (t f : Nat) : Sx := (s.wear t (s.lb f)).wear f (s.lb t)
def Sx.splice (s : Sx) (t f : Nat) : Sx :=
  (((s.join (s.ah (s.n + t)) (s.bh (s.n + f))).join (s.ah (s.n + f)) (s.n + t)).size t (s.ls t + s.ls f)).empty f

/-- the last of a :: l -/
def lst (a : Nat) : List Nat → Nat
  | [] => a
  | x :: l => lst x l
theorem lst_mem (a : Nat) (l : List Nat) : lst a l ∈ a :: l := by
  induction l generalizing a with
  | nil => simp [lst]
  | cons x l ih => simp only [lst]; exact List.mem_cons_of_mem _ (ih x)
theorem lst_app (a : Nat) (l1 l2 : List Nat) : lst a (l1 ++ l2) = lst (lst a l1) l2 := by
  induction l1 generalizing a with
  | nil => rfl
  | cons x l ih => exact ih x
theorem lst_snoc (a : Nat) (l : List Nat) (x : Nat) : lst a (l ++ [x]) = x := by rw [lst_app]; rfl

/-- the links lead from a through l, both ways -/
def Pth (ah bh : Nat → Nat) (a : Nat) : List Nat → Prop
  | [] => True
  | x :: l => bh a = x ∧ ah x = a ∧ Pth ah bh x l
theorem pth_app {ah bh : Nat → Nat} {a : Nat} {l1 l2 : List Nat} : Pth ah bh a (l1 ++ l2) ↔ Pth ah bh a l1 ∧ Pth ah bh (lst a l1) l2 := by
  induction l1 generalizing a with
  | nil => simp [Pth, lst]
  | cons x l ih => simp only [List.cons_append, Pth, lst, ih, and_assoc]
theorem pth_congr {ah bh ah' bh' : Nat → Nat} {a : Nat} {l : List Nat} (h : Pth ah bh a l) (hb : ∀ j, j ∈ (a :: l).dropLast → bh' j = bh j) (ha : ∀ j, j ∈ l → ah' j = ah j) : Pth ah' bh' a l := by
  induction l generalizing a with
  | nil => trivial
  | cons x l ih =>
    refine ⟨(hb a (by simp)).trans h.1, (ha x (by simp)).trans h.2.1, ih h.2.2 (fun j hj => hb j ?_) (fun j hj => ha j (by simp [hj]))⟩
    rw [List.dropLast_cons_of_ne_nil (by simp)]
    exact List.mem_cons_of_mem _ hj

/-- the ring from h through r to h -/
def Ring (s : Sx) (k : Nat) (r : List Nat) : Prop := Pth s.ah s.bh (s.n + k) (r ++ [s.n + k])
theorem Ring.first {s : Sx} {k : Nat} {r : List Nat} (h : Ring s k r) : s.bh (s.n + k) = r.headD (s.n + k) := by
  cases r with
  | nil => exact h.1
  | cons x l => exact h.1
theorem Ring.last {s : Sx} {k : Nat} {r : List Nat} (h : Ring s k r) : s.ah (s.n + k) = lst (s.n + k) r := (pth_app.1 h).2.2.1
theorem Ring.at {s : Sx} {k x : Nat} {l1 l2 : List Nat} (h : Ring s k (l1 ++ x :: l2)) : s.ah x = lst (s.n + k) l1 ∧ s.bh x = l2.headD (s.n + k) := by
  unfold Ring at h
  rw [List.append_assoc, List.cons_append] at h
  obtain ⟨_, _, h2, h3⟩ := pth_app.1 h
  refine ⟨h2, ?_⟩
  cases l2 with
  | nil => exact h3.1
  | cons y l => exact h3.1

/-- how the lists stand, badges of nodes aside: R k is list k -/
structure Inv0 (s : Sx) (R : Nat → List Nat) : Prop where
  ring : ∀ k, k < s.m → Ring s k (R k)
  nod : ∀ k, k < s.m → (R k).Nodup
  rng : ∀ k, k < s.m → ∀ x, x ∈ R k → x < s.n
  dis : ∀ k j x, k < s.m → j < s.m → x ∈ R k → x ∈ R j → k = j
  out : ∀ x, x < s.n → (∀ k, k < s.m → x ∉ R k) → s.ah x = 0 ∧ s.bh x = 0 ∧ s.bg x = 0
  lb : ∀ k, k < s.m → 1 ≤ s.lb k ∧ s.lb k ≤ s.m ∧ s.ow (s.lb k) = k
  ls : ∀ k, k < s.m → s.ls k = (R k).length
/-- how the lists stand -/
structure Inv (s : Sx) (R : Nat → List Nat) : Prop extends Inv0 s R where
  bg : ∀ k, k < s.m → ∀ x, x ∈ R k → s.bg x = s.lb k

theorem headD_mem (l : List Nat) (b : Nat) : l.headD b ∈ l ++ [b] := by cases l <;> simp

/-- all that a ring's links name stands in the ring -/
theorem pth_in {ah bh : Nat → Nat} {a : Nat} {l : List Nat} (h : Pth ah bh a l) : (∀ x, x ∈ l → ah x ∈ a :: l) ∧ (∀ x, x ∈ (a :: l).dropLast → bh x ∈ l) := by
  induction l generalizing a with
  | nil => simp
  | cons y l ih =>
    obtain ⟨h1, h2, h3⟩ := h
    obtain ⟨i1, i2⟩ := ih h3
    refine ⟨?_, ?_⟩
    · intro x hx
      rcases List.mem_cons.1 hx with rfl | hx
      · rw [h2]; simp
      · exact List.mem_cons_of_mem _ (i1 x hx)
    · intro x hx
      rw [List.dropLast_cons_of_ne_nil (by simp)] at hx
      rcases List.mem_cons.1 hx with rfl | hx
      · rw [h1]; simp
      · exact List.mem_cons_of_mem _ (i2 x hx)
theorem Inv0.mem {s : Sx} {R : Nat → List Nat} (h : Inv0 s R) {k x : Nat} (hk : k < s.m) (hx : x ∈ R k ∨ x = s.n + k) : s.ah x < s.n + s.m ∧ s.bh x < s.n + s.m := by
  have hr := h.ring k hk
  obtain ⟨h1, h2⟩ := pth_in hr
  have hin : ∀ y, y ∈ (s.n + k) :: (R k ++ [s.n + k]) → y < s.n + s.m := by
    intro y hy
    have : y ∈ R k ∨ y = s.n + k := by simpa [or_comm] using hy
    rcases this with hy | rfl
    · have := h.rng k hk y hy; omega
    · omega
  have d : ((s.n + k) :: (R k ++ [s.n + k])).dropLast = (s.n + k) :: R k := by rw [← List.cons_append, List.dropLast_concat]
  rw [d] at h2
  refine ⟨hin _ (h1 x ?_), hin _ (List.mem_cons_of_mem _ (h2 x ?_))⟩
  · rcases hx with hx | rfl <;> simp [*]
  · rcases hx with hx | rfl <;> simp [*]
end Go.Proofs.Ytiaacjollcccaaa
