/- Lists in memory: four blocks; what may change, and what stays. -/
import Derived.Test.YtiaacjollcccaaaMem
import Derived.Test.YtiaacjollcccaaaKRing
import Derived.RangeFuncBox
namespace Go.Proofs.Ytiaacjollcccaaa
open Go.RowKit

/-- w' is as w was, but for the blocks of S and new ones -/
structure But (S : Nat → Prop) (w w' : World) : Prop where
  os : w'.os = w.os
  tape : w'.tape = w.tape
  output : w'.output = w.output
  size : w.heap.size ≤ w'.heap.size
  block : ∀ k, k < w.heap.size → ¬ S k → w'.heap[k]? = w.heap[k]?
theorem But.refl (S : Nat → Prop) (w : World) : But S w w := ⟨rfl, rfl, rfl, Nat.le_refl _, fun _ _ _ => rfl⟩
theorem But.trans {S : Nat → Prop} {a b c : World} (h : But S a b) (k : But S b c) : But S a c :=
  ⟨k.os.trans h.os, k.tape.trans h.tape, k.output.trans h.output, Nat.le_trans h.size k.size, fun i hi hs => (k.block i (Nat.lt_of_lt_of_le hi h.size) hs).trans (h.block i hi hs)⟩
theorem But.mono {S T : Nat → Prop} {a b : World} (h : But S a b) (k : ∀ i, S i → T i) : But T a b := ⟨h.os, h.tape, h.output, h.size, fun i hi hs => h.block i hi fun hS => hs (k i hS)⟩
theorem But.drew {S : Nat → Prop} {a w : World} (h : But S a w) : But S a w.drew := ⟨h.os, h.tape, h.output, h.size, h.block⟩
theorem But.alloc {S : Nat → Prop} {a w : World} (h : But S a w) (o : Obj) : But S a (w.alloc o) :=
  h.trans ⟨rfl, rfl, rfl, by simp, fun k hk _ => Below.heap_alloc _ _ _ hk⟩
theorem But.setCell {S : Nat → Prop} {a w : World} (h : But S a w) {p : Addr} (hp : S p.block) (u : Value) : But S a (w.setCell p u) :=
  h.trans ⟨rfl, rfl, rfl, by simp [World.setCell], fun k hk hs => Below.heap_setCell _ _ _ _ (by rintro rfl; exact hs hp)⟩
theorem But.of {S : Nat → Prop} {w w' : World} (h : Below w.heap.size w w') : But S w w' := ⟨h.os, h.tape, h.output, h.size, fun k hk _ => h.block k hk⟩
/-- a store into a block that was made since -/
theorem But.setNew {S : Nat → Prop} {a w : World} (h : But S a w) {p : Addr} (hp : a.heap.size ≤ p.block) (u : Value) : But S a (w.setCell p u) :=
  ⟨h.os, h.tape, h.output, by simpa [World.setCell] using h.size, fun k hk hs => (Below.heap_setCell _ _ _ _ (by omega)).trans (h.block k hk hs)⟩
theorem But.below {S : Nat → Prop} {B : Nat} {w w' : World} (h : But S w w') (hB : B ≤ w.heap.size) (hS : ∀ k, S k → B ≤ k) : Below B w w' :=
  ⟨h.os, h.tape, h.output, h.size, fun k hk => h.block k (by omega) fun hs => by have := hS k hs; omega⟩
theorem But.cell {S : Nat → Prop} {w w' : World} (h : But S w w') {b i : Nat} {v : Value} (hc : w.cell? ⟨b, i, none⟩ = some v) (hs : ¬ S b) : w'.cell? ⟨b, i, none⟩ = some v :=
  (World.cell?_of_block (w := w) (a := ⟨b, i, none⟩) (h.block b (cell_lt hc) hs)).trans hc
theorem But.onto {S T : Nat → Prop} {w w1 w2 : World} (h : But S w w1) (k : But T w1 w2) (hT : ∀ i, T i → S i ∨ w.heap.size ≤ i) : But S w w2 :=
  ⟨k.os.trans h.os, k.tape.trans h.tape, k.output.trans h.output, Nat.le_trans h.size k.size, fun i hi hs => (k.block i (Nat.lt_of_lt_of_le hi h.size) (fun ht => by rcases hT i ht with h | h; exact hs h; omega)).trans (h.block i hi hs)⟩

theorem cell_set_ne {w : World} {b i b' i' : Nat} {v : Value} (h : b ≠ b' ∨ i ≠ i') : (w.setCell ⟨b', i', none⟩ v).cell? ⟨b, i, none⟩ = w.cell? ⟨b, i, none⟩ :=
  World.cell?_setCell_other _ _ _ _ (by intro e; injection e with e1 e2; omega)
theorem cell_set_eq {w : World} {b i : Nat} {v u : Value} (h : w.cell? ⟨b, i, none⟩ = some u) : (w.setCell ⟨b, i, none⟩ v).cell? ⟨b, i, none⟩ = some v :=
  World.cell?_setCell_same' _ _ _ (by rw [h]; rfl)

/-- where lists lie -/
structure Pl where
  p : Nat
  b1 : Nat
  b2 : Nat
  b3 : Nat
def Pl.has (o : Pl) (b : Nat) : Prop := b = o.p ∨ b = o.b1 ∨ b = o.b2 ∨ b = o.b3
/-- the pointer to them -/
abbrev Pl.ptr (o : Pl) : Value := .pointer (some ⟨o.p, 0, none⟩)

/-- lists as they lie in memory -/
structure Kx (w : World) (o : Pl) (s : Sx) : Prop where
  c0 : w.cell? ⟨o.p, 0, none⟩ = some (.bool true)
  c1 : w.cell? ⟨o.p, 1, none⟩ = some (.int .i64 (s.n : Int))
  c2 : w.cell? ⟨o.p, 2, none⟩ = some (.slice (some ⟨o.b1, 0, none⟩) (s.n + s.m) (s.n + s.m))
  c3 : w.cell? ⟨o.p, 3, none⟩ = some (.slice (some ⟨o.b2, 0, none⟩) s.m s.m)
  c4 : w.cell? ⟨o.p, 4, none⟩ = some (.slice (some ⟨o.b3, 0, none⟩) (s.m + 1) (s.m + 1))
  l0 : ∀ j, j < s.n + s.m → w.cell? ⟨o.b1, j * 3, none⟩ = some (.int .i64 (s.ah j : Int))
  l1 : ∀ j, j < s.n + s.m → w.cell? ⟨o.b1, j * 3 + 1, none⟩ = some (.int .i64 (s.bh j : Int))
  l2 : ∀ j, j < s.n + s.m → w.cell? ⟨o.b1, j * 3 + 2, none⟩ = some (.int .i64 (s.bg j : Int))
  f0 : ∀ k, k < s.m → w.cell? ⟨o.b2, k * 2, none⟩ = some (.int .i64 (s.lb k : Int))
  f1 : ∀ k, k < s.m → w.cell? ⟨o.b2, k * 2 + 1, none⟩ = some (.int .i64 (s.ls k : Int))
  w0 : ∀ b, b < s.m + 1 → w.cell? ⟨o.b3, b, none⟩ = some (.int .i64 (s.ow b : Int))
  fz : ∀ b i, o.has b → w.frozen? ⟨b, i, none⟩ = false
  ne : o.p ≠ o.b1 ∧ o.p ≠ o.b2 ∧ o.p ≠ o.b3 ∧ o.b1 ≠ o.b2 ∧ o.b1 ≠ o.b3 ∧ o.b2 ≠ o.b3
  bd : s.n ≤ 65536 ∧ s.m ≤ 65536
  lt : ∀ b, o.has b → b < w.heap.size

theorem Kx.same {w w' : World} {o : Pl} {s : Sx} (h : Kx w o s) (hsz : w.heap.size ≤ w'.heap.size) (hb : ∀ b, o.has b → w'.heap[b]? = w.heap[b]?) : Kx w' o s := by
  have hc : ∀ b i, o.has b → w'.cell? ⟨b, i, none⟩ = w.cell? ⟨b, i, none⟩ := fun b i ho => World.cell?_of_block (w := w) (a := ⟨b, i, none⟩) (hb b ho)
  have hf : ∀ b i, o.has b → w'.frozen? ⟨b, i, none⟩ = w.frozen? ⟨b, i, none⟩ := fun b i ho => World.frozen?_of_block (w := w) (a := ⟨b, i, none⟩) (hb b ho)
  have hp : o.has o.p := .inl rfl
  have h1 : o.has o.b1 := .inr (.inl rfl)
  have h2 : o.has o.b2 := .inr (.inr (.inl rfl))
  have h3 : o.has o.b3 := .inr (.inr (.inr rfl))
  exact ⟨(hc _ _ hp).trans h.c0, (hc _ _ hp).trans h.c1, (hc _ _ hp).trans h.c2, (hc _ _ hp).trans h.c3, (hc _ _ hp).trans h.c4,
    fun j hj => (hc _ _ h1).trans (h.l0 j hj), fun j hj => (hc _ _ h1).trans (h.l1 j hj), fun j hj => (hc _ _ h1).trans (h.l2 j hj),
    fun j hj => (hc _ _ h2).trans (h.f0 j hj), fun j hj => (hc _ _ h2).trans (h.f1 j hj), fun j hj => (hc _ _ h3).trans (h.w0 j hj),
    fun b i ho => (hf b i ho).trans (h.fz b i ho), h.ne, h.bd, fun b ho => Nat.lt_of_lt_of_le (h.lt b ho) hsz⟩
theorem Kx.but {w w' : World} {o : Pl} {s : Sx} {S : Nat → Prop} (h : Kx w o s) (hb : But S w w') (hS : ∀ b, o.has b → ¬ S b) : Kx w' o s :=
  h.same hb.size fun b ho => hb.block b (h.lt b ho) (hS b ho)
theorem Kx.below {w w' : World} {o : Pl} {s : Sx} (h : Kx w o s) (hb : Below w.heap.size w w') : Kx w' o s :=
  h.same hb.size fun b ho => hb.block b (h.lt b ho)
theorem Kx.drew {w : World} {o : Pl} {s : Sx} (h : Kx w o s) : Kx w.drew o s := h.same (Nat.le_refl _) fun _ _ => rfl
theorem Kx.alloc {w : World} {o : Pl} {s : Sx} (h : Kx w o s) (x : Obj) : Kx (w.alloc x) o s := h.below ((Below.refl _ w).alloc (Nat.le_refl _) _)
theorem Kx.setNew {w : World} {o : Pl} {s : Sx} (h : Kx w o s) {p : Addr} (hp : ¬ o.has p.block) (v : Value) : Kx (w.setCell p v) o s :=
  h.same (by simp [World.setCell]) fun b ho => Below.heap_setCell _ _ _ _ (by rintro rfl; exact hp ho)

theorem fz_set {w : World} {b i : Nat} {p : Addr} {v : Value} : (w.setCell p v).frozen? ⟨b, i, none⟩ = w.frozen? ⟨b, i, none⟩ := World.frozen?_setCell _ _ _ _
theorem hs_set {w : World} {p : Addr} {v : Value} : (w.setCell p v).heap.size = w.heap.size := by simp [World.setCell]

section
variable {w : World} {o : Pl} {s : Sx}
theorem Kx.setAh (h : Kx w o s) {a : Nat} (ha : a < s.n + s.m) (x : Nat) : Kx (w.setCell ⟨o.b1, a * 3, none⟩ (.int .i64 (x : Int))) o { s with ah := upd s.ah a x } := by
  obtain ⟨n1, n2, n3, n4, n5, n6⟩ := h.ne
  refine ⟨?_, ?_, ?_, ?_, ?_, ?_, ?_, ?_, ?_, ?_, ?_, ?_, h.ne, h.bd, ?_⟩
  · rw [cell_set_ne (.inl n1)]; exact h.c0
  · rw [cell_set_ne (.inl n1)]; exact h.c1
  · rw [cell_set_ne (.inl n1)]; exact h.c2
  · rw [cell_set_ne (.inl n1)]; exact h.c3
  · rw [cell_set_ne (.inl n1)]; exact h.c4
  · intro j hj
    show _ = some (Value.int .i64 ((upd s.ah a x j : Nat) : Int))
    by_cases e : j = a
    · subst e; rw [cell_set_eq (h.l0 j hj), upd_at]
    · rw [cell_set_ne (.inr (by omega)), upd_ne e]; exact h.l0 j hj
  · intro j hj; rw [cell_set_ne (.inr (by omega))]; exact h.l1 j hj
  · intro j hj; rw [cell_set_ne (.inr (by omega))]; exact h.l2 j hj
  · intro j hj; rw [cell_set_ne (.inl (Ne.symm n4))]; exact h.f0 j hj
  · intro j hj; rw [cell_set_ne (.inl (Ne.symm n4))]; exact h.f1 j hj
  · intro j hj; rw [cell_set_ne (.inl (Ne.symm n5))]; exact h.w0 j hj
  · intro b i ho; rw [fz_set]; exact h.fz b i ho
  · intro b ho; rw [hs_set]; exact h.lt b ho
theorem Kx.setBh (h : Kx w o s) {a : Nat} (ha : a < s.n + s.m) (x : Nat) : Kx (w.setCell ⟨o.b1, a * 3 + 1, none⟩ (.int .i64 (x : Int))) o { s with bh := upd s.bh a x } := by
  obtain ⟨n1, n2, n3, n4, n5, n6⟩ := h.ne
  refine ⟨?_, ?_, ?_, ?_, ?_, ?_, ?_, ?_, ?_, ?_, ?_, ?_, h.ne, h.bd, ?_⟩
  · rw [cell_set_ne (.inl n1)]; exact h.c0
  · rw [cell_set_ne (.inl n1)]; exact h.c1
  · rw [cell_set_ne (.inl n1)]; exact h.c2
  · rw [cell_set_ne (.inl n1)]; exact h.c3
  · rw [cell_set_ne (.inl n1)]; exact h.c4
  · intro j hj; rw [cell_set_ne (.inr (by omega))]; exact h.l0 j hj
  · intro j hj
    show _ = some (Value.int .i64 ((upd s.bh a x j : Nat) : Int))
    by_cases e : j = a
    · subst e; rw [cell_set_eq (h.l1 j hj), upd_at]
    · rw [cell_set_ne (.inr (by omega)), upd_ne e]; exact h.l1 j hj
  · intro j hj; rw [cell_set_ne (.inr (by omega))]; exact h.l2 j hj
  · intro j hj; rw [cell_set_ne (.inl (Ne.symm n4))]; exact h.f0 j hj
  · intro j hj; rw [cell_set_ne (.inl (Ne.symm n4))]; exact h.f1 j hj
  · intro j hj; rw [cell_set_ne (.inl (Ne.symm n5))]; exact h.w0 j hj
  · intro b i ho; rw [fz_set]; exact h.fz b i ho
  · intro b ho; rw [hs_set]; exact h.lt b ho
theorem Kx.setBg (h : Kx w o s) {a : Nat} (ha : a < s.n + s.m) (x : Nat) : Kx (w.setCell ⟨o.b1, a * 3 + 2, none⟩ (.int .i64 (x : Int))) o { s with bg := upd s.bg a x } := by
  obtain ⟨n1, n2, n3, n4, n5, n6⟩ := h.ne
  refine ⟨?_, ?_, ?_, ?_, ?_, ?_, ?_, ?_, ?_, ?_, ?_, ?_, h.ne, h.bd, ?_⟩
  · rw [cell_set_ne (.inl n1)]; exact h.c0
  · rw [cell_set_ne (.inl n1)]; exact h.c1
  · rw [cell_set_ne (.inl n1)]; exact h.c2
  · rw [cell_set_ne (.inl n1)]; exact h.c3
  · rw [cell_set_ne (.inl n1)]; exact h.c4
  · intro j hj; rw [cell_set_ne (.inr (by omega))]; exact h.l0 j hj
  · intro j hj; rw [cell_set_ne (.inr (by omega))]; exact h.l1 j hj
  · intro j hj
    show _ = some (Value.int .i64 ((upd s.bg a x j : Nat) : Int))
    by_cases e : j = a
    · subst e; rw [cell_set_eq (h.l2 j hj), upd_at]
    · rw [cell_set_ne (.inr (by omega)), upd_ne e]; exact h.l2 j hj
  · intro j hj; rw [cell_set_ne (.inl (Ne.symm n4))]; exact h.f0 j hj
  · intro j hj; rw [cell_set_ne (.inl (Ne.symm n4))]; exact h.f1 j hj
  · intro j hj; rw [cell_set_ne (.inl (Ne.symm n5))]; exact h.w0 j hj
  · intro b i ho; rw [fz_set]; exact h.fz b i ho
  · intro b ho; rw [hs_set]; exact h.lt b ho
theorem Kx.setLb (h : Kx w o s) {a : Nat} (ha : a < s.m) (x : Nat) : Kx (w.setCell ⟨o.b2, a * 2, none⟩ (.int .i64 (x : Int))) o { s with lb := upd s.lb a x } := by
  obtain ⟨n1, n2, n3, n4, n5, n6⟩ := h.ne
  refine ⟨?_, ?_, ?_, ?_, ?_, ?_, ?_, ?_, ?_, ?_, ?_, ?_, h.ne, h.bd, ?_⟩
  · rw [cell_set_ne (.inl n2)]; exact h.c0
  · rw [cell_set_ne (.inl n2)]; exact h.c1
  · rw [cell_set_ne (.inl n2)]; exact h.c2
  · rw [cell_set_ne (.inl n2)]; exact h.c3
  · rw [cell_set_ne (.inl n2)]; exact h.c4
  · intro j hj; rw [cell_set_ne (.inl n4)]; exact h.l0 j hj
  · intro j hj; rw [cell_set_ne (.inl n4)]; exact h.l1 j hj
  · intro j hj; rw [cell_set_ne (.inl n4)]; exact h.l2 j hj
  · intro j hj
    show _ = some (Value.int .i64 ((upd s.lb a x j : Nat) : Int))
    by_cases e : j = a
    · subst e; rw [cell_set_eq (h.f0 j hj), upd_at]
    · rw [cell_set_ne (.inr (by omega)), upd_ne e]; exact h.f0 j hj
  · intro j hj; rw [cell_set_ne (.inr (by omega))]; exact h.f1 j hj
  · intro j hj; rw [cell_set_ne (.inl (Ne.symm n6))]; exact h.w0 j hj
  · intro b i ho; rw [fz_set]; exact h.fz b i ho
  · intro b ho; rw [hs_set]; exact h.lt b ho
theorem Kx.setLs (h : Kx w o s) {a : Nat} (ha : a < s.m) (x : Nat) : Kx (w.setCell ⟨o.b2, a * 2 + 1, none⟩ (.int .i64 (x : Int))) o (s.size a x) := by
  obtain ⟨n1, n2, n3, n4, n5, n6⟩ := h.ne
  refine ⟨?_, ?_, ?_, ?_, ?_, ?_, ?_, ?_, ?_, ?_, ?_, ?_, h.ne, h.bd, ?_⟩
  · rw [cell_set_ne (.inl n2)]; exact h.c0
  · rw [cell_set_ne (.inl n2)]; exact h.c1
  · rw [cell_set_ne (.inl n2)]; exact h.c2
  · rw [cell_set_ne (.inl n2)]; exact h.c3
  · rw [cell_set_ne (.inl n2)]; exact h.c4
  · intro j hj; rw [cell_set_ne (.inl n4)]; exact h.l0 j hj
  · intro j hj; rw [cell_set_ne (.inl n4)]; exact h.l1 j hj
  · intro j hj; rw [cell_set_ne (.inl n4)]; exact h.l2 j hj
  · intro j hj; rw [cell_set_ne (.inr (by omega))]; exact h.f0 j hj
  · intro j hj
    show _ = some (Value.int .i64 ((upd s.ls a x j : Nat) : Int))
    by_cases e : j = a
    · subst e; rw [cell_set_eq (h.f1 j hj), upd_at]
    · rw [cell_set_ne (.inr (by omega)), upd_ne e]; exact h.f1 j hj
  · intro j hj; rw [cell_set_ne (.inl (Ne.symm n6))]; exact h.w0 j hj
  · intro b i ho; rw [fz_set]; exact h.fz b i ho
  · intro b ho; rw [hs_set]; exact h.lt b ho
theorem Kx.setOw (h : Kx w o s) {a : Nat} (ha : a < s.m + 1) (x : Nat) : Kx (w.setCell ⟨o.b3, a, none⟩ (.int .i64 (x : Int))) o { s with ow := upd s.ow a x } := by
  obtain ⟨n1, n2, n3, n4, n5, n6⟩ := h.ne
  refine ⟨?_, ?_, ?_, ?_, ?_, ?_, ?_, ?_, ?_, ?_, ?_, ?_, h.ne, h.bd, ?_⟩
  · rw [cell_set_ne (.inl n3)]; exact h.c0
  · rw [cell_set_ne (.inl n3)]; exact h.c1
  · rw [cell_set_ne (.inl n3)]; exact h.c2
  · rw [cell_set_ne (.inl n3)]; exact h.c3
  · rw [cell_set_ne (.inl n3)]; exact h.c4
  · intro j hj; rw [cell_set_ne (.inl n5)]; exact h.l0 j hj
  · intro j hj; rw [cell_set_ne (.inl n5)]; exact h.l1 j hj
  · intro j hj; rw [cell_set_ne (.inl n5)]; exact h.l2 j hj
  · intro j hj; rw [cell_set_ne (.inl n6)]; exact h.f0 j hj
  · intro j hj; rw [cell_set_ne (.inl n6)]; exact h.f1 j hj
  · intro j hj
    show _ = some (Value.int .i64 ((upd s.ow a x j : Nat) : Int))
    by_cases e : j = a
    · subst e; rw [cell_set_eq (h.w0 j hj), upd_at]
    · rw [cell_set_ne (.inr e), upd_ne e]; exact h.w0 j hj
  · intro b i ho; rw [fz_set]; exact h.fz b i ho
  · intro b ho; rw [hs_set]; exact h.lt b ho
end
end Go.Proofs.Ytiaacjollcccaaa
