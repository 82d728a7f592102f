/- The document's arena in memory. -/
import Derived.Test.YtobpignlamekmaaQRow
import Derived.Test.YtobpignlamekmaaAPure
import Derived.Test.YtobpignlamekmaaASumM
namespace Go.Proofs.Ytobpignlamekmaa
open Go.RowKit Go.Sort
set_option maxRecDepth 100000

/-- what the document's arena holds -/
structure Qs where
  pay : Nat → Int
  gen : Nat → Int
  hd : Nat → Bool
  R : Nat → List Nat
def qOf (h : Sh) (d : Da) : Qs := ⟨d.pay, d.gen, fun n => !d.fr h n, d.R⟩
/-- where it lies -/
structure Qo where
  p : Nat
  bz : Nat
  zc : Nat
  bc : Nat
  cl : Option Addr
  cc : Nat
  bf : Nat
  fc : Nat
  B : Nat
abbrev Qo.ptr (q : Qo) : Value := .pointer (some ⟨q.p, 0, none⟩)
/-- what its acts may change -/
def Qo.wr (q : Qo) (b : Nat) : Prop := b = q.bf ∨ q.cl = some ⟨b, 0, none⟩

structure Qx (w : World) (q : Qo) (h : Sh) (s : Qs) : Prop where
  c0 : w.cell? ⟨q.p, 0, none⟩ = some (.slice (some ⟨q.bz, 0, none⟩) h.P q.zc)
  c1 : w.cell? ⟨q.p, 1, none⟩ = some (.slice q.cl h.N q.cc)
  c2 : w.cell? ⟨q.p, 2, none⟩ = some (.slice (some ⟨q.bf, 0, none⟩) h.P q.fc)
  cl : 0 < h.N → q.cl = some ⟨q.bc, 0, none⟩
  z : ∀ k, k < h.P → w.cell? ⟨q.bz, k, none⟩ = some (.int .i64 (h.sz k : Int))
  y0 : ∀ n, n < h.N → w.cell? ⟨q.bc, n * 3, none⟩ = some (.int .u64 (s.pay n))
  y1 : ∀ n, n < h.N → w.cell? ⟨q.bc, n * 3 + 1, none⟩ = some (.int .u64 (s.gen n))
  y2 : ∀ n, n < h.N → w.cell? ⟨q.bc, n * 3 + 2, none⟩ = some (.bool (s.hd n))
  row : ∀ k, k < h.P → ∃ v, w.cell? ⟨q.bf, k, none⟩ = some v ∧ w.ownsRow q.B 3 1 v (s.R k).length (encL (s.R k))
  kf : ∃ cs, w.heap[q.bf]? = some (.cells cs 22 (0, 0))
  kc : 0 < h.N → ∃ cs, w.heap[q.bc]? = some (.cells cs 81 (0, 0))
  kp : ∃ cs, w.heap[q.p]? = some (.cells cs 79 (0, 0))
  kz : ∃ cs, w.heap[q.bz]? = some (.cells cs 3 (0, 0))
  lo : q.B ≤ q.p ∧ q.B ≤ q.bz ∧ q.B ≤ q.bf ∧ (∀ b, q.cl = some ⟨b, 0, none⟩ → q.B ≤ b)
  fP : h.P ≤ q.fc ∧ h.P ≤ q.zc ∧ h.N ≤ q.cc
  len : ∀ k, k < h.P → (s.R k).length ≤ 4096

theorem kind_lt {w : World} {b : Nat} {T : TypeId} (h : ∃ cs, w.heap[b]? = some (.cells cs T (0, 0))) : b < w.heap.size := by
  obtain ⟨cs, hc⟩ := h
  exact (Array.getElem?_eq_some_iff.1 hc).1
theorem kind_ne {w : World} {b b' : Nat} {T T' : TypeId} (h : ∃ cs, w.heap[b]? = some (.cells cs T (0, 0))) (h' : ∃ cs, w.heap[b']? = some (.cells cs T' (0, 0))) (hT : T ≠ T') : b ≠ b' := by
  obtain ⟨cs, hc⟩ := h
  obtain ⟨cs', hc'⟩ := h'
  rintro rfl
  rw [hc] at hc'
  cases hc'
  exact hT rfl
theorem kind_fz {w : World} {b i : Nat} {T : TypeId} (h : ∃ cs, w.heap[b]? = some (.cells cs T (0, 0))) : w.frozen? ⟨b, i, none⟩ = false := by
  obtain ⟨cs, hc⟩ := h
  exact frozen_of_row _ _ i _ _ hc

section
variable {w w' : World} {q : Qo} {h : Sh} {s : Qs}
theorem Qx.same (a : Qx w q h s) (hb : ∀ b, q.B ≤ b → b < w.heap.size → w'.heap[b]? = w.heap[b]?) : Qx w' q h s := by
  have hbl : ∀ b T, (∃ cs, w.heap[b]? = some (.cells cs T (0, 0))) → q.B ≤ b → w'.heap[b]? = w.heap[b]? := fun b T hk hB => hb b hB (kind_lt hk)
  have ep := hbl _ _ a.kp a.lo.1
  have ez := hbl _ _ a.kz a.lo.2.1
  have ef := hbl _ _ a.kf a.lo.2.2.1
  have ec := fun hn => hbl _ _ (a.kc hn) (a.lo.2.2.2 _ (a.cl hn))
  have cp := fun i => World.cell?_of_block (w := w) (a := ⟨q.p, i, none⟩) ep
  have cz := fun i => World.cell?_of_block (w := w) (a := ⟨q.bz, i, none⟩) ez
  have cf := fun i => World.cell?_of_block (w := w) (a := ⟨q.bf, i, none⟩) ef
  have cc := fun hn i => World.cell?_of_block (w := w) (a := ⟨q.bc, i, none⟩) (ec hn)
  refine ⟨(cp _).trans a.c0, (cp _).trans a.c1, (cp _).trans a.c2, a.cl, fun k hk => (cz _).trans (a.z k hk), fun n hn => (cc (by omega) _).trans (a.y0 n hn), fun n hn => (cc (by omega) _).trans (a.y1 n hn), fun n hn => (cc (by omega) _).trans (a.y2 n hn), fun k hk => ?_, by rw [ef]; exact a.kf, fun hn => by rw [ec hn]; exact a.kc hn, by rw [ep]; exact a.kp, by rw [ez]; exact a.kz, a.lo, a.fP, a.len⟩
  obtain ⟨v, h1, h2⟩ := a.row k hk
  refine ⟨v, (cf _).trans h1, h2.1, ?_⟩
  rcases h2.2 with hn | ⟨g, cap, cur, e, hB, hg, rest⟩
  · exact .inl hn
  · exact .inr ⟨g, cap, cur, e, hB, (hb g hB (Array.getElem?_eq_some_iff.1 hg).1).trans hg, rest⟩
theorem Qx.but {S : Nat → Prop} (a : Qx w q h s) (hb : But S w w') (hS : ∀ g, S g → g < q.B) : Qx w' q h s :=
  a.same fun b hB hl => hb.block b hl fun hs => by have := hS b hs; omega
theorem Qx.below (a : Qx w q h s) (hb : Below w.heap.size w w') : Qx w' q h s := a.same fun b _ hl => hb.block b hl
theorem Qx.congr {s' : Qs} (a : Qx w q h s) (h0 : ∀ n, n < h.N → s.pay n = s'.pay n) (h1 : ∀ n, n < h.N → s.gen n = s'.gen n) (h2 : ∀ n, n < h.N → s.hd n = s'.hd n) (h3 : ∀ k, k < h.P → s.R k = s'.R k) : Qx w q h s' :=
  ⟨a.c0, a.c1, a.c2, a.cl, a.z, fun n hn => by rw [← h0 n hn]; exact a.y0 n hn, fun n hn => by rw [← h1 n hn]; exact a.y1 n hn, fun n hn => by rw [← h2 n hn]; exact a.y2 n hn, fun k hk => by rw [← h3 k hk]; exact a.row k hk, a.kf, a.kc, a.kp, a.kz, a.lo, a.fP, fun k hk => by rw [← h3 k hk]; exact a.len k hk⟩
theorem Qx.lt (a : Qx w q h s) : q.p < w.heap.size ∧ q.bz < w.heap.size ∧ q.bf < w.heap.size ∧ (0 < h.N → q.bc < w.heap.size) := ⟨kind_lt a.kp, kind_lt a.kz, kind_lt a.kf, fun hn => kind_lt (a.kc hn)⟩
theorem own_set {w : World} {B : Nat} {v : Value} {n : Nat} {xs : List Value} {b : Nat} {T : TypeId} (r : w.ownsRow B 3 1 v n xs) (hk : ∃ cs, w.heap[b]? = some (.cells cs T (0, 0))) (hT : T ≠ 3) (i : Nat) (u : Value) : (w.setCell ⟨b, i, none⟩ u).ownsRow B 3 1 v n xs := by
  refine ⟨r.1, ?_⟩
  rcases r.2 with hn | ⟨g, cap, cur, e, hB, hg, rest⟩
  · exact .inl hn
  · refine .inr ⟨g, cap, cur, e, hB, (Below.heap_setCell _ _ _ _ ?_).trans hg, rest⟩
    intro e2
    have e3 : g = b := e2
    obtain ⟨cs, hc⟩ := hk
    rw [← e3, hg] at hc
    cases hc
    exact hT rfl
/-- a cell of a slot -/
theorem Qx.setC (a : Qx w q h s) (hN : 0 < h.N) (i : Nat) (u : Value) (s' : Qs) (hR : s'.R = s.R)
    (y0 : ∀ n, n < h.N → (w.setCell ⟨q.bc, i, none⟩ u).cell? ⟨q.bc, n * 3, none⟩ = some (.int .u64 (s'.pay n)))
    (y1 : ∀ n, n < h.N → (w.setCell ⟨q.bc, i, none⟩ u).cell? ⟨q.bc, n * 3 + 1, none⟩ = some (.int .u64 (s'.gen n)))
    (y2 : ∀ n, n < h.N → (w.setCell ⟨q.bc, i, none⟩ u).cell? ⟨q.bc, n * 3 + 2, none⟩ = some (.bool (s'.hd n))) : Qx (w.setCell ⟨q.bc, i, none⟩ u) q h s' := by
  have n1 := kind_ne a.kp (a.kc hN) (by decide)
  have n2 := kind_ne a.kz (a.kc hN) (by decide)
  have n3 := kind_ne a.kf (a.kc hN) (by decide)
  refine ⟨?_, ?_, ?_, a.cl, ?_, y0, y1, y2, ?_, kind_set a.kf, fun hn => kind_set (a.kc hn), kind_set a.kp, kind_set a.kz, a.lo, a.fP, by rw [hR]; exact a.len⟩
  · rw [cell_set_ne (.inl n1)]; exact a.c0
  · rw [cell_set_ne (.inl n1)]; exact a.c1
  · rw [cell_set_ne (.inl n1)]; exact a.c2
  · intro k hk; rw [cell_set_ne (.inl n2)]; exact a.z k hk
  · intro k hk
    rw [hR]
    obtain ⟨v, h1, h2⟩ := a.row k hk
    exact ⟨v, by rw [cell_set_ne (.inl n3)]; exact h1, own_set h2 (a.kc hN) (by decide) _ _⟩
theorem Qx.setPay (a : Qx w q h s) {n : Nat} (hn : n < h.N) (x : Int) : Qx (w.setCell ⟨q.bc, n * 3, none⟩ (.int .u64 x)) q h { s with pay := upd s.pay n x } := by
  refine a.setC (by omega) _ _ _ rfl (fun m hm => ?_) (fun m hm => ?_) (fun m hm => ?_)
  · show _ = some (Value.int .u64 (upd s.pay n x m))
    by_cases e : m = n
    · subst e; rw [cell_set_eq (a.y0 m hm), upd_at]
    · rw [cell_set_ne (.inr (by omega)), upd_ne e]; exact a.y0 m hm
  · rw [cell_set_ne (.inr (by omega))]; exact a.y1 m hm
  · rw [cell_set_ne (.inr (by omega))]; exact a.y2 m hm
theorem Qx.setGen (a : Qx w q h s) {n : Nat} (hn : n < h.N) (x : Int) : Qx (w.setCell ⟨q.bc, n * 3 + 1, none⟩ (.int .u64 x)) q h { s with gen := upd s.gen n x } := by
  refine a.setC (by omega) _ _ _ rfl (fun m hm => ?_) (fun m hm => ?_) (fun m hm => ?_)
  · rw [cell_set_ne (.inr (by omega))]; exact a.y0 m hm
  · show _ = some (Value.int .u64 (upd s.gen n x m))
    by_cases e : m = n
    · subst e; rw [cell_set_eq (a.y1 m hm), upd_at]
    · rw [cell_set_ne (.inr (by omega)), upd_ne e]; exact a.y1 m hm
  · rw [cell_set_ne (.inr (by omega))]; exact a.y2 m hm
theorem Qx.setHd (a : Qx w q h s) {n : Nat} (hn : n < h.N) (x : Bool) : Qx (w.setCell ⟨q.bc, n * 3 + 2, none⟩ (.bool x)) q h { s with hd := upd s.hd n x } := by
  refine a.setC (by omega) _ _ _ rfl (fun m hm => ?_) (fun m hm => ?_) (fun m hm => ?_)
  · rw [cell_set_ne (.inr (by omega))]; exact a.y0 m hm
  · rw [cell_set_ne (.inr (by omega))]; exact a.y1 m hm
  · show _ = some (Value.bool (upd s.hd n x m))
    by_cases e : m = n
    · subst e; rw [cell_set_eq (a.y2 m hm), upd_at]
    · rw [cell_set_ne (.inr (by omega)), upd_ne e]; exact a.y2 m hm
/-- another row -/
theorem Qx.setRow (a : Qx w q h s) {k : Nat} (hk : k < h.P) {v : Value} {r : List Nat} (hown : w.ownsRow q.B 3 1 v r.length (encL r)) (hl : r.length ≤ 4096) : Qx (w.setCell ⟨q.bf, k, none⟩ v) q h { s with R := upd s.R k r } := by
  have n1 := kind_ne a.kp a.kf (by decide)
  have n2 := kind_ne a.kz a.kf (by decide)
  have n3 := fun hn => kind_ne (a.kc hn) a.kf (by decide)
  refine ⟨?_, ?_, ?_, a.cl, ?_, ?_, ?_, ?_, ?_, kind_set a.kf, fun hn => kind_set (a.kc hn), kind_set a.kp, kind_set a.kz, a.lo, a.fP, ?_⟩
  · rw [cell_set_ne (.inl n1)]; exact a.c0
  · rw [cell_set_ne (.inl n1)]; exact a.c1
  · rw [cell_set_ne (.inl n1)]; exact a.c2
  · intro j hj; rw [cell_set_ne (.inl n2)]; exact a.z j hj
  · intro m hm; rw [cell_set_ne (.inl (n3 (by omega)))]; exact a.y0 m hm
  · intro m hm; rw [cell_set_ne (.inl (n3 (by omega)))]; exact a.y1 m hm
  · intro m hm; rw [cell_set_ne (.inl (n3 (by omega)))]; exact a.y2 m hm
  · intro j hj
    obtain ⟨u, h1, h2⟩ := a.row j hj
    show ∃ v', _ ∧ World.ownsRow _ _ _ _ v' (upd s.R k r j).length (encL (upd s.R k r j))
    by_cases e : j = k
    · subst e
      rw [upd_at]
      exact ⟨v, cell_set_eq h1, own_set hown a.kf (by decide) _ _⟩
    · rw [upd_ne e]
      exact ⟨u, by rw [cell_set_ne (.inr e)]; exact h1, own_set h2 a.kf (by decide) _ _⟩
  · intro j hj
    show (upd s.R k r j).length ≤ 4096
    by_cases e : j = k
    · subst e; rw [upd_at]; exact hl
    · rw [upd_ne e]; exact a.len j hj
end
end Go.Proofs.Ytobpignlamekmaa
