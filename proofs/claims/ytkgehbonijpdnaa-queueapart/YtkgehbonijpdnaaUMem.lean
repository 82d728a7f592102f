/- Queues in memory: rows that are read, rows of one's own. -/
import Derived.Test.YtkgehbonijpdnaaUMath
import Derived.Test.YtkgehbonijpdnaaJQuiet
import Derived.Test.YtkgehbonijpdnaaGRows
import Derived.Laws.CopyRow
import Derived.Deep.Light
namespace Go.Proofs.Ytkgehbonijpdnaa
open Go.RowKit Go.Sort

/-- what the n elements of s cells behind a hold -/
def Rd (w : World) (a : Option Addr) (n s : Nat) (c : Nat → Nat → Value) : Prop :=
  ∀ j, j < n → ∃ b off, a = some ⟨b, off, none⟩ ∧ ∀ f, f < s → w.cell? ⟨b, off + j * s + f, none⟩ = some (c j f)
section
variable {w w' : World} {a : Option Addr} {n s : Nat} {c c' : Nat → Nat → Value} {v : Value}
theorem Rd.same (h : Rd w a n s c) (hb : ∀ b off, a = some ⟨b, off, none⟩ → w'.heap[b]? = w.heap[b]?) : Rd w' a n s c := fun j hj => by
  obtain ⟨b, off, e, hc⟩ := h j hj
  exact ⟨b, off, e, fun f hf => (World.cell?_of_block (w := w) (a := ⟨b, off + j * s + f, none⟩) (hb b off e)).trans (hc f hf)⟩
theorem Rd.below (h : Rd w a n s c) (hb : Below w.heap.size w w') : Rd w' a n s c := fun j hj => by
  obtain ⟨b, off, e, hc⟩ := h j hj
  exact ⟨b, off, e, fun f hf => (hb.cell (p := ⟨b, off + j * s + f, none⟩) (cell_lt (hc f hf))).trans (hc f hf)⟩
theorem Rd.congr (h : Rd w a n s c) (e : ∀ j, j < n → ∀ f, f < s → c j f = c' j f) : Rd w a n s c' := fun j hj => by
  obtain ⟨b, off, e1, hc⟩ := h j hj
  exact ⟨b, off, e1, fun f hf => by rw [← e j hj f hf]; exact hc f hf⟩
/-- a slice that is read -/
def Sl (w : World) (s n : Nat) (c : Nat → Nat → Value) (v : Value) : Prop :=
  ∃ a cap, v = .slice a n cap ∧ n ≤ cap ∧ (a = none → n = 0 ∧ cap = 0) ∧ Rd w a n s c
theorem Sl.below (h : Sl w s n c v) (hb : Below w.heap.size w w') : Sl w' s n c v := by
  obtain ⟨a, cap, e, h1, h2, h3⟩ := h
  exact ⟨a, cap, e, h1, h2, h3.below hb⟩
theorem Sl.same (h : Sl w s n c v) (hb : ∀ b, v.ownBlock = some b → w'.heap[b]? = w.heap[b]?) : Sl w' s n c v := by
  obtain ⟨a, cap, e, h1, h2, h3⟩ := h
  exact ⟨a, cap, e, h1, h2, h3.same fun b off e' => hb b (by rw [e, e']; rfl)⟩
theorem Sl.congr (h : Sl w s n c v) (e : ∀ j, j < n → ∀ f, f < s → c j f = c' j f) : Sl w s n c' v := by
  obtain ⟨a, cap, e0, h1, h2, h3⟩ := h
  exact ⟨a, cap, e0, h1, h2, h3.congr e⟩
theorem sl_nil (w : World) (s : Nat) (c : Nat → Nat → Value) : Sl w s 0 c (.slice none 0 0) := ⟨none, 0, rfl, Nat.le_refl _, fun _ => ⟨rfl, rfl⟩, fun j hj => absurd hj (by omega)⟩
theorem Sl.setO (h : Sl w s n c v) {g i : Nat} {u : Value} (hne : v.ownBlock ≠ some g) : Sl (w.setCell ⟨g, i, none⟩ u) s n c v :=
  h.same fun b e => Below.heap_setCell _ _ _ _ (by rintro rfl; exact hne e)

/-- a block of n elements of s cells -/
def Rw (w : World) (g : Nat) (T : TypeId) (n s : Nat) (c : Nat → Nat → Value) : Prop :=
  ∃ arr : Array Value, w.heap[g]? = some (.cells arr T (0, 0)) ∧ arr.size = n * s ∧ ∀ j, j < n → ∀ f, f < s → arr[j * s + f]? = some (c j f)
variable {g : Nat} {T : TypeId}
theorem Rw.lt (h : Rw w g T n s c) : g < w.heap.size := by
  obtain ⟨arr, h1, _⟩ := h
  exact (Array.getElem?_eq_some_iff.1 h1).1
theorem Rw.same (h : Rw w g T n s c) (hb : w'.heap[g]? = w.heap[g]?) : Rw w' g T n s c := by
  obtain ⟨arr, h1, r⟩ := h
  exact ⟨arr, hb.trans h1, r⟩
theorem Rw.below (h : Rw w g T n s c) (hb : Below w.heap.size w w') : Rw w' g T n s c := h.same (hb.block g h.lt)
theorem Rw.setO (h : Rw w g T n s c) {b i : Nat} {u : Value} (hne : g ≠ b) : Rw (w.setCell ⟨b, i, none⟩ u) g T n s c := h.same (Below.heap_setCell _ _ _ _ hne)
theorem Rw.congr (h : Rw w g T n s c) (e : ∀ j, j < n → ∀ f, f < s → c j f = c' j f) : Rw w g T n s c' := by
  obtain ⟨arr, h1, h2, h3⟩ := h
  exact ⟨arr, h1, h2, fun j hj f hf => by rw [← e j hj f hf]; exact h3 j hj f hf⟩
theorem Rw.cell (h : Rw w g T n s c) {j f : Nat} (hj : j < n) (hf : f < s) : w.cell? ⟨g, j * s + f, none⟩ = some (c j f) := by
  obtain ⟨arr, h1, h2, h3⟩ := h
  rw [cell_of_row w g _ _ T (0, 0) h1]
  exact h3 j hj f hf
theorem Rw.fz (h : Rw w g T n s c) (i : Nat) : w.frozen? ⟨g, i, none⟩ = false := by
  obtain ⟨arr, h1, _⟩ := h
  exact frozen_of_row _ _ i _ _ h1
theorem mul_lt_of {j n s f : Nat} (hj : j < n) (hf : f < s) : j * s + f < n * s := by
  have : (j + 1) * s ≤ n * s := Nat.mul_le_mul_right s (by omega)
  rw [Nat.succ_mul] at this
  omega
theorem mul_inj {j k s f e : Nat} (hf : f < s) (he : e < s) (h : j * s + f = k * s + e) : j = k ∧ f = e := by
  have h1 : (j * s + f) / s = j := by rw [Nat.mul_comm, Nat.mul_add_div (by omega), Nat.div_eq_of_lt hf]; rfl
  have h2 : (k * s + e) / s = k := by rw [Nat.mul_comm, Nat.mul_add_div (by omega), Nat.div_eq_of_lt he]; rfl
  have : j = k := by rw [← h1, ← h2, h]
  subst this
  exact ⟨rfl, by omega⟩
theorem Rw.set (h : Rw w g T n s c) {k e : Nat} (hk : k < n) (he : e < s) (u : Value) : Rw (w.setCell ⟨g, k * s + e, none⟩ u) g T n s (fun j f => if j = k ∧ f = e then u else c j f) := by
  obtain ⟨arr, h1, h2, h3⟩ := h
  refine ⟨arr.setIfInBounds (k * s + e) u, ?_, by simpa using h2, fun j hj f hf => ?_⟩
  · rw [setCell_eq_setRow w g _ _ T (0, 0) u h1, setRow_heap w g _ _ T _ h1]
  · rw [Array.getElem?_setIfInBounds]
    by_cases h4 : k * s + e = j * s + f
    · obtain ⟨rfl, rfl⟩ := mul_inj he hf h4
      have := mul_lt_of hj hf
      simp [h2, this]
    · show _ = some (if j = k ∧ f = e then u else c j f)
      rw [if_neg h4, if_neg (by rintro ⟨rfl, rfl⟩; exact h4 rfl)]
      exact h3 j hj f hf
theorem below_set6 {B o : Nat} {w0 : World} (h : Below B w0 w) (hg : B ≤ g) (a0 a1 a2 a3 a4 a5 : Value) :
    Below B w0 ((((((w.setCell ⟨g, o, none⟩ a0).setCell ⟨g, o + 1, none⟩ a1).setCell ⟨g, o + 2, none⟩ a2).setCell ⟨g, o + 3, none⟩ a3).setCell ⟨g, o + 4, none⟩ a4).setCell ⟨g, o + 5, none⟩ a5) :=
  (((((h.setCell hg a0).setCell hg a1).setCell hg a2).setCell hg a3).setCell hg a4).setCell hg a5
def set6 (c : Nat → Nat → Value) (k : Nat) (a0 a1 a2 a3 a4 a5 : Value) (j f : Nat) : Value :=
  if j = k then (if f = 0 then a0 else if f = 1 then a1 else if f = 2 then a2 else if f = 3 then a3 else if f = 4 then a4 else if f = 5 then a5 else c j f) else c j f
theorem Rw.set6 (h : Rw w g T n s c) {k : Nat} (hk : k < n) (hs : 6 ≤ s) (a0 a1 a2 a3 a4 a5 : Value) :
    Rw ((((((w.setCell ⟨g, k * s, none⟩ a0).setCell ⟨g, k * s + 1, none⟩ a1).setCell ⟨g, k * s + 2, none⟩ a2).setCell ⟨g, k * s + 3, none⟩ a3).setCell ⟨g, k * s + 4, none⟩ a4).setCell ⟨g, k * s + 5, none⟩ a5) g T n s (set6 c k a0 a1 a2 a3 a4 a5) := by
  refine ((((((h.set hk (e := 0) (by omega) a0).set hk (e := 1) (by omega) a1).set hk (e := 2) (by omega) a2).set hk (e := 3) (by omega) a3).set hk (e := 4) (by omega) a4).set hk (e := 5) (by omega) a5).congr fun j _ f _ => ?_
  unfold Go.Proofs.Ytkgehbonijpdnaa.set6
  by_cases hj : j = k
  · subst hj
    rw [if_pos rfl]
    rcases Nat.lt_or_ge f 6 with h6 | h6
    · match f, h6 with
      | 0, _ => simp
      | 1, _ => simp
      | 2, _ => simp
      | 3, _ => simp
      | 4, _ => simp
      | 5, _ => simp
    · have e0 : f ≠ 0 := by omega
      have e1 : f ≠ 1 := by omega
      have e2 : f ≠ 2 := by omega
      have e3 : f ≠ 3 := by omega
      have e4 : f ≠ 4 := by omega
      have e5 : f ≠ 5 := by omega
      simp [e0, e1, e2, e3, e4, e5]
  · simp [hj]
theorem Rw.sl (h : Rw w g T n s c) : Sl w s n c (.slice (some ⟨g, 0, none⟩) n n) :=
  ⟨_, _, rfl, Nat.le_refl _, fun e => (by cases e), fun j hj => ⟨g, 0, rfl, fun f hf => by rw [Nat.zero_add]; exact h.cell hj hf⟩⟩
end

/-- the cells of a block, from its first on -/
def Bx (W : World) (B : Nat) (vs : List Value) : Prop := ∀ i v, vs[i]? = some v → W.cell? ⟨B, i, none⟩ = some v
theorem Bx.below {W W' : World} {B : Nat} {vs : List Value} (h : Bx W B vs) (hb : Below W.heap.size W W') : Bx W' B vs := fun i v e => (hb.cell (p := ⟨B, i, none⟩) (cell_lt (h i v e))).trans (h i v e)
theorem Bx.upTo {W W' : World} {B B0 : Nat} {vs : List Value} (h : Bx W B vs) (hb : Below B0 W W') (hB : B < B0) : Bx W' B vs := fun i v e => (World.cell?_of_block (w := W) (a := ⟨B, i, none⟩) (hb.block B hB)).trans (h i v e)
theorem bx_new (W : World) (vs : List Value) (T : TypeId) : Bx (W.alloc (.cells vs.toArray T)) W.heap.size vs := fun i v e => by
  rw [cell_of_row _ _ i _ T (0, 0) (gheap_new W _)]
  simpa using e
theorem bx_at (W : World) (B : Nat) (hB : W.heap.size = B) (vs : List Value) (T : TypeId) : Bx (W.alloc (.cells vs.toArray T)) B vs := by subst hB; exact bx_new W vs T
theorem Bx.lt {W : World} {B : Nat} {v : Value} {vs : List Value} (h : Bx W B (v :: vs)) : B < W.heap.size := cell_lt (h 0 v rfl)
theorem Bx.two {W : World} {B : Nat} {a b : Value} (h : Bx W B [a, b]) : W.cell? ⟨B, 0, none⟩ = some a ∧ W.cell? ⟨B, 1, none⟩ = some b :=
  ⟨h 0 _ rfl, h 1 _ rfl⟩
theorem Bx.three {W : World} {B : Nat} {a b c : Value} (h : Bx W B [a, b, c]) : W.cell? ⟨B, 0, none⟩ = some a ∧ W.cell? ⟨B, 1, none⟩ = some b ∧ W.cell? ⟨B, 2, none⟩ = some c :=
  ⟨h 0 _ rfl, h 1 _ rfl, h 2 _ rfl⟩
theorem Bx.four {W : World} {B : Nat} {a b c d : Value} (h : Bx W B [a, b, c, d]) : W.cell? ⟨B, 0, none⟩ = some a ∧ W.cell? ⟨B, 1, none⟩ = some b ∧ W.cell? ⟨B, 2, none⟩ = some c ∧ W.cell? ⟨B, 3, none⟩ = some d :=
  ⟨h 0 _ rfl, h 1 _ rfl, h 2 _ rfl, h 3 _ rfl⟩
theorem Bx.six {W : World} {B : Nat} {a b c d e f : Value} (h : Bx W B [a, b, c, d, e, f]) : W.cell? ⟨B, 0, none⟩ = some a ∧ W.cell? ⟨B, 1, none⟩ = some b ∧ W.cell? ⟨B, 2, none⟩ = some c ∧ W.cell? ⟨B, 3, none⟩ = some d ∧ W.cell? ⟨B, 4, none⟩ = some e ∧ W.cell? ⟨B, 5, none⟩ = some f :=
  ⟨h 0 _ rfl, h 1 _ rfl, h 2 _ rfl, h 3 _ rfl, h 4 _ rfl, h 5 _ rfl⟩
theorem Bx.seven {W : World} {B : Nat} {a b c d e f g : Value} (h : Bx W B [a, b, c, d, e, f, g]) : W.cell? ⟨B, 0, none⟩ = some a ∧ W.cell? ⟨B, 1, none⟩ = some b ∧ W.cell? ⟨B, 2, none⟩ = some c ∧ W.cell? ⟨B, 3, none⟩ = some d ∧ W.cell? ⟨B, 4, none⟩ = some e ∧ W.cell? ⟨B, 5, none⟩ = some f ∧ W.cell? ⟨B, 6, none⟩ = some g :=
  ⟨h 0 _ rfl, h 1 _ rfl, h 2 _ rfl, h 3 _ rfl, h 4 _ rfl, h 5 _ rfl, h 6 _ rfl⟩
/-- a lane's cells, a message's -/
def encP (l : PLn) (v : Value) : Nat → Value
  | 0 => .int .i64 l.cr
  | 1 => .bool l.tw
  | 2 => .int .i64 l.lf
  | 3 => v
  | 4 => .int .i64 l.nx
  | _ => .int .i64 l.ep
def encM (m : PMs) : Nat → Value
  | 0 => .int .i64 m.ln
  | 1 => .int .i64 m.ep
  | 2 => .int .i64 m.n
  | _ => .int .u64 m.pay
def encI (l : List Int) (j _ : Nat) : Value := .int .i64 (atI l j)
def encMs (l : List PMs) (j : Nat) : Nat → Value := encM (atM l j)
def encLs (l : List PLn) (V : Nat → Value) (j : Nat) : Nat → Value := encP (atP l j) (V j)
/-- claims in memory -/
def Cl (w : World) (v : Value) (l : List Int) : Prop := Sl w 1 l.length (encI l) v
/-- lanes' claims, each -/
def Cls (w : World) (V : Nat → Value) (ls : List PLn) : Prop := ∀ j, j < ls.length → Cl w (V j) (atP ls j).cl
theorem Cls.below {w w' : World} {V : Nat → Value} {ls : List PLn} (h : Cls w V ls) (hb : Below w.heap.size w w') : Cls w' V ls := fun j hj => (h j hj).below hb
/-- a queue in memory -/
structure QIs (w : World) (vl vm : Value) (Q : Qu) (V : Nat → Value) : Prop where
  l : Sl w 6 Q.ls.length (encLs Q.ls V) vl
  c : Cls w V Q.ls
  m : Sl w 4 Q.ms.length (encMs Q.ms) vm
theorem QIs.below {w w' : World} {vl vm : Value} {Q : Qu} {V : Nat → Value} (h : QIs w vl vm Q V) (hb : Below w.heap.size w w') : QIs w' vl vm Q V := ⟨h.l.below hb, h.c.below hb, h.m.below hb⟩
abbrev quV (vl vm : Value) : Value := .agg #[vl, vm]
abbrev laV (l : PLn) (v : Value) : Value := .agg #[.int .i64 l.cr, .bool l.tw, .int .i64 l.lf, v, .int .i64 l.nx, .int .i64 l.ep]
abbrev meV (m : PMs) : Value := .agg #[.int .i64 m.ln, .int .i64 m.ep, .int .i64 m.n, .int .u64 m.pay]
/-- no list is great -/
structure OkQ (Q : Qu) : Prop where
  nl : Q.ls.length ≤ 1000
  nm : Q.ms.length ≤ 1000
  nc : ∀ j, j < Q.ls.length → (atP Q.ls j).cl.length ≤ 1000
theorem qis0 (w : World) : QIs w (.slice none 0 0) (.slice none 0 0) qu0 (fun _ => .slice none 0 0) := ⟨sl_nil _ _ _, fun j hj => absurd hj (by simp [qu0]), sl_nil _ _ _⟩
theorem okq0 : OkQ qu0 := ⟨by simp [qu0], by simp [qu0], fun j hj => absurd hj (by simp [qu0])⟩
/-- a contract that ends in Below, in a world of the class -/
theorem regrown_call {f : FuncId} {args : Array Value} {w : World} {v : Value} (h : ∀ W, Below w.heap.size w W → Calls Try.prog f args W fun e w' => e = .returned v ∧ Below W.heap.size W w') :
    ∀ d os, Calls Try.prog f args (grow (redrawn w d) os) fun e w'' => e = .returned v ∧ ∃ p : Regrown, w'' = grow (redrawn w p.d) p.os :=
  fun d os => Calls.regrown_of (h _ (below_regrown w d os))
theorem below_new (w : World) (o : Obj) : Below w.heap.size w (w.alloc o) := (Below.refl _ _).alloc (Nat.le_refl _) _

end Go.Proofs.Ytkgehbonijpdnaa
