/- Arenas in memory: their shape, what they hold, where they lie. -/
import Derived.Test.YtobpignlamekmaaKNew
namespace Go.Proofs.Ytobpignlamekmaa
open Go.RowKit

/-- an arena's shape: so many partitions, so many slots; a partition's size and first slot, a slot's partition -/
structure Sh where
  P : Nat
  N : Nat
  sz : Nat → Nat
  fs : Nat → Nat
  pt : Nat → Nat
/-- a slot's place in its partition -/
def Sh.ql (h : Sh) (n : Nat) : Nat := n - h.fs (h.pt n)
structure Sh.Ok (h : Sh) : Prop where
  p16 : h.P ≤ 16
  s256 : ∀ k, k < h.P → h.sz k ≤ 256
  at_ : ∀ n, n < h.N → h.pt n < h.P ∧ h.fs (h.pt n) ≤ n ∧ n < h.fs (h.pt n) + h.sz (h.pt n)
  in_ : ∀ k i, k < h.P → i < h.sz k → h.fs k + i < h.N ∧ h.pt (h.fs k + i) = k
  n4 : h.N ≤ 4096
  f4 : ∀ k, k < h.P → h.fs k ≤ 4096
  e4 : ∀ k, k < h.P → h.fs k + h.sz k ≤ h.N
theorem Sh.Ok.ql {h : Sh} (o : h.Ok) {n : Nat} (hn : n < h.N) : h.ql n < 256 ∧ h.fs (h.pt n) + h.ql n = n := by
  have h1 := o.at_ n hn
  have h2 := o.s256 _ h1.1
  unfold Sh.ql
  omega
theorem Sh.Ok.inj {h : Sh} (o : h.Ok) {n m : Nat} (hn : n < h.N) (hm : m < h.N) (e : h.pt n * 258 + 2 + h.ql n = h.pt m * 258 + 2 + h.ql m) : n = m := by
  have h1 := o.ql hn
  have h2 := o.ql hm
  have h3 : h.pt n = h.pt m := by omega
  rw [h3] at h1
  omega

/-- what an arena holds: payloads, generations, free slots -/
structure Da where
  pay : Nat → Int
  gen : Nat → Int
  R : Nat → List Nat
structure Da.Ok (h : Sh) (d : Da) : Prop where
  own : ∀ k, k < h.P → ∀ x, x ∈ d.R k → h.pt x = k
  zero : ∀ k, k < h.P → ∀ x, x ∈ d.R k → d.pay x = 0
  g64 : ∀ n, 0 ≤ d.gen n ∧ d.gen n < 18446744073709551616
  p64 : ∀ n, 0 ≤ d.pay n ∧ d.pay n < 18446744073709551616
/-- is a slot free? -/
def Da.fr (h : Sh) (d : Da) (n : Nat) : Bool := decide (n ∈ d.R (h.pt n))

/-- where an arena lies -/
structure Po where
  p : Nat
  bp : Nat
  bs : Nat
  sa : Option Addr
  sc : Nat
  l : Pl
def Po.has (o : Po) (b : Nat) : Prop := b = o.p ∨ b = o.bp ∨ (o.sa = some ⟨b, 0, none⟩) ∨ o.l.has b
abbrev Po.ptr (o : Po) : Value := .pointer (some ⟨o.p, 0, none⟩)

structure Ax (w : World) (o : Po) (h : Sh) (d : Da) : Prop where
  c0 : w.cell? ⟨o.p, 0, none⟩ = some (.slice (some ⟨o.bp, 0, none⟩) h.P h.P)
  c1 : w.cell? ⟨o.p, 1, none⟩ = some (.slice o.sa h.N o.sc)
  c2 : w.cell? ⟨o.p, 2, none⟩ = some o.l.ptr
  sa : 0 < h.N → o.sa = some ⟨o.bs, 0, none⟩
  f0 : ∀ k, k < h.P → w.cell? ⟨o.bp, k * 258, none⟩ = some (.int .i64 (h.fs k : Int))
  f1 : ∀ k, k < h.P → w.cell? ⟨o.bp, k * 258 + 1, none⟩ = some (.int .i64 (h.sz k : Int))
  g : ∀ n, n < h.N → w.cell? ⟨o.bp, h.pt n * 258 + 2 + h.ql n, none⟩ = some (.int .u64 (d.gen n))
  s0 : ∀ n, n < h.N → w.cell? ⟨o.bs, n * 2, none⟩ = some (.int .i64 (h.pt n : Int))
  s1 : ∀ n, n < h.N → w.cell? ⟨o.bs, n * 2 + 1, none⟩ = some (.int .u64 (d.pay n))
  fp : ∀ i, w.frozen? ⟨o.bp, i, none⟩ = false
  fs : 0 < h.N → ∀ i, w.frozen? ⟨o.bs, i, none⟩ = false
  n1 : o.p ≠ o.bp
  n2 : ∀ b, o.sa = some ⟨b, 0, none⟩ → b ≠ o.p ∧ b ≠ o.bp ∧ ¬ o.l.has b
  n3 : ¬ o.l.has o.p ∧ ¬ o.l.has o.bp
  lt : ∀ b, o.has b → b < w.heap.size
  kv : Kv w o.l h.N h.P d.R
  sh : h.Ok
  da : d.Ok h

theorem Ax.same {w w' : World} {o : Po} {h : Sh} {d : Da} (a : Ax w o h d) (hsz : w.heap.size ≤ w'.heap.size) (hb : ∀ b, o.has b → w'.heap[b]? = w.heap[b]?) : Ax w' o h d := by
  have hc : ∀ b i, o.has b → w'.cell? ⟨b, i, none⟩ = w.cell? ⟨b, i, none⟩ := fun b i ho => World.cell?_of_block (w := w) (a := ⟨b, i, none⟩) (hb b ho)
  have hf : ∀ b i, o.has b → w'.frozen? ⟨b, i, none⟩ = w.frozen? ⟨b, i, none⟩ := fun b i ho => World.frozen?_of_block (w := w) (a := ⟨b, i, none⟩) (hb b ho)
  have hp : o.has o.p := .inl rfl
  have hbp : o.has o.bp := .inr (.inl rfl)
  have hbs : 0 < h.N → o.has o.bs := fun hn => .inr (.inr (.inl (a.sa hn)))
  obtain ⟨s, e1, e2, e3, e4⟩ := a.kv
  exact ⟨(hc _ _ hp).trans a.c0, (hc _ _ hp).trans a.c1, (hc _ _ hp).trans a.c2, a.sa, fun k hk => (hc _ _ hbp).trans (a.f0 k hk), fun k hk => (hc _ _ hbp).trans (a.f1 k hk),
    fun n hn => (hc _ _ hbp).trans (a.g n hn), fun n hn => (hc _ _ (hbs (by omega))).trans (a.s0 n hn), fun n hn => (hc _ _ (hbs (by omega))).trans (a.s1 n hn),
    fun i => (hf _ _ hbp).trans (a.fp i), fun hn i => (hf _ _ (hbs hn)).trans (a.fs hn i), a.n1, a.n2, a.n3, fun b hb => Nat.lt_of_lt_of_le (a.lt b hb) hsz,
    ⟨s, e1, e2, e3.same hsz fun b ho => hb b (.inr (.inr (.inr ho))), e4⟩, a.sh, a.da⟩
theorem Ax.but {w w' : World} {o : Po} {h : Sh} {d : Da} {S : Nat → Prop} (a : Ax w o h d) (hb : But S w w') (hS : ∀ b, o.has b → ¬ S b) : Ax w' o h d :=
  a.same hb.size fun b ho => hb.block b (a.lt b ho) (hS b ho)
theorem Ax.below {w w' : World} {o : Po} {h : Sh} {d : Da} (a : Ax w o h d) (hb : Below w.heap.size w w') : Ax w' o h d :=
  a.same hb.size fun b ho => hb.block b (a.lt b ho)
theorem Ax.alloc {w : World} {o : Po} {h : Sh} {d : Da} (a : Ax w o h d) (x : Obj) : Ax (w.alloc x) o h d := a.below ((Below.refl _ w).alloc (Nat.le_refl _) _)

theorem Ax.rng {w : World} {o : Po} {h : Sh} {d : Da} (a : Ax w o h d) {k x : Nat} (hk : k < h.P) (hx : x ∈ d.R k) : x < h.N := (a.kv.len hk).2.2.2 x hx
theorem Ax.len {w : World} {o : Po} {h : Sh} {d : Da} (a : Ax w o h d) {k : Nat} (hk : k < h.P) : (d.R k).length ≤ h.N := (a.kv.len hk).1
/-- the list of a free slot is its partition's -/
theorem Ax.whr {w : World} {o : Po} {h : Sh} {d : Da} (a : Ax w o h d) {n : Nat} (hn : n < h.N) : (whr d.R h.P n).isSome = d.fr h n := by
  unfold Da.fr
  cases hw : Ytobpignlamekmaa.whr d.R h.P n with
  | none =>
    have := whr_none hw (h.pt n) (a.sh.at_ n hn).1
    simp [this]
  | some k =>
    obtain ⟨h1, h2⟩ := whr_some hw
    have h3 := a.da.own k h1 n h2
    rw [h3]
    simp [h2]
theorem Ax.ofB {w : World} {o : Po} {h : Sh} {d : Da} (a : Ax w o h d) {n : Nat} (hn : n < h.N) : ofB h.N h.P d.R n = d.fr h n := by
  have h1 : inR h.N (n : Int) = true := inR_iff.2 (by omega)
  unfold Ytobpignlamekmaa.ofB
  rw [h1, show ((n : Int)).toNat = n by omega, a.whr hn]
  rfl

section
variable {w : World} {o : Po} {h : Sh} {d : Da}
/-- another payload -/
theorem Ax.setPay (a : Ax w o h d) {n : Nat} (hn : n < h.N) {x : Int} (hf : d.fr h n = true → x = 0) (hx : 0 ≤ x ∧ x < 18446744073709551616) : Ax (w.setCell ⟨o.bs, n * 2 + 1, none⟩ (.int .u64 x)) o h { d with pay := upd d.pay n x } := by
  obtain ⟨m1, m2, m3⟩ := a.n2 o.bs (a.sa (by omega))
  have hbl : ∀ b, b ≠ o.bs → (w.setCell ⟨o.bs, n * 2 + 1, none⟩ (.int .u64 x)).heap[b]? = w.heap[b]? := fun b hb => Below.heap_setCell _ _ _ _ hb
  obtain ⟨s, e1, e2, e3, e4⟩ := a.kv
  refine ⟨?_, ?_, ?_, a.sa, ?_, ?_, ?_, ?_, ?_, ?_, ?_, a.n1, a.n2, a.n3, ?_, ⟨s, e1, e2, e3.same (by rw [hs_set]; exact Nat.le_refl _) (fun b ho => hbl b (by rintro rfl; exact m3 ho)), e4⟩, a.sh, ?_⟩
  · rw [cell_set_ne (.inl (Ne.symm m1))]; exact a.c0
  · rw [cell_set_ne (.inl (Ne.symm m1))]; exact a.c1
  · rw [cell_set_ne (.inl (Ne.symm m1))]; exact a.c2
  · intro k hk; rw [cell_set_ne (.inl (Ne.symm m2))]; exact a.f0 k hk
  · intro k hk; rw [cell_set_ne (.inl (Ne.symm m2))]; exact a.f1 k hk
  · intro k hk; rw [cell_set_ne (.inl (Ne.symm m2))]; exact a.g k hk
  · intro k hk; rw [cell_set_ne (.inr (by omega))]; exact a.s0 k hk
  · intro k hk
    show _ = some (Value.int .u64 (upd d.pay n x k))
    by_cases e : k = n
    · subst e; rw [cell_set_eq (a.s1 k hk), upd_at]
    · rw [cell_set_ne (.inr (by omega)), upd_ne e]; exact a.s1 k hk
  · intro i; rw [fz_set]; exact a.fp i
  · intro hn i; rw [fz_set]; exact a.fs hn i
  · intro b ho; rw [hs_set]; exact a.lt b ho
  · refine ⟨a.da.own, ?_, a.da.g64, ?_⟩
    · intro k hk y hy
      show upd d.pay n x y = 0
      by_cases e : y = n
      · subst e
        rw [upd_at]
        refine hf ?_
        unfold Da.fr
        rw [a.da.own k hk y hy]
        simpa using hy
      · rw [upd_ne e]; exact a.da.zero k hk y hy
    · intro k
      show 0 ≤ upd d.pay n x k ∧ upd d.pay n x k < _
      by_cases e : k = n
      · subst e; rw [upd_at]; exact hx
      · rw [upd_ne e]; exact a.da.p64 k
/-- another generation -/
theorem Ax.setGen (a : Ax w o h d) {n : Nat} (hn : n < h.N) {x : Int} (hx : 0 ≤ x ∧ x < 18446744073709551616) : Ax (w.setCell ⟨o.bp, h.pt n * 258 + 2 + h.ql n, none⟩ (.int .u64 x)) o h { d with gen := upd d.gen n x } := by
  obtain ⟨m1, m2, m3⟩ := a.n2 o.bs (a.sa (by omega))
  have q1 := a.sh.ql hn
  have hbl : ∀ b, b ≠ o.bp → (w.setCell ⟨o.bp, h.pt n * 258 + 2 + h.ql n, none⟩ (.int .u64 x)).heap[b]? = w.heap[b]? := fun b hb => Below.heap_setCell _ _ _ _ hb
  obtain ⟨s, e1, e2, e3, e4⟩ := a.kv
  refine ⟨?_, ?_, ?_, a.sa, ?_, ?_, ?_, ?_, ?_, ?_, ?_, a.n1, a.n2, a.n3, ?_, ⟨s, e1, e2, e3.same (by rw [hs_set]; exact Nat.le_refl _) (fun b ho => hbl b (by rintro rfl; exact a.n3.2 ho)), e4⟩, a.sh, ?_⟩
  · rw [cell_set_ne (.inl a.n1)]; exact a.c0
  · rw [cell_set_ne (.inl a.n1)]; exact a.c1
  · rw [cell_set_ne (.inl a.n1)]; exact a.c2
  · intro k hk; rw [cell_set_ne (.inr (by omega))]; exact a.f0 k hk
  · intro k hk; rw [cell_set_ne (.inr (by omega))]; exact a.f1 k hk
  · intro k hk
    show _ = some (Value.int .u64 (upd d.gen n x k))
    by_cases e : k = n
    · subst e; rw [cell_set_eq (a.g k hk), upd_at]
    · rw [cell_set_ne (.inr fun e' => e (a.sh.inj hk hn e')), upd_ne e]; exact a.g k hk
  · intro k hk; rw [cell_set_ne (.inl m2)]; exact a.s0 k hk
  · intro k hk; rw [cell_set_ne (.inl m2)]; exact a.s1 k hk
  · intro i; rw [fz_set]; exact a.fp i
  · intro hn i; rw [fz_set]; exact a.fs hn i
  · intro b ho; rw [hs_set]; exact a.lt b ho
  · refine ⟨a.da.own, a.da.zero, ?_, a.da.p64⟩
    intro k
    show 0 ≤ upd d.gen n x k ∧ upd d.gen n x k < _
    by_cases e : k = n
    · subst e; rw [upd_at]; exact hx
    · rw [upd_ne e]; exact a.da.g64 k
/-- other free lists -/
theorem Ax.setR {w' : World} {R' : Nat → List Nat} (a : Ax w o h d) (hb : But o.l.has w w') (hk : Kv w' o.l h.N h.P R') (hd : ({ d with R := R' } : Da).Ok h) : Ax w' o h { d with R := R' } := by
  have hc : ∀ b i, ¬ o.l.has b → b < w.heap.size → w'.cell? ⟨b, i, none⟩ = w.cell? ⟨b, i, none⟩ := fun b i ho hl => World.cell?_of_block (w := w) (a := ⟨b, i, none⟩) (hb.block b hl ho)
  have hf : ∀ b i, ¬ o.l.has b → b < w.heap.size → w'.frozen? ⟨b, i, none⟩ = w.frozen? ⟨b, i, none⟩ := fun b i ho hl => World.frozen?_of_block (w := w) (a := ⟨b, i, none⟩) (hb.block b hl ho)
  have hp := fun i => hc o.p i a.n3.1 (a.lt _ (.inl rfl))
  have hbp := fun i => hc o.bp i a.n3.2 (a.lt _ (.inr (.inl rfl)))
  have hbs := fun (hn : 0 < h.N) i => hc o.bs i (a.n2 o.bs (a.sa hn)).2.2 (a.lt _ (.inr (.inr (.inl (a.sa hn)))))
  exact ⟨(hp _).trans a.c0, (hp _).trans a.c1, (hp _).trans a.c2, a.sa, fun k hk => (hbp _).trans (a.f0 k hk), fun k hk => (hbp _).trans (a.f1 k hk),
    fun n hn => (hbp _).trans (a.g n hn), fun n hn => (hbs (by omega) _).trans (a.s0 n hn), fun n hn => (hbs (by omega) _).trans (a.s1 n hn),
    fun i => (hf _ _ a.n3.2 (a.lt _ (.inr (.inl rfl)))).trans (a.fp i), fun hn i => (hf _ _ (a.n2 o.bs (a.sa hn)).2.2 (a.lt _ (.inr (.inr (.inl (a.sa hn)))))).trans (a.fs hn i), a.n1, a.n2, a.n3,
    fun b ho => Nat.lt_of_lt_of_le (a.lt b ho) hb.size, hk, a.sh, hd⟩
end
end Go.Proofs.Ytobpignlamekmaa
