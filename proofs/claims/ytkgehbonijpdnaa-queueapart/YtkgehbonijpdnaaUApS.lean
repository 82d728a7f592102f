/- QueueApart: two queues in two boxes, three rows of one's own; what keeps them apart. -/
import Derived.Test.YtkgehbonijpdnaaUApM
import Derived.Test.YtkgehbonijpdnaaUFifoA
namespace Go.Proofs.Ytkgehbonijpdnaa
open Go.RowKit Go.Sort
set_option maxRecDepth 100000

/-- what may change: the blocks of S, and new ones -/
structure Chg (S : Nat → Prop) (w w' : World) : Prop where
  os : w'.os = w.os
  tape : w'.tape = w.tape
  output : w'.output = w.output
  size : w.heap.size ≤ w'.heap.size
  block : ∀ k, k < w.heap.size → ¬ S k → w'.heap[k]? = w.heap[k]?
theorem Chg.of {S : Nat → Prop} {w w' : World} (h : Below w.heap.size w w') : Chg S w w' := ⟨h.os, h.tape, h.output, h.size, fun k hk _ => h.block k hk⟩
theorem Chg.refl (S : Nat → Prop) (w : World) : Chg S w w := ⟨rfl, rfl, rfl, Nat.le_refl _, fun _ _ _ => rfl⟩
theorem Chg.trans {S : Nat → Prop} {a b c : World} (h : Chg S a b) (k : Chg S b c) : Chg S a c :=
  ⟨k.os.trans h.os, k.tape.trans h.tape, k.output.trans h.output, Nat.le_trans h.size k.size, fun i hi hs => (k.block i (Nat.lt_of_lt_of_le hi h.size) hs).trans (h.block i hi hs)⟩
theorem Chg.set {S : Nat → Prop} {a w : World} (h : Chg S a w) {b i : Nat} (hb : S b) (u : Value) : Chg S a (w.setCell ⟨b, i, none⟩ u) :=
  h.trans ⟨rfl, rfl, rfl, by simp [World.setCell], fun k hk hs => Below.heap_setCell _ _ _ _ (by rintro rfl; exact hs hb)⟩
theorem Chg.below {S : Nat → Prop} {B : Nat} {w w' : World} (h : Chg S w w') (hB : B ≤ w.heap.size) (hS : ∀ k, S k → B ≤ k) : Below B w w' :=
  ⟨h.os, h.tape, h.output, h.size, fun k hk => h.block k (by omega) fun hs => by have := hS k hs; omega⟩
theorem Chg.grown {w w' : World} {v : Value} (h : w.grownBy w' v.ownBlock) : Chg (fun b => v.ownBlock = some b) w w' := ⟨h.os, h.tape, h.output, h.size, fun k hk hs => h.block k hk fun e => hs e.symm⟩
section
variable {w w' : World} {S : Nat → Prop}
theorem Sl.chg {s n : Nat} {c : Nat → Nat → Value} {v : Value} (h : Sl w s n c v) (hb : Chg S w w') (hS : n ≠ 0 → ∀ b, v.ownBlock = some b → ¬ S b) : Sl w' s n c v := by
  obtain ⟨a, cap, rfl, h1, h2, hr⟩ := h
  refine ⟨a, cap, rfl, h1, h2, fun j hj => ?_⟩
  obtain ⟨b, off, e, hc⟩ := hr j hj
  have hne : ¬ S b := hS (by omega) b (by rw [e]; rfl)
  exact ⟨b, off, e, fun f hf => (World.cell?_of_block (w := w) (a := ⟨b, off + j * s + f, none⟩) (hb.block b (cell_lt (hc f hf)) hne)).trans (hc f hf)⟩
/-- where a slice that holds something lies -/
theorem Sl.lt {s n : Nat} {c : Nat → Nat → Value} {v : Value} (h : Sl w s n c v) (hs : 0 < s) (hn : n ≠ 0) {b : Nat} (hb : v.ownBlock = some b) : b < w.heap.size := by
  obtain ⟨a, cap, rfl, h1, h2, hr⟩ := h
  obtain ⟨b', off, rfl, hc⟩ := hr 0 (by omega)
  cases hb
  exact cell_lt (hc 0 hs)
/-- no part of a queue that holds anything lies in block b -/
structure QOff (ql qm : Value) (A : Qu) (V : Nat → Value) (b : Nat) : Prop where
  l : A.ls.length ≠ 0 → ql.ownBlock ≠ some b
  m : A.ms.length ≠ 0 → qm.ownBlock ≠ some b
  c : ∀ j, j < A.ls.length → (atP A.ls j).cl.length ≠ 0 → (V j).ownBlock ≠ some b
variable {ql qm : Value} {A : Qu} {V : Nat → Value}
theorem QIs.chg (h : QIs w ql qm A V) (hb : Chg S w w') (hS : ∀ b, S b → QOff ql qm A V b) : QIs w' ql qm A V :=
  ⟨h.l.chg hb fun hn b e hs => (hS b hs).l hn e, fun j hj => Sl.chg (h.c j hj) hb fun hn b e hs => (hS b hs).c j hj hn e, h.m.chg hb fun hn b e hs => (hS b hs).m hn e⟩
theorem QIs.box {B : Nat} {T : TypeId} {l : List Value} (h : QIs w ql qm A V) (hb : Blk w B T l) (hl : ∀ y ∈ l, noI y = true) (hw : ∀ b, b ≠ B → w'.heap[b]? = w.heap[b]?) : QIs w' ql qm A V :=
  ⟨h.l.box (by decide) (fun _ _ => rfl) hb hl hw, fun j hj => Sl.box (h.c j hj) (by decide) (fun _ _ => rfl) hb hl hw, h.m.box (by decide) (fun _ _ => rfl) hb hl hw⟩
/-- what is new lies in no block that was there -/
theorem QNew.off {B b : Nat} (h : QNew B ql qm A V) (hb : b < B) : QOff ql qm A V b :=
  ⟨fun _ e => by have := h.l b e; omega, fun _ e => by have := h.m b e; omega, fun j hj h0 e => by have := h.c j hj h0 b e; omega⟩
/-- what is there lies in no new block -/
theorem QIs.off {b : Nat} (h : QIs w ql qm A V) (hb : w.heap.size ≤ b) : QOff ql qm A V b :=
  ⟨fun hn e => by have := h.l.lt (by decide) hn e; omega, fun hn e => by have := h.m.lt (by decide) hn e; omega, fun j hj h0 e => by have := Sl.lt (h.c j hj) (by decide) h0 e; omega⟩
/-- a queue and a row are apart -/
def QSep (ql qm : Value) (A : Qu) (V : Nat → Value) (v : Value) : Prop := ∀ b, v.ownBlock = some b → QOff ql qm A V b
theorem QSep.nil : QSep ql qm A V (.slice none 0 0) := fun b e => by cases e
/-- a new queue is apart from the rows that were there -/
theorem qsep_new {B base size n : Nat} {e : TypeId} {v : Value} {xs : List Value} (h : QNew B ql qm A V) (hv : w.ownsRow base e size v n xs) (hB : w.heap.size ≤ B) : QSep ql qm A V v := fun b eb => h.off (by have := own_lt hv eb; omega)
/-- a row that grew is apart from the queues that were there -/
theorem QSep.app {v v' : Value} (h : QSep ql qm A V v) (hq : QIs w ql qm A V) (hl : v'.ownBlock = v.ownBlock ∨ ∃ b, v'.ownBlock = some b ∧ w.heap.size ≤ b) : QSep ql qm A V v' := fun b eb => by
  rcases hl with hl | ⟨g, hl, hg⟩
  · exact h b (hl ▸ eb)
  · rw [hl] at eb
    cases eb
    exact hq.off hg
end
/-- claims, messages in rows -/
def clC3 (c : Int × Int × Int) : List Value := [.int .i64 c.1, .int .i64 c.2.1, .int .i64 c.2.2]
def msC4 (m : PMs) : List Value := [.int .i64 m.ln, .int .i64 m.ep, .int .i64 m.n, .int .u64 m.pay]
/-- what QueueApart's loop keeps in memory -/
structure AJ (w0 w : World) (PA PB : Nat) (ql qm pl pm vm vo vt : Value) (A B : Qu) (VA VB : Nat → Value) (mn ot : List (Int × Int × Int)) (tk : List PMs) : Prop where
  ba : Blk w PA 30 [ql, qm]
  bb : Blk w PB 30 [pl, pm]
  qa : QIs w ql qm A VA
  qb : QIs w pl pm B VB
  rm : w.ownsRow w0.heap.size 47 3 vm mn.length (mn.flatMap clC3)
  ro : w.ownsRow w0.heap.size 47 3 vo ot.length (ot.flatMap clC3)
  rt : w.ownsRow w0.heap.size 44 4 vt tk.length (tk.flatMap msC4)
  mo : ∀ b, vm.ownBlock = some b → vo.ownBlock ≠ some b
  sa : QSep ql qm A VA vm ∧ QSep ql qm A VA vo ∧ QSep ql qm A VA vt
  sb : QSep pl pm B VB vm ∧ QSep pl pm B VB vo ∧ QSep pl pm B VB vt
  bel : Below w0.heap.size w0 w
  pa : w0.heap.size ≤ PA
  pb : w0.heap.size ≤ PB
  ne : PA ≠ PB
theorem qis_no {w : World} {ql qm : Value} {A : Qu} {V : Nat → Value} (h : QIs w ql qm A V) : ∀ y ∈ [ql, qm], noI y = true := by
  obtain ⟨_, _, rfl, _⟩ := h.l
  obtain ⟨_, _, rfl, _⟩ := h.m
  intro y hy
  simp only [List.mem_cons, List.not_mem_nil, or_false] at hy
  rcases hy with rfl | rfl <;> rfl
section
variable {w0 w w' : World} {PA PB : Nat} {ql qm pl pm vm vo vt : Value} {A B : Qu} {VA VB : Nat → Value} {mn ot : List (Int × Int × Int)} {tk : List PMs}
theorem AJ.grow (h : AJ w0 w PA PB ql qm pl pm vm vo vt A B VA VB mn ot tk) (hb : Below w.heap.size w w') : AJ w0 w' PA PB ql qm pl pm vm vo vt A B VA VB mn ot tk :=
  ⟨h.ba.below hb, h.bb.below hb, h.qa.below hb, h.qb.below hb, own_below h.rm hb, own_below h.ro hb, own_below h.rt hb, h.mo, h.sa, h.sb, Below.onto h.bel hb, h.pa, h.pb, h.ne⟩
/-- a queue is stored into the first box -/
theorem AJ.storeA (h : AJ w0 w PA PB ql qm pl pm vm vo vt A B VA VB mn ot tk) {ul um : Value} {A' : Qu} {V' : Nat → Value} (hq : QIs w ul um A' V') (hs : QSep ul um A' V' vm ∧ QSep ul um A' V' vo ∧ QSep ul um A' V' vt) :
    AJ w0 ((w.setCell ⟨PA, 0, none⟩ ul).setCell ⟨PA, 1, none⟩ um) PA PB ul um pl pm vm vo vt A' B V' VB mn ot tk := by
  have hw : ∀ b, b ≠ PA → ((w.setCell ⟨PA, 0, none⟩ ul).setCell ⟨PA, 1, none⟩ um).heap[b]? = w.heap[b]? := fun b hb => by rw [Below.heap_setCell _ _ _ _ hb, Below.heap_setCell _ _ _ _ hb]
  have hn := qis_no h.qa
  refine ⟨(h.ba.set 0 ul).set 1 um, h.bb.same (hw PB (Ne.symm h.ne)), hq.box h.ba hn hw, h.qb.box h.ba hn hw, own_same h.rm fun b eb => hw b ?_, own_same h.ro fun b eb => hw b ?_, own_same h.rt fun b eb => hw b ?_, h.mo, hs, h.sb, (h.bel.setCell h.pa _).setCell h.pa _, h.pa, h.pb, h.ne⟩
  · rintro rfl; exact own_ne_blk h.rm h.ba (by decide) eb
  · rintro rfl; exact own_ne_blk h.ro h.ba (by decide) eb
  · rintro rfl; exact own_ne_blk h.rt h.ba (by decide) eb
/-- into the second -/
theorem AJ.storeB (h : AJ w0 w PA PB ql qm pl pm vm vo vt A B VA VB mn ot tk) {ul um : Value} {B' : Qu} {V' : Nat → Value} (hq : QIs w ul um B' V') (hs : QSep ul um B' V' vm ∧ QSep ul um B' V' vo ∧ QSep ul um B' V' vt) :
    AJ w0 ((w.setCell ⟨PB, 0, none⟩ ul).setCell ⟨PB, 1, none⟩ um) PA PB ql qm ul um vm vo vt A B' VA V' mn ot tk := by
  have hw : ∀ b, b ≠ PB → ((w.setCell ⟨PB, 0, none⟩ ul).setCell ⟨PB, 1, none⟩ um).heap[b]? = w.heap[b]? := fun b hb => by rw [Below.heap_setCell _ _ _ _ hb, Below.heap_setCell _ _ _ _ hb]
  have hn := qis_no h.qb
  refine ⟨h.ba.same (hw PA h.ne), (h.bb.set 0 ul).set 1 um, h.qa.box h.bb hn hw, hq.box h.bb hn hw, own_same h.rm fun b eb => hw b ?_, own_same h.ro fun b eb => hw b ?_, own_same h.rt fun b eb => hw b ?_, h.mo, h.sa, hs, (h.bel.setCell h.pb _).setCell h.pb _, h.pa, h.pb, h.ne⟩
  · rintro rfl; exact own_ne_blk h.rm h.bb (by decide) eb
  · rintro rfl; exact own_ne_blk h.ro h.bb (by decide) eb
  · rintro rfl; exact own_ne_blk h.rt h.bb (by decide) eb
theorem chg_below {v : Value} {base size n : Nat} {e : TypeId} {xs : List Value} (hb : Chg (fun b => v.ownBlock = some b) w w') (hv : w.ownsRow base e size v n xs) (hB : base ≤ w.heap.size) : Below base w w' := hb.below hB fun _ hk => own_base hv hk
/-- a claim more of one's own -/
theorem AJ.tellM (h : AJ w0 w PA PB ql qm pl pm vm vo vt A B VA VB mn ot tk) {v' : Value} {c : Int × Int × Int} (ho : w'.ownsRow w0.heap.size 47 3 v' (mn.length + 1) (mn.flatMap clC3 ++ clC3 c)) (hb : Chg (fun b => vm.ownBlock = some b) w w') (hl : v'.ownBlock = vm.ownBlock ∨ ∃ b, v'.ownBlock = some b ∧ w.heap.size ≤ b) :
    AJ w0 w' PA PB ql qm pl pm v' vo vt A B VA VB (mn ++ [c]) ot tk := by
  refine ⟨h.ba.same (hb.block _ h.ba.lt fun e => own_ne_blk h.rm h.ba (by decide) e), h.bb.same (hb.block _ h.bb.lt fun e => own_ne_blk h.rm h.bb (by decide) e), h.qa.chg hb fun b e => h.sa.1 b e, h.qb.chg hb fun b e => h.sb.1 b e, ?_, own_same h.ro fun b eb => hb.block b (own_lt h.ro eb) fun e => h.mo b e eb, own_same h.rt fun b eb => hb.block b (own_lt h.rt eb) fun e => own_two h.rm h.rt (by decide) b e eb, ?_, ⟨h.sa.1.app h.qa hl, h.sa.2⟩, ⟨h.sb.1.app h.qb hl, h.sb.2⟩, h.bel.trans (chg_below hb h.rm h.bel.size), h.pa, h.pb, h.ne⟩
  · rw [List.length_append, List.flatMap_append]
    simpa using ho
  · intro b eb eb'
    rcases hl with hl | ⟨g, hl, hg⟩
    · exact h.mo b (hl ▸ eb) eb'
    · rw [hl] at eb; cases eb; have := own_lt h.ro eb'; omega
/-- a claim more of the others' -/
theorem AJ.tellO (h : AJ w0 w PA PB ql qm pl pm vm vo vt A B VA VB mn ot tk) {v' : Value} {c : Int × Int × Int} (ho : w'.ownsRow w0.heap.size 47 3 v' (ot.length + 1) (ot.flatMap clC3 ++ clC3 c)) (hb : Chg (fun b => vo.ownBlock = some b) w w') (hl : v'.ownBlock = vo.ownBlock ∨ ∃ b, v'.ownBlock = some b ∧ w.heap.size ≤ b) :
    AJ w0 w' PA PB ql qm pl pm vm v' vt A B VA VB mn (ot ++ [c]) tk := by
  refine ⟨h.ba.same (hb.block _ h.ba.lt fun e => own_ne_blk h.ro h.ba (by decide) e), h.bb.same (hb.block _ h.bb.lt fun e => own_ne_blk h.ro h.bb (by decide) e), h.qa.chg hb fun b e => h.sa.2.1 b e, h.qb.chg hb fun b e => h.sb.2.1 b e, own_same h.rm fun b eb => hb.block b (own_lt h.rm eb) fun e => h.mo b eb e, ?_, own_same h.rt fun b eb => hb.block b (own_lt h.rt eb) fun e => own_two h.ro h.rt (by decide) b e eb, ?_, ⟨h.sa.1, h.sa.2.1.app h.qa hl, h.sa.2.2⟩, ⟨h.sb.1, h.sb.2.1.app h.qb hl, h.sb.2.2⟩, h.bel.trans (chg_below hb h.ro h.bel.size), h.pa, h.pb, h.ne⟩
  · rw [List.length_append, List.flatMap_append]
    simpa using ho
  · intro b eb eb'
    rcases hl with hl | ⟨g, hl, hg⟩
    · exact h.mo b eb (hl ▸ eb')
    · rw [hl] at eb'; cases eb'; have := own_lt h.rm eb; omega
/-- a message more -/
theorem AJ.tellT (h : AJ w0 w PA PB ql qm pl pm vm vo vt A B VA VB mn ot tk) {v' : Value} {m : PMs} (ho : w'.ownsRow w0.heap.size 44 4 v' (tk.length + 1) (tk.flatMap msC4 ++ msC4 m)) (hb : Chg (fun b => vt.ownBlock = some b) w w') (hl : v'.ownBlock = vt.ownBlock ∨ ∃ b, v'.ownBlock = some b ∧ w.heap.size ≤ b) :
    AJ w0 w' PA PB ql qm pl pm vm vo v' A B VA VB mn ot (tk ++ [m]) := by
  refine ⟨h.ba.same (hb.block _ h.ba.lt fun e => own_ne_blk h.rt h.ba (by decide) e), h.bb.same (hb.block _ h.bb.lt fun e => own_ne_blk h.rt h.bb (by decide) e), h.qa.chg hb fun b e => h.sa.2.2 b e, h.qb.chg hb fun b e => h.sb.2.2 b e, own_same h.rm fun b eb => hb.block b (own_lt h.rm eb) fun e => own_two h.rm h.rt (by decide) b eb e, own_same h.ro fun b eb => hb.block b (own_lt h.ro eb) fun e => own_two h.ro h.rt (by decide) b eb e, ?_, h.mo, ⟨h.sa.1, h.sa.2.1, h.sa.2.2.app h.qa hl⟩, ⟨h.sb.1, h.sb.2.1, h.sb.2.2.app h.qb hl⟩, h.bel.trans (chg_below hb h.rt h.bel.size), h.pa, h.pb, h.ne⟩
  rw [List.length_append, List.flatMap_append]
  simpa using ho
/-- a queue that a call made is apart from the rows -/
theorem AJ.sep (h : AJ w0 w PA PB ql qm pl pm vm vo vt A B VA VB mn ot tk) {N : Nat} {ul um : Value} {A' : Qu} {V' : Nat → Value} (hq : QNew N ul um A' V') (hN : w.heap.size ≤ N) : QSep ul um A' V' vm ∧ QSep ul um A' V' vo ∧ QSep ul um A' V' vt :=
  ⟨qsep_new hq h.rm hN, qsep_new hq h.ro hN, qsep_new hq h.rt hN⟩
end
end Go.Proofs.Ytkgehbonijpdnaa
