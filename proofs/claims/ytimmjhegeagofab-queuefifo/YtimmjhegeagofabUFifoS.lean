/- QueueFifo: the law's step, whatever the act; what its loop keeps. -/
import Derived.Test.YtimmjhegeagofabUStep0
import Derived.Test.YtimmjhegeagofabUStep2
import Derived.Test.YtimmjhegeagofabUStep3
import Derived.Test.YtimmjhegeagofabUStep4
import Derived.Test.YtimmjhegeagofabUFifoN
namespace Go.Proofs.Ytimmjhegeagofab
open Go.RowKit Go.Sort
set_option maxRecDepth 100000

theorem step_any (ql qm vc vs vt : Value) (R : Rn) (V : Nat → Value) (l : List Int) (i : Nat) (k ln x : Int) (nn : Nat) (w : World) (hi : i ≤ 900) (hnn : nn < 256) (hk : R.Ok l i) (hr : RIs w ql qm vc vs vt R V) : Calls Try.prog 25 #[runV ql qm vc vs vt, opV k ln (nn : Int) x] w fun e w' =>
    ∃ ql' qm' vc' vs' vt' R' V', e = .returned (runV ql' qm' vc' vs' vt') ∧ RIs w' ql' qm' vc' vs' vt' R' V' ∧ R'.Ok l (i + 1) ∧ Below w.heap.size w w' := by
  by_cases h1 : k = 1
  · subst h1; exact step1_any ql qm vc vs vt R V l i ln (nn : Int) x w hi hk hr
  by_cases h2 : k = 2
  · subst h2
    by_cases h0 : R.cl.length = 0
    · exact step2_none ql qm vc vs vt R V l i ln (nn : Int) x w h0 hk hr
    · by_cases hE : R.q.pbE (atC R.cl (nn % R.cl.length)).1 (atC R.cl (nn % R.cl.length)).2.1 (atC R.cl (nn % R.cl.length)).2.2 = 0
      · exact step2_ok ql qm vc vs vt R V l i ln x nn w hi hnn (by omega) hE hk hr
      · exact step2_no ql qm vc vs vt R V l i ln x nn w hi hnn (by omega) hE hk hr
  by_cases h3 : k = 3
  · subst h3; exact step3_any ql qm vc vs vt R V l i ln (nn : Int) x w hi hk hr
  by_cases h4 : k = 4
  · subst h4
    by_cases h0 : R.tk.length = 0
    · exact step4_none ql qm vc vs vt R V l i ln (nn : Int) x w h0 hk hr
    · exact step4_any ql qm vc vs vt R V l i ln x nn w hi hnn (by omega) hk hr
  exact step0_any ql qm vc vs vt R V l i k ln (nn : Int) x w h1 h2 h3 h4 hk hr
/-- values that are no numbers -/
def noI : Value → Bool
  | .int _ _ => false
  | _ => true
/-- numbers do not lie in a box that holds none -/
theorem Sl.box {w w' : World} {B s n : Nat} {T : TypeId} {l : List Value} {c : Nat → Nat → Value} {v : Value} (h : Sl w s n c v) (hs : 0 < s) (hi : ∀ j, j < n → noI (c j 0) = false) (hb : Blk w B T l) (hl : ∀ y ∈ l, noI y = true) (hw : ∀ b, b ≠ B → w'.heap[b]? = w.heap[b]?) : Sl w' s n c v := by
  obtain ⟨a, cap, rfl, h1, h2, hr⟩ := h
  refine ⟨a, cap, rfl, h1, h2, fun j hj => ?_⟩
  obtain ⟨b, off, e, hc⟩ := hr j hj
  have hne : b ≠ B := by
    rintro rfl
    have h3 := hc 0 hs
    have h4 : w.cell? ⟨b, off + j * s + 0, none⟩ = l[off + j * s + 0]? := by rw [cell_of_row w b _ _ T (0, 0) hb]; simp
    rw [h4] at h3
    have h5 := hl _ (List.mem_of_getElem? h3)
    rw [hi j hj] at h5
    cases h5
  exact ⟨b, off, e, fun f hf => (World.cell?_of_block (w := w) (a := ⟨b, off + j * s + f, none⟩) (hw b hne)).trans (hc f hf)⟩
theorem RIs.box {w w' : World} {ql qm vc vs vt : Value} {R : Rn} {V : Nat → Value} {B : Nat} {T : TypeId} {l : List Value} (h : RIs w ql qm vc vs vt R V) (hb : Blk w B T l) (hl : ∀ y ∈ l, noI y = true) (hw : ∀ b, b ≠ B → w'.heap[b]? = w.heap[b]?) : RIs w' ql qm vc vs vt R V :=
  ⟨⟨h.q.l.box (by decide) (fun _ _ => rfl) hb hl hw, fun j hj => Sl.box (h.q.c j hj) (by decide) (fun _ _ => rfl) hb hl hw, h.q.m.box (by decide) (fun _ _ => rfl) hb hl hw⟩,
    h.c.box (by decide) (fun _ _ => rfl) hb hl hw, h.s.box (by decide) (fun _ _ => rfl) hb hl hw, h.t.box (by decide) (fun _ _ => rfl) hb hl hw, h.pc, h.ps, h.pt⟩
/-- what QueueFifo's loop keeps -/
structure FiI (w0 w : World) (B : Nat) (vl ql qm vc vs vt : Value) (R : Rn) (V : Nat → Value) (cs : List Int) (i : Nat) : Prop where
  box : Blk w B 54 [ql, qm, vc, vs, vt, .bool true]
  ri : RIs w ql qm vc vs vt R V
  ok : R.Ok cs i
  row : w.ownsRow w0.heap.size 3 1 vl cs.length (cs.map (Value.int .i64))
  bel : Below w0.heap.size w0 w
  bb : w0.heap.size ≤ B
theorem FiI.grow {w0 w w' : World} {B : Nat} {vl ql qm vc vs vt : Value} {R : Rn} {V : Nat → Value} {cs : List Int} {i : Nat} (h : FiI w0 w B vl ql qm vc vs vt R V cs i) (hb : Below w.heap.size w w') : FiI w0 w' B vl ql qm vc vs vt R V cs i :=
  ⟨h.box.below hb, h.ri.below hb, h.ok, own_below h.row hb, Below.onto h.bel hb, h.bb⟩
theorem ris_no {w : World} {ql qm vc vs vt : Value} {R : Rn} {V : Nat → Value} (h : RIs w ql qm vc vs vt R V) : ∀ y ∈ [ql, qm, vc, vs, vt, .bool true], noI y = true := by
  obtain ⟨_, _, rfl, _⟩ := h.q.l
  obtain ⟨_, _, rfl, _⟩ := h.q.m
  obtain ⟨_, _, rfl, _⟩ := h.c
  obtain ⟨_, _, rfl, _⟩ := h.s
  obtain ⟨_, _, rfl, _⟩ := h.t
  intro y hy
  simp only [List.mem_cons, List.not_mem_nil, or_false] at hy
  rcases hy with rfl | rfl | rfl | rfl | rfl | rfl <;> rfl
/-- the box is stored anew -/
theorem FiI.store {w0 w w3 : World} {B : Nat} {vl ql qm vc vs vt ql' qm' vc' vs' vt' : Value} {R R' : Rn} {V V' : Nat → Value} {cs : List Int} {i : Nat} (h : FiI w0 w B vl ql qm vc vs vt R V cs i) (hb : Below w.heap.size w w3) (hr : RIs w3 ql' qm' vc' vs' vt' R' V') (hk : R'.Ok cs (i + 1)) :
    FiI w0 ((((((w3.setCell ⟨B, 0, none⟩ ql').setCell ⟨B, 1, none⟩ qm').setCell ⟨B, 2, none⟩ vc').setCell ⟨B, 3, none⟩ vs').setCell ⟨B, 4, none⟩ vt').setCell ⟨B, 5, none⟩ (.bool true)) B vl ql' qm' vc' vs' vt' R' V' cs (i + 1) := by
  have h3 := h.grow hb
  have k := (((((h3.box.set 0 ql').set 1 qm').set 2 vc').set 3 vs').set 4 vt').set 5 (.bool true)
  have hw : ∀ b, b ≠ B → ((((((w3.setCell ⟨B, 0, none⟩ ql').setCell ⟨B, 1, none⟩ qm').setCell ⟨B, 2, none⟩ vc').setCell ⟨B, 3, none⟩ vs').setCell ⟨B, 4, none⟩ vt').setCell ⟨B, 5, none⟩ (.bool true)).heap[b]? = w3.heap[b]? := fun b hb => by
    rw [Below.heap_setCell _ _ _ _ hb, Below.heap_setCell _ _ _ _ hb, Below.heap_setCell _ _ _ _ hb, Below.heap_setCell _ _ _ _ hb, Below.heap_setCell _ _ _ _ hb, Below.heap_setCell _ _ _ _ hb]
  refine ⟨k, hr.box h3.box (ris_no h3.ri) hw, hk, own_same h3.row fun b eb => hw b ?_, (((((h3.bel.setCell h.bb _).setCell h.bb _).setCell h.bb _).setCell h.bb _).setCell h.bb _).setCell h.bb _, h.bb⟩
  rintro rfl
  exact own_ne_blk h3.row h3.box (by decide) eb
theorem FiI.row_at {w0 w : World} {B n cap : Nat} {a : Option Addr} {ql qm vc vs vt : Value} {R : Rn} {V : Nat → Value} {cs : List Int} {i : Nat} (h : FiI w0 w B (.slice a n cap) ql qm vc vs vt R V cs i) (hn : cs.length = n) {k : Nat} (hk : k < n) : ∃ g, a = some ⟨g, 0, none⟩ ∧ n ≤ cap ∧ w.cell? ⟨g, k, none⟩ = some (.int .i64 (atI cs k)) := by
  subst hn
  rcases h.row.2 with ⟨_, h0⟩ | ⟨g, cap', cur, e1, _, _, h3, _⟩
  · omega
  · injection e1 with e1 _ e2
    subst e1 e2
    refine ⟨g, rfl, h3, ?_⟩
    have := h.row.cells (g := g) rfl k (.int .i64 (atI cs k)) (by simp [atI, hk])
    rwa [Go.WideShapes.add_plain, Nat.zero_add] at this
theorem cntF_take {ms : List PMs} {m : Nat} (hm : m < ms.length) (k : Int) : cnt (ms.take (m + 1)) k = cnt (ms.take m) k + if (atM ms m).ln = k then 1 else 0 := by
  rw [atM_eq hm, ← List.take_append_getElem hm]
  unfold cnt
  rw [List.filter_append, List.length_append]
  congr 1
  by_cases h : ms[m].ln = k
  · simp [h]
  · simp [h]
theorem cntF_le (ms : List PMs) (m : Nat) (k : Int) : cnt (ms.take m) k ≤ m := by
  unfold cnt
  refine Nat.le_trans (List.length_filter_le _ _) ?_
  rw [List.length_take]
  omega
end Go.Proofs.Ytimmjhegeagofab
