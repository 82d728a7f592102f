/- lattice.read: a policy, both ways. -/
import Derived.Test.YtcfpfddbbhphgabLLeaf
namespace Go.Proofs.Ytcfpfddbbhphgab
open Go.RowKit Go.Shelf

/-! ### read -/
theorem wpIn_calm {F : Fence} {n : Nat} {P : Program} {c : Code} {K : Act → World → Prop} {Q' : Exit → Act → World → Prop} {a : Act} {w : World} (h : c.wpIn F n P (Exit.then K (fun _ _ _ => False)) a w) : c.wpIn F n P (Exit.then K Q') a w := by
  refine Go.wpIn_mono h ?_
  intro e a' w' hq
  cases e with
  | normal => exact hq
  | exit id => exact hq.elim
  | goto l => exact hq.elim
  | ret => exact hq.elim
  | panic ch => exact hq.elim
  | outgrown => exact hq.elim
theorem Boxed.through {W W' : World} {B : Nat} {t : TypeId} {v : Value} (h : Boxed W B t v) (hb : Below W.heap.size W W') : Boxed W' B t v := (hb.block B h.lt).trans h
theorem pbox_set {W : World} {B : Nat} {u d : Value} (h : PBox W B u d) (u' d' : Value) : PBox ((W.setCell ⟨B, 0, none⟩ u').setCell ⟨B, 1, none⟩ d') B u' d' := by
  constructor
  · rw [World.cell?_setCell_other _ _ _ _ (by intro h; cases h)]
    exact World.cell?_setCell_same' _ _ _ (by rw [h.1]; rfl)
  · exact World.cell?_setCell_same' _ _ _ (by rw [World.cell?_setCell_other _ _ _ _ (by intro h; cases h), h.2]; rfl)
theorem Cells.store {W : World} {k : IntKind} {a : Option Addr} {n : Nat} {z : Nat → Int} (h : Cells W k a n z) {p : Addr} {u : Value} (hp : W.cell? p = some u) (hu : ∀ x, u ≠ .int k x) (v : Value) : Cells (W.setCell p v) k a n z := fun j hj => by
  obtain ⟨b, off, e, hcell⟩ := h j hj
  refine ⟨b, off, e, ?_⟩
  rw [World.cell?_setCell_other _ _ _ _ (fun e => by rw [← e, hp] at hcell; exact hu _ (Option.some.inj hcell))]
  exact hcell
theorem below_set2 {w W : World} {B : Nat} (h : Below w.heap.size w W) (hB : w.heap.size ≤ B) (u' d' : Value) : Below w.heap.size w ((W.setCell ⟨B, 0, none⟩ u').setCell ⟨B, 1, none⟩ d') :=
  (h.setCell (p := ⟨B, 0, none⟩) hB _).setCell (p := ⟨B, 1, none⟩) hB _
/-- what read answers: an error, or the policy both ways -/
def Reads (w : World) (a : Option Addr) (n cap : Nat) (z : Nat → Int) (e : Ending) (w' : World) : Prop :=
  Below w.heap.size w w' ∧ ((polE n z ≠ 0 ∧ e = .returned (.tuple #[.agg #[.slice none 0 0, .slice none 0 0], .int .i64 (polE n z)])) ∨
    (polE n z = 0 ∧ ∃ d dc, e = .returned (.tuple #[.agg #[.slice a n cap, .slice d n dc], .int .i64 0]) ∧ Cells w' .u64 d n (turnTo z n)))
set_option maxHeartbeats 1000000 in
theorem read_un (a : Option Addr) (n cap : Nat) (z : Nat → Int) (w : World) (hn : n < 9223372036854775807) (hc : Cells w .u64 a n z) (hz : Bds n z) :
    Calls Try.prog 20 #[.slice a n cap] w (Reads w a n cap z) := by
  have HC : Hid (Cells w .u64 a n z) := hc
  have hch := fun w' h => check2_un a n cap z w' hn h hz
  clear hc
  by_cases h1 : polE n z = 0
  · have hp := pol_of hz h1
    have htu := fun w' h => turn_un a n cap z w' hn h hz
    rw [hp.chk] at htu
    rw [h1] at hch
    have hl : lenIf 0 n = n := by simp [lenIf]
    have H1 : Hid (polE n z = 0) := h1
    have hB : Below w.heap.size w (w.alloc (.cells #[.slice none 0 0, .slice none 0 0] 51)) := (Below.refl _ w).alloc (Nat.le_refl _) _
    have hP := pbox_new w (.slice none 0 0) (.slice none 0 0) 51
    have hF := pbox_frozen w (.slice none 0 0) (.slice none 0 0) 51
    clear h1 hz hp
    go_enter Try.func20, Try.ntmps20
    go_wp2_with fail
    refine (hch _ (HC.out.below hB)).mono ?_
    rintro e w1 ⟨rfl, hb1⟩
    go_wp2_with fail
    refine (htu _ (HC.out.below (Below.onto hB hb1))).mono ?_
    rintro e w2 ⟨v, cv, rfl, hv, hb2⟩
    rw [hl] at hv
    rw [hl]
    have HV : Hid (Cells w2 .u64 v n (turnTo z n)) := hv
    have hb12 : Below _ _ w2 := Below.onto hb1 hb2
    have HQ : Hid (PBox w2 w.heap.size (.slice none 0 0) (.slice none 0 0)) := hP.below hb12
    obtain ⟨hp1, hp2⟩ := HQ.out
    obtain ⟨hf1, hf2⟩ := hF w2 hb12
    clear hF hP hv
    go_wp2_with fail
    obtain ⟨g1, g2⟩ := pbox_set HQ.out (.slice a n cap) (.slice v n cv)
    have hB2 := below_set2 (Below.onto hB hb12) (Nat.le_refl _) (.slice a n cap) (.slice v n cv)
    have HV2 : Hid (Cells ((w2.setCell ⟨w.heap.size, 0, none⟩ (.slice a n cap)).setCell ⟨w.heap.size, 1, none⟩ (.slice v n cv)) .u64 v n (turnTo z n)) :=
      (HV.out.store hp1 (fun _ h => by cases h) _).store ((World.cell?_setCell_other _ _ _ _ (by intro h; cases h)).trans hp2) (fun _ h => by cases h) _
    generalize (w2.setCell ⟨w.heap.size, 0, none⟩ (.slice a n cap)).setCell ⟨w.heap.size, 1, none⟩ (.slice v n cv) = W at g1 g2 hB2 HV2 ⊢
    refine bodyPost_ret_by (v := .tuple #[.agg #[.slice a n cap, .slice v n cv], .int .i64 0]) ?_ rfl ?_
    · simp [results, Try.f20, go_sem, g1, g2]
    · exact ⟨hB2, .inr ⟨H1.out, v, cv, rfl, HV2.out⟩⟩
  · have hne : (polE n z != 0) = true := by simp [h1]
    have H1 : Hid (polE n z ≠ 0) := h1
    have hB : Below w.heap.size w (w.alloc (.cells #[.slice none 0 0, .slice none 0 0] 51)) := (Below.refl _ w).alloc (Nat.le_refl _) _
    have hP := pbox_new w (.slice none 0 0) (.slice none 0 0) 51
    have hF := pbox_frozen w (.slice none 0 0) (.slice none 0 0) 51
    clear h1 hz
    go_enter Try.func20, Try.ntmps20
    go_wp2_with fail
    refine (hch _ (HC.out.below hB)).mono ?_
    rintro e w1 ⟨rfl, hb1⟩
    have HQ : Hid (PBox w1 w.heap.size (.slice none 0 0) (.slice none 0 0)) := hP.below hb1
    obtain ⟨hp1, hp2⟩ := HQ.out
    obtain ⟨hf1, hf2⟩ := hF w1 hb1
    clear hF hP
    go_wp2_with fail
    obtain ⟨g1, g2⟩ := pbox_set HQ.out (.slice none 0 0) (.slice none 0 0)
    have hB2 := below_set2 (Below.onto hB hb1) (Nat.le_refl _) (.slice none 0 0) (.slice none 0 0)
    generalize (w1.setCell ⟨w.heap.size, 0, none⟩ (.slice none 0 0)).setCell ⟨w.heap.size, 1, none⟩ (.slice none 0 0) = W at g1 g2 hB2 ⊢
    refine bodyPost_ret_by (v := .tuple #[.agg #[.slice none 0 0, .slice none 0 0], .int .i64 (polE n z)]) ?_ rfl ?_
    · simp [results, Try.f20, go_sem, g1, g2]
    · exact ⟨hB2, .inl ⟨H1.out, rfl⟩⟩

end Go.Proofs.Ytcfpfddbbhphgab
