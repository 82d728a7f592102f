/- The program's agenda and the document's, side by side. -/
import Derived.Test.YtafcgbahdfaiiaaEDrain3
import Derived.Test.YtafcgbahdfaiiaaERefD
namespace Go.Proofs.Ytafcgbahdfaiiaa
open Go.RowKit Go.Sort
set_option maxRecDepth 100000

/-- behind p the program's agenda D, behind r the document's E; none of the blocks Y is theirs -/
def Pr (w : World) (p r : Nat) (D : List En) (last : Nat) (E : List En) (last2 : Nat) (Y : Nat → Prop) : Prop :=
  ∃ rv, Srt E ∧ Rd w r rv E last2 ∧ Ag lessL w p D last (fun b => Y b ∨ rhas r rv b) ∧ ∀ b, Y b → b < w.heap.size ∧ ¬ rhas r rv b
section
variable {w w' : World} {p r : Nat} {D E : List En} {last last2 : Nat} {Y Z : Nat → Prop} {f : FuncId} {args : Array Value}
theorem Pr.below (t : Pr w p r D last E last2 Y) (h : Below w.heap.size w w') : Pr w' p r D last E last2 Y := by
  obtain ⟨rv, s, x, a, hy⟩ := t
  exact ⟨rv, s, x.below h, a.below h, fun b hb => ⟨Nat.lt_of_lt_of_le (hy b hb).1 h.size, (hy b hb).2⟩⟩
theorem Pr.less (t : Pr w p r D last E last2 Y) (h : ∀ b, Z b → Y b) : Pr w p r D last E last2 Z := by
  obtain ⟨rv, s, x, a, hy⟩ := t
  exact ⟨rv, s, x, a.less fun b hb => hb.elim (fun h' => .inl (h b h')) .inr, fun b hb => hy b (h b hb)⟩
theorem Pr.box (t : Pr w p r D last E last2 Y) (z : Obj) : Pr (w.alloc z) p r D last E last2 (fun b => Y b ∨ b = w.heap.size) := by
  obtain ⟨rv, s, x, a, hy⟩ := t
  have h : Below w.heap.size w (w.alloc z) := (Below.refl _ w).alloc (Nat.le_refl _) _
  refine ⟨rv, s, x.below h, (a.box z).less fun b hb => ?_, fun b hb => ?_⟩
  · rcases hb with (hb | hb) | hb
    · exact .inl (.inl hb)
    · exact .inr hb
    · exact .inl (.inr hb)
  · rcases hb with hb | rfl
    · exact ⟨Nat.lt_of_lt_of_le (hy b hb).1 h.size, (hy b hb).2⟩
    · exact ⟨by simp, fun hh => Nat.lt_irrefl _ (x.lt hh)⟩
theorem Pr.but {S : Nat → Prop} (t : Pr w p r D last E last2 Y) (h : But S w w') (hS : ∀ b, S b → Y b) : Pr w' p r D last E last2 Y := by
  obtain ⟨rv, s, x, a, hy⟩ := t
  exact ⟨rv, s, x.but h fun b hb hs => (hy b (hS b hs)).2 hb, a.but h fun b hs => .inl (hS b hs), fun b hb => ⟨Nat.lt_of_lt_of_le (hy b hb).1 h.size, (hy b hb).2⟩⟩
/-- what is new is nobody's -/
theorem Pr.grow {S : Nat → Prop} (t : Pr w p r D last E last2 Y) (h : But S w w') (hS : ∀ b, S b → Y b) : Pr w' p r D last E last2 (fun b => Y b ∨ (w.heap.size ≤ b ∧ b < w'.heap.size)) := by
  obtain ⟨rv, s, x, a, hy⟩ := t
  refine ⟨rv, s, x.but h fun b hb hs => (hy b (hS b hs)).2 hb, (a.grow h fun b hs => .inl (hS b hs)).less fun b hb => ?_, fun b hb => ?_⟩
  · rcases hb with (hb | hb) | hb
    · exact .inl (.inl hb)
    · exact .inr hb
    · exact .inl (.inr hb)
  · rcases hb with hb | hb
    · exact ⟨Nat.lt_of_lt_of_le (hy b hb).1 h.size, (hy b hb).2⟩
    · exact ⟨hb.2, fun hh => by have := x.lt hh; omega⟩
theorem Pr.ag (t : Pr w p r D last E last2 Y) : Ag lessL w p D last Y := by
  obtain ⟨rv, s, x, a, hy⟩ := t
  exact a.less fun _ h => .inl h
/-- a call of the program's -/
theorem Pr.stepL (t : Pr w p r D last E last2 Y) {R : Ending → List En → Nat → World → Prop} (h : ∀ X, Ag lessL w p D last X → Calls Try.prog f args w fun e w' => ∃ D' last', R e D' last' w' ∧ Ag lessL w' p D' last' X ∧ But (Els X) w w') :
    Calls Try.prog f args w fun e w' => ∃ D' last', R e D' last' w' ∧ Pr w' p r D' last' E last2 Y ∧ But (Els Y) w w' := by
  obtain ⟨rv, s, x, a, hy⟩ := t
  refine (h _ a).mono ?_
  rintro e w' ⟨D', last', hR, a', hb⟩
  exact ⟨D', last', hR, ⟨rv, s, x.but hb fun b hb' hs => hs (.inr hb'), a', fun b hb' => ⟨Nat.lt_of_lt_of_le (hy b hb').1 hb.size, (hy b hb').2⟩⟩, hb.mono fun _ h h' => h (.inl h')⟩
/-- a call of the document's -/
theorem Pr.stepR (t : Pr w p r D last E last2 Y) {R : Ending → List En → Nat → World → Prop} (h : ∀ X, Rn w r E last2 X → Calls Try.prog f args w fun e w' => ∃ D' last', R e D' last' w' ∧ Rn w' r D' last' X ∧ But (Els X) w w') :
    Calls Try.prog f args w fun e w' => ∃ D' last', R e D' last' w' ∧ Pr w' p r D last D' last' Y ∧ But (Els Y) w w' := by
  obtain ⟨rv, s, x, ⟨ok, o, A, ax, el⟩, hy⟩ := t
  refine (h (fun b => Y b ∨ o.has A b ∨ b = p) ⟨s, rv, x, fun b hb => ?_⟩).mono ?_
  · rcases hb with hb | hb | rfl
    · exact hy b hb
    · exact ⟨ax.rx.lt hb, fun hh => (ax.ny b (.inr hh)).2.1 hb⟩
    · exact ⟨ax.pb.lt, fun hh => (ax.ny b (.inr hh)).2.2.1 rfl⟩
  · rintro e w' ⟨D', last', hR, ⟨s', rv', x', hx'⟩, hb⟩
    refine ⟨D', last', hR, ⟨rv', s', x', ⟨ok, o, A, ⟨?_, ?_, ax.lv, trivial, fun b hb' => hb'.elim, fun b hb' => ?_, ax.np, ax.dn, ax.hp⟩, el⟩, fun b hb' => hx' b (.inl hb')⟩, hb.mono fun _ h h' => h (.inl h')⟩
    · exact ax.pb.but hb fun hn => hn (.inr (.inr rfl))
    · exact ax.rx.but hb fun b hb' hn => hn (.inr (.inl hb'))
    · rcases hb' with hb' | hb'
      · exact ⟨(hx' b (.inl hb')).1, (ax.ny b (.inl hb')).2⟩
      · exact ⟨x'.lt hb', fun hh => (hx' b (.inr (.inl hh))).2 hb', fun e => (hx' b (.inr (.inr e))).2 hb', fun h => h⟩
end
section
variable {w : World} {r : Nat} {last : Nat} {Y : Nat → Prop}
set_option maxHeartbeats 2000000 in
theorem Pop0 (a : Rn w r [] last Y) : Calls Try.prog 28 #[ptr r] w fun v w' => v = .returned tl0 ∧ Below w.heap.size w w' := by
  have a1 : Rn (bxT w) r [] last (fun b => Y b ∨ b = w.heap.size) := a.box _
  have cF := First0 a1
  have HB : Hid (Below w.heap.size w (bxT w)) := (Below.refl _ w).alloc (Nat.le_refl _) _
  have HR : Hid (Blk (bxT w) w.heap.size 27 [.int .i8 0, .int .i64 0]) := bxT_blk w
  clear a a1
  obtain ⟨w1, hw1⟩ : ∃ w1, bxT w = w1 := ⟨_, rfl⟩
  rw [hw1] at cF HR HB
  unfold bxT at hw1
  have HSZ : Hid (w.heap.size < w1.heap.size) := by rw [← hw1]; show _ < _; simp
  generalize hN : w.heap.size = N at *
  unfold tl0 thV at cF
  go_enter Try.func28, Try.ntmps28
  go_wp2_with fail
  refine cF.mono ?_
  rintro v w2 ⟨rfl, hb2⟩
  have hb3 : Below w2.heap.size w2 (bxV w2 0 0) := (Below.refl _ w2).alloc (Nat.le_refl _) _
  have m3 := blk_new w2 [.int .i8 0, .int .i64 0] 27
  have r3 := (HR.out.below hb2).below hb3
  have m0 := m3.cell (i := 0) rfl
  have m1 := m3.cell (i := 1) rfl
  have r0 := r3.cell (i := 0) rfl
  have r1 := r3.cell (i := 1) rfl
  have rf := r3.fz
  have HB3 : Hid (Below N w (bxV w2 0 0)) := (HB.out.trans (hb2.mono (Nat.le_of_lt HSZ.out))).trans (hb3.mono (by have := hb2.size; have := HSZ.out; omega))
  have hne : w2.heap.size ≠ N := by have := hb2.size; have := HSZ.out; omega
  clear cF hw1 hb2 hb3 m3 r3
  go_wp2_with fail
  exact bodyPost_ret (v := tl0) (by simp [results, Try.results28, go_sem, r0, r1]) rfl ⟨rfl, (HB3.out.setCell (Nat.le_refl _) _).setCell (Nat.le_refl _) _⟩
end
end Go.Proofs.Ytafcgbahdfaiiaa
