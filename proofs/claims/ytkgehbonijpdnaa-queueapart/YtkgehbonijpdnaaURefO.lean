/- The document's own: a copy, row by row. -/
import Derived.Test.YtkgehbonijpdnaaUOwn
namespace Go.Proofs.Ytkgehbonijpdnaa
open Go.RowKit
set_option maxRecDepth 100000

section
variable {w w' : World} {base size n : Nat} {e : TypeId} {v : Value} {xs : List Value}
theorem own_same (h : w.ownsRow base e size v n xs) (hb : ∀ b, v.ownBlock = some b → w'.heap[b]? = w.heap[b]?) : w'.ownsRow base e size v n xs := by
  refine ⟨h.1, ?_⟩
  rcases h.2 with hn | ⟨g, cap, cur, rfl, h1, h2, rest⟩
  · exact .inl hn
  · exact .inr ⟨g, cap, cur, rfl, h1, (hb g rfl).trans h2, rest⟩
theorem own_below (h : w.ownsRow base e size v n xs) (hb : Below w.heap.size w w') : w'.ownsRow base e size v n xs :=
  own_same h fun b eb => by
    rcases h.2 with ⟨rfl, _⟩ | ⟨g, cap, cur, rfl, _, h2, _⟩
    · cases eb
    · cases eb; exact hb.block g (Array.getElem?_eq_some_iff.1 h2).1
theorem own_set (h : w.ownsRow base e size v n xs) {b i : Nat} {u : Value} (hne : v.ownBlock ≠ some b) : (w.setCell ⟨b, i, none⟩ u).ownsRow base e size v n xs :=
  own_same h fun b' eb => Below.heap_setCell _ _ _ _ (by rintro rfl; exact hne eb)
/-- blocks of unlike types are two -/
theorem own_two {base' size' n' : Nat} {e' : TypeId} {v' : Value} {xs' : List Value} (h : w.ownsRow base e size v n xs) (h' : w.ownsRow base' e' size' v' n' xs') (hne : e ≠ e') : ∀ b, v.ownBlock = some b → v'.ownBlock ≠ some b := by
  intro b eb eb'
  rcases h.2 with ⟨rfl, _⟩ | ⟨g, cap, cur, rfl, _, h2, _⟩
  · cases eb
  · cases eb
    rcases h'.2 with ⟨rfl, _⟩ | ⟨g', cap', cur', rfl, _, h2', _⟩
    · cases eb'
    · cases eb'
      rw [h2] at h2'
      injection h2' with h3
      injection h3 with _ h4
      exact hne h4
theorem own_lt (h : w.ownsRow base e size v n xs) {b : Nat} (hb : v.ownBlock = some b) : b < w.heap.size := by
  rcases h.2 with ⟨rfl, _⟩ | ⟨g, cap, cur, rfl, _, h2, _⟩
  · cases hb
  · cases hb; exact (Array.getElem?_eq_some_iff.1 h2).1
theorem own_ne_blk {E : Nat} {T : TypeId} {l : List Value} (h : w.ownsRow base e size v n xs) (hk : Blk w E T l) (hne : e ≠ T) : v.ownBlock ≠ some E := by
  intro eb
  rcases h.2 with ⟨rfl, _⟩ | ⟨g, cap, cur, rfl, _, h2, _⟩
  · cases eb
  · have eb : g = E := by simpa [Value.ownBlock] using eb
    subst eb
    have h3 : w.heap[g]? = some (.cells l.toArray T (0, 0)) := hk
    rw [h2] at h3
    injection h3 with h3
    injection h3 with _ h4
    exact hne h4
theorem own_mono {base' : Nat} (h : w.ownsRow base e size v n xs) (hb : base' ≤ base) : w.ownsRow base' e size v n xs := by
  refine ⟨h.1, ?_⟩
  rcases h.2 with hn | ⟨g, cap, cur, rfl, h1, rest⟩
  · exact .inl hn
  · exact .inr ⟨g, cap, cur, rfl, Nat.le_trans hb h1, rest⟩
theorem own_base (h : w.ownsRow base e size v n xs) {b : Nat} (hb : v.ownBlock = some b) : base ≤ b := own_blk h b hb
theorem own_form2 (h : w.ownsRow base e size v n xs) : ∃ a cap, v = .slice a n cap := by
  rcases h.2 with ⟨rfl, rfl⟩ | ⟨g, cap, cur, rfl, _⟩
  · exact ⟨_, _, rfl⟩
  · exact ⟨_, _, rfl⟩
end
/-- what is read is appended to a row of one's own -/
theorem wpList_app {t e : TypeId} {size bytes : Nat} {z : Value} (E0 : Elt t e size bytes z) {ops : Array Oper} {rest : List Oper} {o : Oper} {a : Act} {w : World} {Q : Exit → Act → World → Prop} (hgd : o.guard = none) (s x : Operand)
    (hop : o.op = .call { callee := .builtin .append, args := #[s, x], argTypes := #[t, t] }) (base : Nat) (v u : Value) (n m : Nat) (xs : List Value) (c : Nat → Nat → Value)
    (hs : a.eval s = v) (hx : a.eval x = u) (hown : w.ownsRow base e size v n xs) (hu : Sl w size m c u) (h1 : ∀ j, j < m → ∀ f, f < size → (c j f).oneCell' = true) (hl : n + m ≤ 1000000) (hbase : base ≤ w.heap.size)
    (hK : ∀ v' w', w'.ownsRow base e size v' (n + m) (xs ++ cellsL m size c) → w.grownBy w' v.ownBlock → wpList Try.prog ops Q rest (a.put o.dst v') w') : wpList Try.prog ops Q (o :: rest) a w := by
  obtain ⟨i0, hi, hz0, hz1, hz2⟩ := info_parts E0.hi
  refine wpList_plain hgd fun K hK' => ?_
  obtain ⟨ao, cap, rfl, hc, hnil, hr⟩ := hu
  cases ao with
  | none =>
    obtain ⟨rfl, rfl⟩ := hnil rfl
    have hrun := run_append_owned_none (P := Try.prog) (w := w) base t o.type e i0 size E0.ht hi v n xs hown
    unfold Oper.wp
    simp [execOp, hop, resolve, invoke, builtin, hs, hx, hrun, Result.andThen]
    refine hK' _ _ (hK v w ?_ (World.grownBy.refl w _))
    have : cellsL 0 size c = [] := List.length_eq_zero_iff.1 (by rw [cellsL_len]; omega)
    rw [this]
    simpa using hown
  | some ad =>
    have h64 : (n + m) * bytes ≤ 140737488355328 := by
      have := Nat.mul_le_mul hl E0.hb
      omega
    refine wp_append_own w s x t hop base e i0 z size bytes E0.ht hi hz0 hz1 hz2 E0.hz E0.hs v n xs hs hown ad m cap (cellsL m size c) hx (cellsL_len _ _ _) (fun j y hj => ?_) (cellsL_mem E0.hs h1) (by unfold maxLen; omega) h64 hbase fun v' w' h1 h2 _ => hK' _ _ (hK v' w' h1 h2)
    have hlt := (List.getElem?_eq_some_iff.1 hj).1
    rw [cellsL_len] at hlt
    have h0 : 0 < m := by
      rcases Nat.eq_zero_or_pos m with h | h
      · subst h; simp at hlt
      · exact h
    obtain ⟨b, off, e', _⟩ := hr 0 h0
    cases e'
    rw [Go.WideShapes.add_plain]
    refine cellsL_src (fun j hj f hf => ?_) hj
    obtain ⟨b', off', e'', hc'⟩ := hr j hj
    cases e''
    exact hc' f hf
/-- the same, in a region that draws its order -/
theorem step_app {t e : TypeId} {size bytes : Nat} {z : Value} (E0 : Elt t e size bytes z) {ops : Array Oper} {o : Oper} {a : Act} {w : World} {K : Act → World → Prop} {Q : Exit → Act → World → Prop} {E : Prop} (hgd : o.guard = none) (s x : Operand)
    (hop : o.op = .call { callee := .builtin .append, args := #[s, x], argTypes := #[t, t] }) (base : Nat) (v : Value) (n m : Nat) (xs : List Value) (c : Nat → Nat → Value) (ad : Addr) (cap : Nat)
    (hs : a.eval s = v) (hx : a.eval x = .slice (some ad) m cap) (hown : w.ownsRow base e size v n xs) (hu : Sl w size m c (.slice (some ad) m cap)) (h1 : ∀ j, j < m → ∀ f, f < size → (c j f).oneCell' = true) (hl : n + m ≤ 1000000) (hbase : base ≤ w.heap.size)
    (hK : ∀ v' w', w'.ownsRow base e size v' (n + m) (xs ++ cellsL m size c) → w.grownBy w' v.ownBlock → K (a.put o.dst v') w') :
    if Region.wanted o (yielded ops a.tmps) = true then Oper.wp Try.prog o a w K Q else E := by
  obtain ⟨i0, hi, hz0, hz1, hz2⟩ := info_parts E0.hi
  rw [if_pos (by simp [Region.wanted, hgd])]
  obtain ⟨_, _, e0, hc, hnil, hr⟩ := hu
  cases e0
  have h64 : (n + m) * bytes ≤ 140737488355328 := by
    have := Nat.mul_le_mul hl E0.hb
    omega
  refine wp_append_own w s x t hop base e i0 z size bytes E0.ht hi hz0 hz1 hz2 E0.hz E0.hs v n xs hs hown ad m cap (cellsL m size c) hx (cellsL_len _ _ _) (fun j y hj => ?_) (cellsL_mem E0.hs h1) (by unfold maxLen; omega) h64 hbase fun v' w' h1 h2 _ => hK v' w' h1 h2
  have hlt := (List.getElem?_eq_some_iff.1 hj).1
  rw [cellsL_len] at hlt
  have h0 : 0 < m := by
    rcases Nat.eq_zero_or_pos m with h | h
    · subst h; simp at hlt
    · exact h
  obtain ⟨b, off, e', _⟩ := hr 0 h0
  cases e'
  rw [Go.WideShapes.add_plain]
  refine cellsL_src (fun j hj f hf => ?_) hj
  obtain ⟨b', off', e'', hc'⟩ := hr j hj
  cases e''
  exact hc' f hf
theorem cells_own {m size : Nat} {c : Nat → Nat → Value} : ∀ j, j < m → ∀ f, f < size → (([] : List Value) ++ cellsL m size c)[j * size + f]? = some (c j f) := fun j hj f hf => by rw [List.nil_append]; exact cellsL_at hj hf
theorem grown_below {w w' : World} {b : Option Nat} (h : w.grownBy w' b) {B : Nat} (hB : B ≤ w.heap.size) (hb : ∀ g, b = some g → B ≤ g) : Below B w w' :=
  ⟨h.os, h.tape, h.output, h.size, fun k hk => h.block k (by omega) (by intro e; have := hb k e.symm; omega)⟩
/-- what own hands back -/
structure Owned (w : World) (base : Nat) (vl vm : Value) (Q : Qu) (V : Nat → Value) : Prop where
  l : ∃ xs, w.ownsRow base 57 6 vl Q.ls.length xs ∧ ∀ j, j < Q.ls.length → ∀ f, f < 6 → xs[j * 6 + f]? = some (encLs Q.ls V j f)
  c : ∀ j, j < Q.ls.length → ∃ xs, w.ownsRow base 3 1 (V j) (atP Q.ls j).cl.length xs ∧ ∀ i, i < (atP Q.ls j).cl.length → xs[i]? = some (.int .i64 (atI (atP Q.ls j).cl i))
  m : ∃ xs, w.ownsRow base 44 4 vm Q.ms.length xs ∧ ∀ j, j < Q.ms.length → ∀ f, f < 4 → xs[j * 4 + f]? = some (encMs Q.ms j f)
  d : ∀ i j, i < j → j < Q.ls.length → ∀ b, (V i).ownBlock = some b → (V j).ownBlock ≠ some b
theorem Owned.qis {w : World} {base : Nat} {vl vm : Value} {Q : Qu} {V : Nat → Value} (h : Owned w base vl vm Q V) : QIs w vl vm Q V := by
  obtain ⟨xs, h1, h2⟩ := h.l
  obtain ⟨ys, h3, h4⟩ := h.m
  refine ⟨sl_own h1 h2, fun j hj => ?_, sl_own h3 h4⟩
  obtain ⟨zs, h5, h6⟩ := h.c j hj
  exact sl_own h5 fun i hi f hf => by
    obtain rfl : f = 0 := by omega
    rw [Nat.mul_one, Nat.add_zero]
    exact h6 i hi
theorem Owned.new {w : World} {base : Nat} {vl vm : Value} {Q : Qu} {V : Nat → Value} (h : Owned w base vl vm Q V) : QNew base vl vm Q V := by
  obtain ⟨xs, h1, h2⟩ := h.l
  obtain ⟨ys, h3, h4⟩ := h.m
  refine ⟨fun b e => own_blk h1 b e, fun b e => own_blk h3 b e, fun j hj _ b e => ?_⟩
  obtain ⟨zs, h5, h6⟩ := h.c j hj
  exact own_blk h5 b e

end Go.Proofs.Ytkgehbonijpdnaa
