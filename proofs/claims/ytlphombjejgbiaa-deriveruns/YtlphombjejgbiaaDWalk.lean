/- All below a node: the walk that calls itself in its own rounds. -/
import Derived.Test.YtlphombjejgbiaaDTell
import Derived.Test.YtlphombjejgbiaaDMath
import Derived.Test.YtlphombjejgbiaaKOps
namespace Go.Proofs.Ytlphombjejgbiaa
open Go.RowKit Go.Shelf
attribute [local go_sem] Oper.semAt_some
set_option maxRecDepth 100000

/-- what was found so far: T, in an array of 1024, and its count -/
structure Fnd (W : World) (F C : Nat) (T : List Nat) : Prop where
  c : ∀ i, i < 1024 → ∃ x : Int, W.cell? ⟨F, i, none⟩ = some (.int .i64 x)
  t : ∀ i, i < T.length → W.cell? ⟨F, i, none⟩ = some (.int .i64 (atL T i))
  f : ∀ i, W.frozen? ⟨F, i, none⟩ = false
  b : Boxed W C 3 (.int .i64 (T.length : Int))
  ne : F ≠ C
theorem Fnd.same {W W' : World} {F C : Nat} {T : List Nat} (h : Fnd W F C T) (hF : W'.heap[F]? = W.heap[F]?) (hC : W'.heap[C]? = W.heap[C]?) : Fnd W' F C T :=
  ⟨fun i hi => by obtain ⟨x, hx⟩ := h.c i hi; exact ⟨x, (World.cell?_of_block (a := ⟨F, i, none⟩) hF).trans hx⟩, fun i hi => (World.cell?_of_block (a := ⟨F, i, none⟩) hF).trans (h.t i hi),
    fun i => (World.frozen?_of_block (a := ⟨F, i, none⟩) hF).trans (h.f i), hC.trans h.b, h.ne⟩
theorem Fnd.lt {W : World} {F C : Nat} {T : List Nat} (h : Fnd W F C T) : F < W.heap.size ∧ C < W.heap.size := by
  obtain ⟨x, hx⟩ := h.c 0 (by omega)
  exact ⟨cell_lt hx, h.b.lt⟩
theorem Fnd.but {W W' : World} {F C : Nat} {T : List Nat} {S : Nat → Prop} (h : Fnd W F C T) (hb : But S W W') (h1 : ¬ S F) (h2 : ¬ S C) : Fnd W' F C T :=
  h.same (hb.block _ h.lt.1 h1) (hb.block _ h.lt.2 h2)
theorem Fnd.below {W W' : World} {F C : Nat} {T : List Nat} (h : Fnd W F C T) (hb : Below W.heap.size W W') : Fnd W' F C T :=
  h.same (hb.block _ h.lt.1) (hb.block _ h.lt.2)
theorem atL_app {T : List Nat} {x i : Nat} (h : i < T.length) : atL (T ++ [x]) i = atL T i := by simp [atL, List.getD, List.getElem?_append_left h]
theorem atL_last (T : List Nat) (x : Nat) : atL (T ++ [x]) T.length = (x : Int) := by simp [atL, List.getD]

theorem Fnd.push {W : World} {F C : Nat} {T : List Nat} (h : Fnd W F C T) (hT : T.length < 1024) (x : Nat) :
    Fnd ((W.setCell ⟨F, T.length, none⟩ (.int .i64 (x : Int))).setCell ⟨C, 0, none⟩ (.int .i64 ((T.length : Int) + 1))) F C (T ++ [x]) := by
  have b2 : Boxed (W.setCell ⟨F, T.length, none⟩ (.int .i64 (x : Int))) C 3 (.int .i64 (T.length : Int)) := (Below.heap_setCell _ _ _ _ (Ne.symm h.ne)).trans h.b
  have cell : ∀ i, i ≠ T.length → ((W.setCell ⟨F, T.length, none⟩ (.int .i64 (x : Int))).setCell ⟨C, 0, none⟩ (.int .i64 ((T.length : Int) + 1))).cell? ⟨F, i, none⟩ = W.cell? ⟨F, i, none⟩ := fun i hi => by
    rw [cell_set_ne (.inl h.ne), cell_set_ne (.inr hi)]
  have at1 : ((W.setCell ⟨F, T.length, none⟩ (.int .i64 (x : Int))).setCell ⟨C, 0, none⟩ (.int .i64 ((T.length : Int) + 1))).cell? ⟨F, T.length, none⟩ = some (.int .i64 (x : Int)) := by
    obtain ⟨y, hy⟩ := h.c _ hT
    rw [cell_set_ne (.inl h.ne), cell_set_eq hy]
  refine ⟨fun i hi => ?_, fun i hi => ?_, fun i => ?_, ?_, h.ne⟩
  · by_cases e : i = T.length
    · subst e; exact ⟨_, at1⟩
    · rw [cell i e]; exact h.c i hi
  · by_cases e : i = T.length
    · subst e; rw [atL_last]; exact at1
    · rw [List.length_append] at hi
      have hi' : i < T.length := by simp at hi; omega
      rw [cell i e, atL_app hi']; exact h.t i hi'
  · rw [fz_set, fz_set]; exact h.f i
  · have := b2.set (.int .i64 ((T.length : Int) + 1))
    rw [List.length_append]; exact this
set_option maxHeartbeats 1000000 in
theorem found1_k (F C x : Nat) (T : List Nat) (W : World) (h : Fnd W F C T) (hT : T.length < 1024) :
    Calls Try.prog 82 #[.int .i64 (x : Int), .pointer (some ⟨F, 0, none⟩), .pointer (some ⟨C, 0, none⟩)] W fun e W' => e = .returned (.bool true) ∧ Fnd W' F C (T ++ [x]) ∧ But (fun b => b = F ∨ b = C) W W' := by
  have HF : Hid (Fnd W F C T) := h
  have c1 := h.b.cell
  obtain ⟨y, c2⟩ := h.c T.length hT
  have f2 := h.f T.length
  have hne := h.ne
  have b2 : Boxed (W.setCell ⟨F, T.length, none⟩ (.int .i64 (x : Int))) C 3 (.int .i64 (T.length : Int)) := (Below.heap_setCell _ _ _ _ (Ne.symm hne)).trans h.b
  have c3 := b2.cell
  have f3 := b2.frozen
  have HP : Hid (Fnd ((W.setCell ⟨F, T.length, none⟩ (.int .i64 (x : Int))).setCell ⟨C, 0, none⟩ (.int .i64 ((T.length : Int) + 1))) F C (T ++ [x])) := h.push hT x
  clear h b2
  generalize hn : T.length = n at *
  go_enter Try.func82, Try.ntmps82
  go_wp2_with fail
  go_ret
  exact ⟨rfl, HP.out, ((But.refl _ W).setCell (.inl rfl) _).setCell (.inr rfl) _⟩
end Go.Proofs.Ytlphombjejgbiaa
