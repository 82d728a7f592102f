/- What is drained is all that was there. -/
import Derived.Test.YtimmjhegeagofaaESame
namespace Go.Proofs.Ytimmjhegeagofaa
open Go.RowKit Go.Sort
set_option maxRecDepth 100000

theorem Dr.perm {Ord : Prop} {D T D' : List En} (h : Dr Ord D T D') (s : Srt D) : (T ++ D').Perm D := by
  refine h.ind (M := fun T D' => (T ++ D').Perm D) (by simp) ?_
  intro T D' e h he _ ih
  obtain ⟨U, V, hD⟩ := split_at he
  have sD := h.srt s
  rw [hD] at sD ih ⊢
  rw [drop_app sD]
  refine List.Perm.trans ?_ ih
  rw [List.append_assoc]
  exact List.Perm.append_left T (List.perm_middle (a := e) (l₁ := U) (l₂ := V)).symm
/-- a thing -/
abbrev thP (e : En) : Int × Int := (e.k, e.m)
theorem left_in {L R : List En} {e : En} (h : (L.map thP).Perm ((e :: R).map thP)) : ∃ y, y ∈ L ∧ thP y = thP e := by
  have : thP e ∈ L.map thP := h.mem_iff.2 (by simp)
  obtain ⟨y, hy, hye⟩ := List.mem_map.1 this
  exact ⟨y, hy, hye⟩
theorem left_out {L R : List En} {e : En} (h : (L.map thP).Perm ((e :: R).map thP)) {U V : List En} {y : En} (hL : L = U ++ y :: V) (hy : thP y = thP e) : ((U ++ V).map thP).Perm (R.map thP) := by
  subst hL
  have h1 : ((U ++ y :: V).map thP).Perm (thP y :: (U ++ V).map thP) := by
    exact (List.perm_middle (a := y) (l₁ := U) (l₂ := V)).map thP
  rw [List.map_cons, ← hy] at h
  exact (List.perm_cons _).1 (h1.symm.trans h)
/-- the row is copied -/
theorem eappE {w : World} {r : Nat} {rv : Value} {D : List En} {last : Nat} (x : Rd w r rv D last) : ∃ v' w3, (Builtin.append_ #[30, 30] 30 #[.slice (some ⟨w.heap.size, 0, none⟩) 0 0, rv]).run Try.prog (w.alloc (.cells #[] 50)) = .ok v' w3 ∧ w3.ownsRow w.heap.size 50 3 v' D.length (encE D) ∧ Below w.heap.size w w3 := by
  obtain ⟨i0, hi, hz0, hz1, hz2⟩ := info_parts eltEr.hi
  have hb : Below w.heap.size w (w.alloc (.cells #[] 50)) := (Below.refl _ w).alloc (Nat.le_refl _) _
  have hown := gown_0 w w.heap.size 50 3 (Nat.le_refl _)
  have hl := encE_len D
  have hbd := x.bd.1
  rcases x.src with ⟨hrv, hn⟩ | ⟨g, off, c, hrv, hc⟩
  · have hD : D = [] := List.eq_nil_of_length_eq_zero hn
    subst hD hrv
    refine ⟨_, _, run_append_owned_none (P := Try.prog) (w := w.alloc (.cells #[] 50)) w.heap.size 30 30 50 i0 3 eltEr.ht hi _ 0 [] hown, hown, hb⟩
  · subst hrv
    obtain ⟨v', w3, hrun, hown3, hgrow, _, hloc⟩ := run_append_own_at (P := Try.prog) (w := w.alloc (.cells #[] 50)) w.heap.size 30 30 50 i0 (.agg #[.int .i8 0, .int .i64 0, .int .i64 0]) 3 24 Try.underlying30 hi hz0 hz1 hz2 rfl (by decide) (.slice (some ⟨w.heap.size, 0, none⟩) 0 0) 0 [] hown ⟨g, off, none⟩ D.length c (encE D) hl (fun j u hj => by
      have h := hc j u hj
      rw [Go.WideShapes.add_plain]
      exact (hb.cell (p := ⟨g, off + j, none⟩) (cell_lt h)).trans h) (encE_one _) (by unfold maxLen; omega) (by omega) (by simp)
    rw [Nat.zero_add, List.nil_append] at hown3
    refine ⟨v', w3, hrun, hown3, hb.trans ⟨hgrow.os, hgrow.tape, hgrow.output, hgrow.size, fun b hb' => hgrow.block b (by rw [World.size_alloc]; omega) ?_⟩⟩
    intro h
    simp [Value.ownBlock] at h
    omega
end Go.Proofs.Ytimmjhegeagofaa
