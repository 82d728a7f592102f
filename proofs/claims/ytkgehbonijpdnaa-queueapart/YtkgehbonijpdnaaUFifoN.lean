/- A new queue of few lanes, as plain data. -/
import Derived.Test.YtkgehbonijpdnaaUFifoM
namespace Go.Proofs.Ytkgehbonijpdnaa

theorem fnewL_at {cs : List Int} {tw : List Bool} {j : Nat} (hl : cs.length = tw.length) (hj : j < cs.length) : ∃ t, atP (newL cs tw) j = ⟨atI cs j, t, atI cs j, [], 0, 0⟩ := by
  have hz : j < (newL cs tw).length := by simp [newL]; omega
  rw [atP_eq hz, atI_eq hj]
  simp [newL]
theorem fifo_new {cs : List Int} {tw : List Bool} (hl : cs.length = tw.length) (h6 : cs.length ≤ 6) (hc : ∀ c ∈ cs, 1 ≤ c ∧ c ≤ 8) : newE cs tw = 0 ∧ Rn.Ok ⟨newQ cs tw, [], [], []⟩ cs 0 := by
  have e : newE cs tw = 0 := by
    unfold newE
    rw [if_pos hl, if_pos ⟨by omega, fun c h => by have := hc c h; omega⟩]
  have eq : newQ cs tw = ⟨newL cs tw, []⟩ := by unfold newQ; rw [if_pos e]
  have hlen : (newL cs tw).length = cs.length := by simp [newL]; omega
  refine ⟨e, ?_⟩
  rw [eq]
  refine ⟨?_, hlen, fun k hk => ?_, rfl, Nat.le_refl _, fun m hm => by simp at hm, fun k hk => ?_, Nat.le_refl _, Nat.le_refl _⟩
  · refine (ok_iff _).2 ⟨by show (newL cs tw).length ≤ 16; omega, fun m hm => by simp at hm, fun j hj => ?_⟩
    have hj : j < cs.length := by rw [← hlen]; exact hj
    obtain ⟨t, ht⟩ := fnewL_at hl hj
    show okL (atP (newL cs tw) j) _ = true
    rw [ht]
    have := hc (atI cs j) (by rw [atI_eq hj]; exact List.getElem_mem hj)
    refine okL_iff.2 ⟨hasCr_iff.2 ⟨⟨this.1, by show atI cs j ≤ 64; omega⟩, by show (0 : Int) ≤ atI cs j; omega, Int.le_refl _⟩, hasNo_iff.2 ⟨⟨Int.le_refl _, by show (0 : Int) ≤ 1099511627776; decide⟩, Int.le_refl _, by show (0 : Int) ≤ 1099511627776; decide⟩, ?_, rfl⟩
    show (0 : Int) ≤ atI cs j - atI cs j - (([] : List Int).length : Int) - ((cnt [] (j : Int) : Nat) : Int)
    simp [cnt]
  · obtain ⟨t, ht⟩ := fnewL_at hl hk
    show (atP (newL cs tw) k).cr = _
    rw [ht]
  · obtain ⟨t, ht⟩ := fnewL_at hl hk
    show ((cnt [] (k : Int) : Nat) : Int) ≤ tkn (atP (newL cs tw) k) (cnt [] (k : Int))
    rw [ht]
    simp [cnt, tkn]
end Go.Proofs.Ytkgehbonijpdnaa
