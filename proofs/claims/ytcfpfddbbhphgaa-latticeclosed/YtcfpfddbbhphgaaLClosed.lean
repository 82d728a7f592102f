/- What is missing, laid upon flows, is their closure; the closure is a policy. -/
import Derived.Test.YtcfpfddbbhphgaaLMissR
import Derived.Test.YtcfpfddbbhphgaaLHelp
namespace Go.Proofs.Ytcfpfddbbhphgaa
open Go.RowKit Go.Shelf

theorem pol_clo {n : Nat} {z : Nat → Int} (hz : Bds n z) (hk : shpE n z = 0) : Pol n (clo n z) := by
  obtain ⟨h1, h16, hc⟩ := shpE_ok hk
  have hin : ∀ i j, i < n → tb (z i) j = true → j < n := fun i j hi ht => in_rows hc hz hi ht
  have hn : n ≤ 64 := by omega
  refine ⟨h1, h16, fun j _ => clo_bd hn hz j, fun i j _ ht => clo_in hn hz hin ht, fun i hi => clo_refl hn hz hi, fun i m j hi h1 h2 => ?_⟩
  exact clo_trans hn hz hi (clo_in hn hz hin h1) h1 h2
theorem mem_msTo {n : Nat} {z : Nat → Int} {a : Nat} {p : Nat × Nat} : p ∈ msTo n z a ↔ p.1 < a ∧ p.2 < 64 ∧ tb (lackI n z p.1) p.2 = true := by
  obtain ⟨i, j⟩ := p
  unfold msTo
  rw [List.mem_flatMap]
  constructor
  · rintro ⟨x, hx, hm⟩
    obtain ⟨y, hy, e⟩ := List.mem_map.1 hm
    cases e
    exact ⟨by simpa using hx, mem_mems.1 hy⟩
  · rintro ⟨h1, h2, h3⟩
    exact ⟨i, by simpa using h1, List.mem_map.2 ⟨j, mem_mems.2 ⟨h2, h3⟩, rfl⟩⟩
/-- flows with some more -/
def laidF (z : Nat → Int) (l : List (Nat × Nat)) : Nat → Int := l.foldl (fun g p => upd g p.1 (setI (g p.1) p.2)) z
theorem laidF_snoc (z : Nat → Int) (l : List (Nat × Nat)) (p : Nat × Nat) : laidF z (l ++ [p]) = upd (laidF z l) p.1 (setI (laidF z l p.1) p.2) := by simp [laidF]
theorem laidF_nonneg {n : Nat} {z : Nat → Int} (hz : Bds n z) (l : List (Nat × Nat)) : (∀ p, p ∈ l → p.2 < 64) → Bds n (laidF z l) := by
  have key : ∀ (l : List (Nat × Nat)) (g : Nat → Int), (∀ p, p ∈ l → p.2 < 64) → Bds n g → Bds n (l.foldl (fun g p => upd g p.1 (setI (g p.1) p.2)) g) := by
    intro l
    induction l with
    | nil => exact fun g _ h => h
    | cons p l ih =>
      intro g hl h
      refine ih _ (fun q hq => hl q (by simp [hq])) fun j hj => ?_
      show 0 ≤ upd g p.1 (setI (g p.1) p.2) j ∧ upd g p.1 (setI (g p.1) p.2) j < 18446744073709551616
      unfold upd
      by_cases e : j = p.1
      · subst e; rw [if_pos rfl]; exact ⟨setI_nonneg _ _, setI_lt (h _ hj).2 (hl p (by simp))⟩
      · rw [if_neg e]; exact h j hj
  exact fun h => key l z h hz
theorem tb_laidF (z : Nat → Int) (l : List (Nat × Nat)) (i j : Nat) : tb (laidF z l i) j = true ↔ tb (z i) j = true ∨ (i, j) ∈ l := by
  have key : ∀ (l : List (Nat × Nat)) (g : Nat → Int), tb ((l.foldl (fun g p => upd g p.1 (setI (g p.1) p.2)) g) i) j = true ↔ tb (g i) j = true ∨ (i, j) ∈ l := by
    intro l
    induction l with
    | nil => intro g; simp
    | cons p l ih =>
      intro g
      show tb ((l.foldl (fun g p => upd g p.1 (setI (g p.1) p.2)) (upd g p.1 (setI (g p.1) p.2))) i) j = true ↔ _
      obtain ⟨x, y⟩ := p
      rw [ih, List.mem_cons]
      unfold upd
      by_cases e : i = x
      · subst e
        rw [if_pos rfl, tb_setI, Bool.or_eq_true, decide_eq_true_iff]
        constructor
        · rintro ((h | h) | h)
          · exact .inl h
          · subst h; exact .inr (.inl rfl)
          · exact .inr (.inr h)
        · rintro (h | h | h)
          · exact .inl (.inl h)
          · cases h; exact .inl (.inr rfl)
          · exact .inr h
      · rw [if_neg e]
        constructor
        · rintro (h | h)
          · exact .inl h
          · exact .inr (.inr h)
        · rintro (h | h | h)
          · exact .inl h
          · cases h; exact absurd rfl e
          · exact .inr h
  exact key l z
/-- with what is missing flows are their closure -/
theorem laid_clo {n : Nat} {z : Nat → Int} (hz : Bds n z) (hk : shpE n z = 0) : ∀ j, j < n → laidF z (msTo n z n) j = clo n z j := by
  obtain ⟨h1, h16, hc⟩ := shpE_ok hk
  have hn : n ≤ 64 := by omega
  intro i hi
  have hb := laidF_nonneg hz (msTo n z n) (fun p hp => (mem_msTo.1 hp).2.1)
  refine eq_of_tb (hb i hi).1 (clo_bd hn hz i).1 fun j => ?_
  rw [Bool.eq_iff_iff, tb_laidF, mem_msTo]
  dsimp only
  rw [tb_lack hn hz hi, Bool.and_eq_true]
  constructor
  · rintro (h | ⟨_, _, h, _⟩)
    · exact clo_has hn hz hi h
    · exact h
  · intro h
    cases ht : tb (z i) j
    · exact .inr ⟨hi, in_64 (clo_bd hn hz i).2 h, h, rfl⟩
    · exact .inl rfl
/-- nothing is missing just if flows are a policy -/
theorem ms_nil {n : Nat} {z : Nat → Int} (hz : Bds n z) (hk : shpE n z = 0) : msTo n z n = [] ↔ polE n z = 0 := by
  obtain ⟨h1, h16, hc⟩ := shpE_ok hk
  have hn : n ≤ 64 := by omega
  constructor
  · intro h
    have hp : polB n z = true := polB_iff.2 fun j hj => by
      rw [← laid_clo hz hk j hj, h]; rfl
    simp [polE, hk, hp]
  · intro h
    have hp := polB_iff.1 (polE_ok h).2
    refine List.eq_nil_iff_forall_not_mem.2 fun p hm => ?_
    obtain ⟨h2, h3, h4⟩ := mem_msTo.1 hm
    rw [tb_lack hn hz h2, Bool.and_eq_true, hp _ h2] at h4
    cases ht : tb (z p.1) p.2 <;> simp [ht] at h4
theorem ms_at {n : Nat} {z : Nat → Int} (hz : Bds n z) (hk : shpE n z = 0) {k : Nat} (hlt : k < (msTo n z n).length) : ∃ p q : Nat, p < n ∧ q < n ∧ fstAt (msTo n z n) k = p ∧ sndAt (msTo n z n) k = q ∧ (msTo n z n).take (k + 1) = (msTo n z n).take k ++ [(p, q)] := by
  obtain ⟨h1, h16, hc⟩ := shpE_ok hk
  have hn : n ≤ 64 := by omega
  have hm : (msTo n z n)[k] ∈ msTo n z n := List.getElem_mem hlt
  obtain ⟨h2, h3, h4⟩ := mem_msTo.1 hm
  rw [tb_lack hn hz h2, Bool.and_eq_true] at h4
  refine ⟨((msTo n z n)[k]).1, ((msTo n z n)[k]).2, h2, clo_in hn hz (fun i j hi ht => in_rows hc hz hi ht) h4.1, ?_, ?_, ?_⟩
  · simp [fstAt, hlt]
  · simp [sndAt, hlt]
  · rw [List.take_add_one, List.getElem?_eq_getElem hlt]; rfl

end Go.Proofs.Ytcfpfddbbhphgaa
