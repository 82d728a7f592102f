/- What is told of a node hangs on what is above it. -/
import Derived.Test.YtlphombjejgbiaaDMade
namespace Go.Proofs.Ytlphombjejgbiaa

theorem und_iff {L : List Fe} {x r : Nat} : undB L x r = true ↔ x = r ∨ x ∈ blw L r := by simp [undB]
/-- where the parents are the same, all above is -/
theorem up_same {N : Nat} {L L' : List Fe} (h : Fok N L) (h' : Fok N L') (S : Nat → Prop) (hw : ∀ z, S z → whr (kids L') N z = whr (kids L) N z) (hc : ∀ z p, S z → whr (kids L) N z = some p → S p) :
    ∀ n z, (nds L).idxOf z ≤ n → S z → (∀ y, undB L' z y = undB L z y) ∧ dpt N L' z = dpt N L z := by
  intro n
  induction n with
  | zero =>
    intro z hz hs
    have hn : whr (kids L) N z = none := by
      cases hw2 : whr (kids L) N z with
      | none => rfl
      | some p => have := (h.behind (whr_kid h hw2)).2; omega
    have hn' := (hw z hs).trans hn
    refine ⟨fun y => ?_, (dpt_root hn').trans (dpt_root hn).symm⟩
    by_cases e : z = y
    · simp [undB, e]
    · rw [und_root h' e hn', und_root h e hn]
  | succ n ih =>
    intro z hz hs
    cases hw2 : whr (kids L) N z with
    | none =>
      have hn' := (hw z hs).trans hw2
      refine ⟨fun y => ?_, (dpt_root hn').trans (dpt_root hw2).symm⟩
      by_cases e : z = y
      · simp [undB, e]
      · rw [und_root h' e hn', und_root h e hw2]
    | some p =>
      have hb := (h.behind (whr_kid h hw2)).2
      have hw' := (hw z hs).trans hw2
      obtain ⟨i1, i2⟩ := ih p (by omega) (hc z p hs hw2)
      refine ⟨fun y => ?_, by rw [dpt_up h' hw', dpt_up h hw2, i2]⟩
      by_cases e : z = y
      · simp [undB, e]
      · rw [und_up h' e hw', und_up h e hw2]; exact i1 y
theorem whr_congr {R R' : Nat → List Nat} {m x : Nat} (h : ∀ k, x ∈ R' k ↔ x ∈ R k) : whr R' m x = whr R m x := by
  unfold whr
  congr 1
  funext k
  exact decide_eq_decide.2 (h k)
theorem whr_wout {N : Nat} (L : List Fe) {G : List Nat} {x : Nat} (hx : x ∉ G) : whr (kids (wout L G)) N x = whr (kids L) N x :=
  whr_congr fun k => by rw [kids_wout]; simp [hx]
theorem whr_derive {N : Nat} (L : List Fe) {x p z : Nat} (hz : z ≠ x) : whr (kids (L ++ [⟨x, (p : Int)⟩])) N z = whr (kids L) N z :=
  whr_congr fun k => by
    rw [kids_derive]
    by_cases e : k = p
    · subst e; simp [upd, hz]
    · simp [upd, e]
/-- what is kept of all that is above n -/
def Kup (L0 L : List Fe) (n : Nat) : Prop := ∀ z, undB L0 n z = true → z ∈ nds L ∧ whr (kids L) 16 z = whr (kids L0) 16 z
theorem kup_refl {L : List Fe} (h : Fok 16 L) {n : Nat} (hn : n ∈ nds L) : Kup L L n := fun z hz => by
  rcases und_iff.1 hz with rfl | hz
  · exact ⟨hn, rfl⟩
  · exact ⟨(blw_behind h hz).2.1, rfl⟩
section
variable {L0 L : List Fe} {n : Nat}
theorem Kup.same (k : Kup L0 L n) (h0 : Fok 16 L0) (h : Fok 16 L) : (∀ y, undB L n y = undB L0 n y) ∧ dpt 16 L n = dpt 16 L0 n := by
  refine up_same h0 h (fun z => undB L0 n z = true) (fun z hz => (k z hz).2) (fun z p hz hp => ?_) _ n (Nat.le_refl _) (by simp [undB])
  have hk := whr_kid h0 hp
  rcases und_iff.1 hz with rfl | hz
  · exact und_iff.2 (.inr (blw_kid h0 hk))
  · exact und_iff.2 (.inr (blw_trans h0 _ p z n (Nat.le_refl _) (blw_kid h0 hk) hz))
theorem Kup.mem (k : Kup L0 L n) : n ∈ nds L := (k n (by simp [undB])).1
theorem Kup.has (k : Kup L0 L n) (hn : n < 16) : hasF 16 L (n : Int) = true := by
  have : inR 16 (n : Int) = true := inR_iff.2 (by omega)
  simp [hasF, this, k.mem]
theorem Kup.par (k : Kup L0 L n) (k0 : n ∈ nds L0) (hn : n < 16) : parI 16 L (n : Int) = parI 16 L0 n ∧ parB 16 L (n : Int) = parB 16 L0 n := by
  have h1 := k.has hn
  have h2 : hasF 16 L0 (n : Int) = true := by
    have : inR 16 (n : Int) = true := inR_iff.2 (by omega)
    simp [hasF, this, k0]
  have hw := (k n (by simp [undB])).2
  unfold parI parB ofI ofB
  simp [h1, h2, hw]
theorem Kup.dep (k : Kup L0 L n) (k0 : n ∈ nds L0) (h0 : Fok 16 L0) (h : Fok 16 L) (hn : n < 16) : dptI 16 L (n : Int) = dptI 16 L0 n := by
  have h1 := k.has hn
  have h2 : hasF 16 L0 (n : Int) = true := by
    have : inR 16 (n : Int) = true := inR_iff.2 (by omega)
    simp [hasF, this, k0]
  unfold dptI
  simp [h1, h2, (k.same h0 h).2]
theorem Kup.root (k : Kup L0 L n) (x : Int) : Kup L0 (rootL 16 L x) n := by
  unfold rootL
  split
  · exact fun z hz => ⟨by rw [nds_app]; exact List.mem_append_left _ (k z hz).1, by rw [kids_root]; exact (k z hz).2⟩
  · exact k
theorem Kup.der (k : Kup L0 L n) (p x : Int) : Kup L0 (derL 16 L p x) n := by
  unfold derL
  split
  · rename_i he
    unfold derE at he
    split at he
    · rename_i hin
      rw [Bool.and_eq_true] at hin
      obtain ⟨q, rfl, hq⟩ := inR_nat hin.1
      obtain ⟨y, rfl, hy⟩ := inR_nat hin.2
      simp only [Int.toNat_natCast] at he ⊢
      have hnot : y ∉ nds L := fun hm => by simp [hm] at he
      exact fun z hz => ⟨by rw [nds_app]; exact List.mem_append_left _ (k z hz).1, (whr_derive L (fun e => hnot (by rw [← e]; exact (k z hz).1))).trans (k z hz).2⟩
    · omega
  · exact k
theorem Kup.out (k : Kup L0 L n) {G : List Nat} (hG : ∀ z, undB L0 n z = true → z ∉ G) : Kup L0 (wout L G) n := fun z hz =>
  ⟨mem_wout.2 ⟨(k z hz).1, hG z hz⟩, (whr_wout L (hG z hz)).trans (k z hz).2⟩
theorem Kup.cut (k : Kup L0 L n) (h0 : Fok 16 L0) (h : Fok 16 L) (hn : n < 16) (x : Int) (hu : undI 16 L (n : Int) x = false) : Kup L0 (wout L (cutT 16 L x)) n := by
  refine k.out fun z hz hm => ?_
  unfold cutT at hm
  split at hm
  · rename_i he
    have hz' : undB L n z = true := ((k.same h0 h).1 z).trans hz
    unfold askE at he
    by_cases hin : inR 16 x = true
    · obtain ⟨y, rfl, hy⟩ := inR_nat hin
      simp only [hin, if_true, Int.toNat_natCast] at he hm
      have hy2 : y ∈ nds L := by
        by_cases e : y ∈ nds L
        · exact e
        · simp [e] at he
      have hu2 : undB L n y = false := by
        have h1 := k.has hn
        have h2 : hasF 16 L (y : Int) = true := by simp [hasF, hin, hy2]
        simpa [undI, h1, h2] using hu
      have : undB L n y = true := by
        rcases List.mem_cons.1 hm with rfl | hm
        · exact hz'
        · rcases und_iff.1 hz' with rfl | hz'
          · exact und_iff.2 (.inr hm)
          · exact und_iff.2 (.inr (blw_trans h _ y z n (Nat.le_refl _) hm hz'))
      rw [this] at hu2
      cases hu2
    · simp [hin] at he
  · simp at hm
theorem Kup.pru (k : Kup L0 L n) (h0 : Fok 16 L0) (h : Fok 16 L) (hn : n < 16) (x : Int) (hu : undI 16 L (n : Int) x = false ∨ x = (n : Int)) : Kup L0 (wout L (pruT 16 L x)) n := by
  refine k.out fun z hz hm => ?_
  unfold pruT at hm
  split at hm
  · rename_i he
    have hz' : undB L n z = true := ((k.same h0 h).1 z).trans hz
    unfold askE at he
    by_cases hin : inR 16 x = true
    · obtain ⟨y, rfl, hy⟩ := inR_nat hin
      simp only [hin, if_true, Int.toNat_natCast] at he hm
      have hy2 : y ∈ nds L := by
        by_cases e : y ∈ nds L
        · exact e
        · simp [e] at he
      rcases hu with hu | hu
      · have hu2 : undB L n y = false := by
          have h1 := k.has hn
          have h2 : hasF 16 L (y : Int) = true := by simp [hasF, hin, hy2]
          simpa [undI, h1, h2] using hu
        have : undB L n y = true := by
          rcases und_iff.1 hz' with rfl | hz'
          · exact und_iff.2 (.inr hm)
          · exact und_iff.2 (.inr (blw_trans h _ y z n (Nat.le_refl _) hm hz'))
        rw [this] at hu2
        cases hu2
      · obtain rfl : y = n := by omega
        have h1 := (blw_behind h hm).2.2
        rcases und_iff.1 hz' with rfl | hz'
        · omega
        · have := (blw_behind h hz').2.2; omega
    · simp [hin] at he
  · simp at hm
end
end Go.Proofs.Ytlphombjejgbiaa
