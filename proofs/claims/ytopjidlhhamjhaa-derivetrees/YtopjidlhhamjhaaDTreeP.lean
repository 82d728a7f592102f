/- Each node stands below one root, and none below itself. -/
import Derived.Test.YtopjidlhhamjhaaDTwo
namespace Go.Proofs.Ytopjidlhhamjhaa

def rB (L : List Fe) (a b : Nat) : Bool := hasF 16 L (b : Int) && (!parB 16 L (b : Int) && undI 16 L (a : Int) (b : Int))
def rtN (L : List Fe) (a : Nat) : Nat → Nat
  | 0 => 0
  | k + 1 => rtN L a k + if rB L a k then 1 else 0
def cnN (L : List Fe) : Nat → Nat
  | 0 => 0
  | k + 1 => cnN L k + if hasF 16 L (k : Int) then 1 else 0
section
variable {L : List Fe}
theorem has_iff {c : Nat} (h16 : c < 16) : hasF 16 L (c : Int) = decide (c ∈ nds L) := by
  have : inR 16 (c : Int) = true := inR_iff.2 (by omega)
  simp [hasF, this]
theorem one_root (h : Fok 16 L) : ∀ n a, (nds L).idxOf a ≤ n → a ∈ nds L → ∃ r, r < 16 ∧ ∀ b, b < 16 → rB L a b = decide (b = r) := by
  have base : ∀ a, a ∈ nds L → whr (kids L) 16 a = none → ∃ r, r < 16 ∧ ∀ b, b < 16 → rB L a b = decide (b = r) := by
    intro a ha hw
    have ha16 := h.lt a ha
    refine ⟨a, ha16, fun b hb => ?_⟩
    have hA : hasF 16 L (a : Int) = true := by rw [has_iff ha16]; simp [ha]
    by_cases e : b = a
    · subst e
      have hP : parB 16 L (b : Int) = false := by simp [parB, ofB, hw]
      simp [rB, hA, hP, undI, undB]
    · have hu : undB L a b = false := und_root h (fun e2 => e e2.symm) hw
      simp [rB, undI, hu, e]
  intro n
  induction n with
  | zero =>
    intro a hn ha
    refine base a ha ?_
    cases hw : whr (kids L) 16 a with
    | none => rfl
    | some p => have := (h.behind (whr_kid h hw)).2; omega
  | succ n ih =>
    intro a hn ha
    cases hw : whr (kids L) 16 a with
    | none => exact base a ha hw
    | some p =>
      have hb := h.behind (whr_kid h hw)
      have ha16 := h.lt a ha
      have hp16 := h.lt p hb.1
      obtain ⟨r, hr, hall⟩ := ih p (by omega) hb.1
      refine ⟨r, hr, fun b hb16 => ?_⟩
      rw [← hall b hb16]
      have hA : hasF 16 L (a : Int) = true := by rw [has_iff ha16]; simp [ha]
      have hP : hasF 16 L (p : Int) = true := by rw [has_iff hp16]; simp [hb.1]
      by_cases e : b = a
      · subst e
        have hin : inR 16 (b : Int) = true := inR_iff.2 (by omega)
        have hB : parB 16 L (b : Int) = true := by simp [parB, ofB, hw, hA, hin]
        simp [rB, hB]
      · have hu : undB L a b = undB L p b := und_up h (fun e2 => e e2.symm) hw
        simp [rB, undI, hu, hA, hP]
theorem rt_one {a r : Nat} : ∀ k, (∀ b, b < k → rB L a b = decide (b = r)) → rtN L a k = if r < k then 1 else 0
  | 0, _ => by simp [rtN]
  | k + 1, hk => by
    rw [rtN, rt_one k (fun b hb => hk b (by omega)), hk k (by omega)]
    by_cases e : k = r
    · subst e; simp
    · by_cases e2 : r < k
      · simp [e, e2, show r < k + 1 by omega]
      · simp [e, e2, show ¬ r < k + 1 by omega]
theorem rt_16 (h : Fok 16 L) {a : Nat} (ha : a ∈ nds L) : rtN L a 16 = 1 := by
  obtain ⟨r, hr, hall⟩ := one_root h _ a (Nat.le_refl _) ha
  rw [rt_one 16 hall, if_pos hr]
theorem rt_le (a : Nat) : ∀ k, rtN L a k ≤ k
  | 0 => Nat.le_refl _
  | k + 1 => by have := rt_le a k; rw [rtN]; split <;> omega
theorem cn_le : ∀ k, cnN L k ≤ k
  | 0 => Nat.le_refl _
  | k + 1 => by have := cn_le k; rw [cnN]; split <;> omega
theorem dpt_below (h : Fok 16 L) : ∀ n a x, (nds L).idxOf x ≤ n → x ∈ blw L a → dpt 16 L a < dpt 16 L x := by
  intro n
  induction n with
  | zero => intro a x hn hx; have := (blw_behind h hx).2.2; omega
  | succ n ih =>
    intro a x hn hx
    rcases blw_up h _ a x (Nat.le_refl _) hx with h1 | ⟨y, hy, h1⟩
    · rw [dpt_up h (whr_of h h1)]; omega
    · have h2 := (h.behind h1).2
      have := ih a y (by omega) hy
      rw [dpt_up h (whr_of h h1)]; omega
/-- what the third loop asks of each below a -/
theorem below_ok (h : Fok 16 L) {a x : Nat} (hx : x ∈ blw L a) : x ≠ a ∧ undI 16 L (x : Int) (a : Int) = true ∧ dptI 16 L (a : Int) < dptI 16 L (x : Int) := by
  have hb := blw_behind h hx
  have hA : hasF 16 L (a : Int) = true := by rw [has_iff (h.lt a hb.2.1)]; simp [hb.2.1]
  have hX : hasF 16 L (x : Int) = true := by rw [has_iff (h.lt x hb.1)]; simp [hb.1]
  have hu : undB L x a = true := und_iff.2 (.inr hx)
  have hd := dpt_below h _ a x (Nat.le_refl _) hx
  refine ⟨fun e => by rw [e] at hb; omega, by simp [undI, hA, hX, hu], ?_⟩
  unfold dptI
  rw [hA, hX]
  simp only [if_true, Int.toNat_natCast]
  omega
theorem belT_100 (h : Fok 16 L) {a : Nat} (ha : a ∈ nds L) : (belT 16 L (a : Int)).take 100 = blw L a := by
  have hA : hasF 16 L (a : Int) = true := by rw [has_iff (h.lt a ha)]; simp [ha]
  unfold belT
  rw [if_pos hA, Int.toNat_natCast, List.take_of_length_le]
  have := blw_len h a
  omega
theorem cn_filter : ∀ k, k ≤ 16 → cnN L k = ((List.range k).filter fun x => decide (x ∈ nds L)).length
  | 0, _ => by simp [cnN]
  | k + 1, hk => by
    rw [cnN, cn_filter k (by omega), List.range_succ, List.filter_append, List.length_append, has_iff (by omega)]
    congr 1
    by_cases e : k ∈ nds L <;> simp [e]
theorem cn_16 (h : Fok 16 L) : cnN L 16 = L.length := by
  rw [cn_filter 16 (Nat.le_refl _), ← nds_len]
  refine List.Perm.length_eq ((List.perm_ext_iff_of_nodup (List.nodup_range.sublist List.filter_sublist) h.nod).2 fun x => ?_)
  simp only [List.mem_filter, List.mem_range, decide_eq_true_eq]
  exact ⟨fun hx => hx.2, fun hx => ⟨h.lt x hx, hx⟩⟩
end
end Go.Proofs.Ytopjidlhhamjhaa
