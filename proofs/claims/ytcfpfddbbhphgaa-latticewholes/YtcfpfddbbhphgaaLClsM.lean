/- Classes of equal labels: plain facts. -/
import Derived.Test.YtcfpfddbbhphgaaLHelp
namespace Go.Proofs.Ytcfpfddbbhphgaa
open Go.RowKit Go.Shelf

/-- a label with all that are equal to it -/
def eqS (n : Nat) (z : Nat → Int) (a : Nat) : Int := andI (z a) (turnTo z n a)
theorem eqS_nonneg (n : Nat) (z : Nat → Int) (a : Nat) : 0 ≤ eqS n z a := andI_nonneg _ _
theorem tb_eqS {n : Nat} {z : Nat → Int} {a : Nat} (ha : a < 64) (b : Nat) : tb (eqS n z a) b = true ↔ tb (z a) b = true ∧ b < n ∧ tb (z b) a = true := by
  unfold eqS; rw [tb_andI, Bool.and_eq_true, tb_dn z ha]
theorem eqS_set {n : Nat} {z : Nat → Int} {a : Nat} (ha : a < 64) : setTo (fun b => tb (z a) b && tb (z b) a) n = eqS n z a :=
  (eq_setTo (eqS_nonneg n z a) fun j => by
    rw [tb_eqS ha, Bool.and_eq_true]
    exact ⟨fun ⟨h1, h2, h3⟩ => ⟨h2, h1, h3⟩, fun ⟨h1, h2, h3⟩ => ⟨h2, h1, h3⟩⟩).symm
/-- is it the least of those that are equal to it? -/
def fstB (n : Nat) (z : Nat → Int) (a : Nat) : Bool := rankI (eqS n z a) a == 0
theorem fstB_iff {n : Nat} {z : Nat → Int} {a : Nat} (ha : a ≤ 64) : fstB n z a = true ↔ ∀ j, j < a → tb (eqS n z a) j = false := by
  unfold fstB rankI
  rw [beq_iff_eq, List.length_eq_zero_iff, Int.toNat_natCast, Nat.min_eq_left ha, List.eq_nil_iff_forall_not_mem]
  constructor
  · intro h j hj
    cases ht : tb (eqS n z a) j
    · rfl
    · exact absurd (mem_memsTo.2 ⟨hj, ht⟩) (h j)
  · intro h j hj
    have := mem_memsTo.1 hj
    rw [h j this.1] at this
    cases this.2
def clsTo (n : Nat) (z : Nat → Int) : Nat → List Int
  | 0 => []
  | k + 1 => if fstB n z k then clsTo n z k ++ [eqS n z k] else clsTo n z k
theorem clsTo_hit {n : Nat} {z : Nat → Int} {k : Nat} (h : fstB n z k = true) : clsTo n z (k + 1) = clsTo n z k ++ [eqS n z k] := by simp [clsTo, h]
theorem clsTo_miss {n : Nat} {z : Nat → Int} {k : Nat} (h : fstB n z k = false) : clsTo n z (k + 1) = clsTo n z k := by simp [clsTo, h]
theorem clsTo_len (n : Nat) (z : Nat → Int) (k : Nat) : (clsTo n z k).length ≤ k := by
  induction k with
  | zero => simp [clsTo]
  | succ k ih =>
    unfold clsTo
    by_cases h : fstB n z k = true
    · rw [if_pos h, List.length_append]; simp; omega
    · rw [if_neg h]; omega
/-- all that were seen behind k labels -/
def snTo (n : Nat) (z : Nat → Int) : Nat → Int
  | 0 => 0
  | k + 1 => if fstB n z k then orI (snTo n z k) (eqS n z k) else snTo n z k
theorem snTo_hit {n : Nat} {z : Nat → Int} {k : Nat} (h : fstB n z k = true) : snTo n z (k + 1) = orI (snTo n z k) (eqS n z k) := by simp [snTo, h]
theorem snTo_miss {n : Nat} {z : Nat → Int} {k : Nat} (h : fstB n z k = false) : snTo n z (k + 1) = snTo n z k := by simp [snTo, h]
theorem eqS_lt {n : Nat} {z : Nat → Int} (hz : Bds n z) {a : Nat} (ha : a < n) : eqS n z a < 18446744073709551616 := andI_lt _ (hz a ha).2
theorem snTo_bd {n : Nat} {z : Nat → Int} (hz : Bds n z) {k : Nat} (hk : k ≤ n) : 0 ≤ snTo n z k ∧ snTo n z k < 18446744073709551616 := by
  induction k with
  | zero => simp [snTo]
  | succ k ih =>
    have := ih (by omega)
    unfold snTo
    by_cases h : fstB n z k = true
    · rw [if_pos h]; exact ⟨orI_nonneg _ _, orI_lt this.2 (eqS_lt hz (by omega))⟩
    · rw [if_neg h]; exact this
theorem tb_snTo (n : Nat) (z : Nat → Int) (k j : Nat) : tb (snTo n z k) j = true ↔ ∃ b, b < k ∧ fstB n z b = true ∧ tb (eqS n z b) j = true := by
  induction k with
  | zero => simp [snTo, tb_zero]
  | succ k ih =>
    unfold snTo
    by_cases h : fstB n z k = true
    · rw [if_pos h, tb_orI, Bool.or_eq_true, ih]
      constructor
      · rintro (⟨b, h1, h2⟩ | h1)
        · exact ⟨b, by omega, h2⟩
        · exact ⟨k, by omega, h, h1⟩
      · rintro ⟨b, h1, h2, h3⟩
        by_cases e : b = k
        · subst e; exact .inr h3
        · exact .inl ⟨b, by omega, h2, h3⟩
    · rw [if_neg h, ih]
      constructor
      · rintro ⟨b, h1, h2⟩; exact ⟨b, by omega, h2⟩
      · rintro ⟨b, h1, h2, h3⟩
        by_cases e : b = k
        · subst e; exact absurd h2 h
        · exact ⟨b, by omega, h2, h3⟩
theorem eqS_least {n : Nat} {z : Nat → Int} (hP : Pol n z) : ∀ m k, k ≤ m → k < n → ∃ b, b ≤ k ∧ fstB n z b = true ∧ tb (eqS n z b) k = true := by
  have hn := hP.le
  intro m
  induction m with
  | zero =>
    intro k hk hkn
    exact ⟨k, Nat.le_refl _, (fstB_iff (by omega)).2 fun j hj => absurd hj (by omega), (tb_eqS (by omega) k).2 ⟨hP.refl hkn, hkn, hP.refl hkn⟩⟩
  | succ m ih =>
    intro k hk hkn
    by_cases h : fstB n z k = true
    · exact ⟨k, Nat.le_refl _, h, (tb_eqS (by omega) k).2 ⟨hP.refl hkn, hkn, hP.refl hkn⟩⟩
    · have : ∃ j, j < k ∧ tb (eqS n z k) j = true := by
        refine Classical.byContradiction fun hh => h ((fstB_iff (by omega)).2 fun j hj => ?_)
        cases ht : tb (eqS n z k) j
        · rfl
        · exact absurd ⟨j, hj, ht⟩ hh
      obtain ⟨j, hj, ht⟩ := this
      obtain ⟨h1, h2, h3⟩ := (tb_eqS (by omega) j).1 ht
      obtain ⟨b, hb, hf, hbt⟩ := ih j (by omega) h2
      obtain ⟨g1, g2, g3⟩ := (tb_eqS (by omega) j).1 hbt
      exact ⟨b, by omega, hf, (tb_eqS (by omega) k).2 ⟨hP.trans (by omega) g1 h3, hkn, hP.trans hkn h1 g3⟩⟩
/-- a label was seen just if it is not the least of its class -/
theorem seen_fst {n : Nat} {z : Nat → Int} (hP : Pol n z) {k : Nat} (hk : k < n) : tb (snTo n z k) k = !fstB n z k := by
  have hn := hP.le
  cases h : fstB n z k
  · show _ = true
    obtain ⟨b, hb, hf, hbt⟩ := eqS_least hP k k (Nat.le_refl _) hk
    refine (tb_snTo n z k k).2 ⟨b, ?_, hf, hbt⟩
    have : b ≠ k := fun e => by subst e; rw [h] at hf; cases hf
    omega
  · show _ = false
    cases ht : tb (snTo n z k) k
    · rfl
    · obtain ⟨b, hb, _, hbt⟩ := (tb_snTo n z k k).1 ht
      obtain ⟨h1, h2, h3⟩ := (tb_eqS (by omega) k).1 hbt
      have := (fstB_iff (by omega)).1 h b hb
      rw [(tb_eqS (by omega) b).2 ⟨h3, by omega, h1⟩] at this
      cases this
def encI (l : List Int) : List Value := l.map fun x => Value.int .u64 x
theorem encI_snoc (l : List Int) (x : Int) : encI (l ++ [x]) = encI l ++ [Value.int .u64 x] := by simp [encI]
def nthZ (l : List Int) (j : Nat) : Int := l[j]?.getD 0
theorem encI_at (l : List Int) (j : Nat) (hj : j < l.length) : (encI l)[j]? = some (.int .u64 (nthZ l j)) := by simp [encI, nthZ, hj]
/-- an answer: a row of sets -/
def GivesL (w : World) (c : Int) (l : List Int) (e : Ending) (w' : World) : Prop :=
  ∃ a cap, e = .returned (.tuple #[.slice a l.length cap, .int .i64 c]) ∧ Cells w' .u64 a l.length (nthZ l) ∧ Below w.heap.size w w'
def clsV (n : Nat) (z : Nat → Int) : List Int := if polE n z = 0 then clsTo n z n else []
theorem clsV_len (n : Nat) (z : Nat → Int) : (clsV n z).length ≤ n := by
  unfold clsV
  by_cases h : polE n z = 0
  · rw [if_pos h]; exact clsTo_len n z n
  · rw [if_neg h]; simp

end Go.Proofs.Ytcfpfddbbhphgaa
