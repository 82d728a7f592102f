/- What calls write into a lane's block. -/
import Derived.Test.YtilahfomiofgcaaJMem
namespace Go.Proofs.Ytilahfomiofgcaa
open Go.RowKit
set_option maxRecDepth 100000

section
variable {f : Nat → Value} {A : La} {bm : Nat} {hv : Value}
/-- an entry of the ring is another one -/
theorem inC_mem (ok : A.Ok) {q e : Int} (h : inC A q e = true) : ∃ m, A.C[atC A q]? = some m ∧ m.k = dqN A.st q ∧ m ∈ A.P ++ A.C ∧ A.h ≤ m.k ∧ m.k < A.h + 64 := by
  obtain ⟨m, hm, hk, _⟩ := inC_at ok h
  have h1 := List.mem_of_getElem? hm
  have h2 := ok.mem_C h1
  have h3 := ok.hr
  have h4 := ok.span
  exact ⟨m, hm, hk, List.mem_append_right _ h1, by omega, by omega⟩
theorem mem_lay {C : List Ms} {j : Nat} {n g : Int} {m x : Ms} (hm : C[j]? = some m) (hx : x ∈ layL C j n g) : x = { m with laid := true, n := n, g := g } ∨ ∃ i, i ≠ j ∧ C[i]? = some x := by
  obtain ⟨i, hi⟩ := List.getElem?_of_mem hx
  unfold layL at hi
  rw [List.getElem?_modify] at hi
  by_cases e : j = i
  · subst e
    rw [hm] at hi
    simp at hi
    exact .inl hi.symm
  · refine .inr ⟨i, Ne.symm e, ?_⟩
    cases h : C[i]? with
    | none => rw [h] at hi; cases hi
    | some y =>
      rw [h] at hi
      simp [e] at hi
      rw [hi]
theorem Lf.lay (l : Lf f A bm hv) (ok : A.Ok) {q e n g : Int} (q0 : 0 ≤ q) (q1 : q < 18446744073709551616) (h : inC A q e = true) :
    Lf (upd (upd (upd f (plN q + 1) (.int .i64 n)) (plN q + 2) (.int .u64 g)) (plN q + 3) (.bool true)) (layA A q e n g) bm hv := by
  obtain ⟨m, hm, hk, hmem, hk1, hk2⟩ := inC_mem ok h
  have hb := plN_lt q
  have hq : sqI A.st m.k = q := by rw [hk]; exact sq_dq q0 q1
  have es : (layA A q e n g) = { A with C := layL A.C (atC A q) n g } := by unfold layA; rw [if_pos h]
  have hl := layL_len A.C (atC A q) n g
  have out : ∀ i, (i < plN q + 1 ∨ plN q + 4 ≤ i) → upd (upd (upd f (plN q + 1) (.int .i64 n)) (plN q + 2) (.int .u64 g)) (plN q + 3) (.bool true) i = f i := fun i hi => by rw [upd_ne (by omega), upd_ne (by omega), upd_ne (by omega)]
  rw [es]
  refine ⟨?_, ?_, ?_, ?_, ?_, ?_, ?_, ?_, ?_⟩
  · rw [out 0 (by omega), l.f0]
  · rw [out 1 (by omega), l.f1]
  · rw [out 2 (by omega), l.f2]
  · rw [out 3 (by omega), l.f3]; simp [La.h, hl]
  · rw [out 4 (by omega), l.f4]; simp [La.r, hl]
  · rw [out 5 (by omega), l.f5]
  · intro x hx j v hj
    have hj6 : j < 6 := by have := (List.getElem?_eq_some_iff.1 hj).1; simpa [msC] using this
    simp only at hx hj ⊢
    have far : ∀ y : Ms, y ∈ A.P ++ A.C → y.k ≠ m.k → (msC A.st y)[j]? = some v → upd (upd (upd f (plN q + 1) (.int .i64 n)) (plN q + 2) (.int .u64 g)) (plN q + 3) (.bool true) (plN (sqI A.st y.k) + j) = v := fun y hy hne hyj => by
      have := ok.apart hy ⟨hk1, hk2⟩ hne
      rw [hq] at this
      rw [out _ (by omega)]
      exact l.rg y hy j v hyj
    rcases List.mem_append.1 hx with hx | hx
    · refine far x (List.mem_append_left _ hx) ?_ hj
      have h1 := ok.mem_P hx
      have h2 := inC_iff.1 h
      omega
    · rcases mem_lay hm hx with rfl | ⟨i, hne, hi⟩
      · have base := fun j v hj => l.rg m hmem j v hj
        rw [hq] at base
        simp only [msC] at hj base
        simp only
        rw [hq] at hj ⊢
        match j, hj with
        | 0, hj => rw [out _ (by omega)]; exact base 0 v (by simpa [hq] using hj)
        | 1, hj => cases hj; simp [upd]
        | 2, hj => cases hj; simp [upd]
        | 3, hj => cases hj; simp [upd]
        | 4, hj => rw [out _ (by omega)]; exact base 4 v hj
        | 5, hj => rw [out _ (by omega)]; exact base 5 v hj
      · refine far x (List.mem_append_right _ (List.mem_of_getElem? hi)) ?_ hj
        have h1 := (ok.kC i x hi).1
        have h2 := (ok.kC _ m hm).1
        omega
  · rw [out _ (by omega), l.cm]
  · rw [out _ (by omega), l.ch]

theorem lackE_0 {q e : Int} (h : lackE A q e = 0) : laidB A q e = true ∧ q = sqI A.st A.r := by
  unfold lackE at h
  split at h
  · rename_i h1
    split at h
    · rename_i h2; exact ⟨h1, h2⟩
    · simp at h
  · simp at h
theorem pub_form (ok : A.Ok) {q e t s : Int} (h : lackE A q e = 0) : ∃ m C', A.C = m :: C' ∧ m.k = A.r ∧ q = sqI A.st m.k ∧ pubA A q e t s = { A with P := A.P ++ [{ m with is := 2, tk := t, sp := s }], C := C' } := by
  obtain ⟨h1, h2⟩ := lackE_0 h
  have hin : inC A q e = true := by unfold laidB at h1; simp at h1; exact h1.1
  obtain ⟨m0, hm0, _, hlt⟩ := inC_at ok hin
  cases hC : A.C with
  | nil => rw [hC] at hlt; simp at hlt
  | cons m C' =>
    have hk := (ok.kC 0 m (by rw [hC]; rfl)).1
    refine ⟨m, C', rfl, by omega, by rw [hk]; exact h2, ?_⟩
    unfold pubA
    rw [if_pos h, hC]
theorem Lf.pub (l : Lf f A bm hv) (ok : A.Ok) {q e t s : Int} (h : lackE A q e = 0) :
    Lf (upd (upd (upd f (plN q + 4) (.int .i64 t)) (plN q + 5) (.int .i64 s)) 4 (.int .u64 (sqI A.st (A.r + 1)))) (pubA A q e t s) bm hv := by
  obtain ⟨m, C', hC, hk, hq, es⟩ := pub_form ok (t := t) (s := s) h
  have hb := plN_lt q
  have hr := ok.hr
  have hlC : A.C.length = C'.length + 1 := by rw [hC]; rfl
  have out : ∀ i, i ≠ 4 → (i < plN q + 4 ∨ plN q + 6 ≤ i) → upd (upd (upd f (plN q + 4) (.int .i64 t)) (plN q + 5) (.int .i64 s)) 4 (.int .u64 (sqI A.st (A.r + 1))) i = f i := fun i h4 hi => by rw [upd_ne (by omega), upd_ne (by omega), upd_ne (by omega)]
  have hmC : m ∈ A.P ++ A.C := by rw [hC]; simp
  have hk1 := ok.pc hmC
  have hsp := ok.span
  rw [es]
  refine ⟨?_, ?_, ?_, ?_, ?_, ?_, ?_, ?_, ?_⟩
  · rw [out 0 (by omega) (by omega), l.f0]
  · rw [out 1 (by omega) (by omega), l.f1]
  · rw [out 2 (by omega) (by omega), l.f2]
  · rw [out 3 (by omega) (by omega), l.f3]; congr 2; simp [La.h]; omega
  · rw [upd_at]; congr 2; simp [La.r]; unfold La.r at hr; omega
  · rw [out 5 (by omega) (by omega), l.f5]
  · intro x hx j v hj
    have hj6 : j < 6 := by have := (List.getElem?_eq_some_iff.1 hj).1; simpa [msC] using this
    simp only at hx hj ⊢
    have hpx := plN_lt (sqI A.st x.k)
    have far : ∀ y : Ms, y ∈ A.P ++ A.C → y.k ≠ m.k → (msC A.st y)[j]? = some v → upd (upd (upd f (plN q + 4) (.int .i64 t)) (plN q + 5) (.int .i64 s)) 4 (.int .u64 (sqI A.st (A.r + 1))) (plN (sqI A.st y.k) + j) = v := fun y hy hne hyj => by
      have := ok.apart hy (k := m.k) (by omega) hne
      have hpy := plN_lt (sqI A.st y.k)
      rw [← hq] at this
      rw [out _ (by omega) (by omega)]
      exact l.rg y hy j v hyj
    simp only [List.append_assoc, List.mem_append, List.mem_singleton] at hx
    rcases hx with hx | rfl | hx
    · refine far x (List.mem_append_left _ hx) ?_ hj
      have h1 := ok.mem_P hx
      omega
    · have base := fun j v hj => l.rg m hmC j v hj
      rw [← hq] at base
      simp only [msC] at hj base
      simp only
      rw [← hq] at hj ⊢
      match j, hj with
      | 0, hj => rw [out _ (by omega) (by omega)]; exact base 0 v (by simpa [← hq] using hj)
      | 1, hj => rw [out _ (by omega) (by omega)]; exact base 1 v hj
      | 2, hj => rw [out _ (by omega) (by omega)]; exact base 2 v hj
      | 3, hj => rw [out _ (by omega) (by omega)]; exact base 3 v hj
      | 4, hj => cases hj; rw [upd_ne (by omega), upd_ne (by omega), upd_at]
      | 5, hj => cases hj; rw [upd_ne (by omega), upd_at]
    · refine far x (List.mem_append_right _ (by rw [hC]; simp [hx])) ?_ hj
      obtain ⟨i, hi⟩ := List.getElem?_of_mem hx
      have h1 := (ok.kC (i + 1) x (by rw [hC]; simpa using hi)).1
      omega
  · rw [out _ (by omega) (by omega), l.cm]
  · rw [out _ (by omega) (by omega), l.ch]

theorem take_form (ok : A.Ok) {m : Ms} {P' : List Ms} (hP : A.P = m :: P') : m.k = A.h ∧ takeA A = { A with T := A.T ++ [{ m with is := 3 }], P := P' } := by
  refine ⟨by have := (ok.kP 0 m (by rw [hP]; rfl)).1; omega, ?_⟩
  unfold takeA
  rw [hP]
theorem Lf.take (l : Lf f A bm hv) (ok : A.Ok) {m : Ms} {P' : List Ms} (hP : A.P = m :: P') (v0 v1 v2 v3 v4 v5 : Value) :
    Lf (upd (upd6 f (plN (sqI A.st m.k)) v0 v1 v2 v3 v4 v5) 3 (.int .u64 (sqI A.st (A.h + 1)))) (takeA A) bm hv := by
  obtain ⟨hk, es⟩ := take_form ok hP
  have hb := plN_lt (sqI A.st m.k)
  have hr := ok.hr
  have hlP : A.P.length = P'.length + 1 := by rw [hP]; rfl
  have hmC : m ∈ A.P ++ A.C := by rw [hP]; simp
  have hk1 := ok.pc hmC
  have hsp := ok.span
  rw [es]
  refine ⟨?_, ?_, ?_, ?_, ?_, ?_, ?_, ?_, ?_⟩
  · rw [upd_ne (by omega), upd6_ne (by omega), l.f0]
  · rw [upd_ne (by omega), upd6_ne (by omega), l.f1]
  · rw [upd_ne (by omega), upd6_ne (by omega), l.f2]
  · rw [upd_at]; congr 2; simp [La.h]; unfold La.h at hr; omega
  · rw [upd_ne (by omega), upd6_ne (by omega), l.f4]; congr 2
  · rw [upd_ne (by omega), upd6_ne (by omega), l.f5]
  · intro x hx j v hj
    have hj6 : j < 6 := by have := (List.getElem?_eq_some_iff.1 hj).1; simpa [msC] using this
    simp only at hx hj ⊢
    have hx2 : x ∈ A.P ++ A.C ∧ x.k ≠ m.k := by
      rcases List.mem_append.1 hx with hx | hx
      · refine ⟨List.mem_append_left _ (by rw [hP]; simp [hx]), ?_⟩
        obtain ⟨i, hi⟩ := List.getElem?_of_mem hx
        have h1 := (ok.kP (i + 1) x (by rw [hP]; simpa using hi)).1
        omega
      · have := ok.mem_C hx
        exact ⟨List.mem_append_right _ hx, by omega⟩
    have := ok.apart hx2.1 (k := m.k) (by omega) hx2.2
    have hpx := plN_lt (sqI A.st x.k)
    rw [upd_ne (by omega), upd6_ne (by omega)]
    exact l.rg x hx2.1 j v hj
  · rw [upd_ne (by omega), upd6_ne (by omega), l.cm]
  · rw [upd_ne (by omega), upd6_ne (by omega), l.ch]
end
end Go.Proofs.Ytilahfomiofgcaa
