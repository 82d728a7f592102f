/- What a handle stands for, as plain data. -/
import Derived.Test.YtimmjhegeagofacVMath
namespace Go.Proofs.Ytimmjhegeagofac

/-- a handle that was told, and its cap -/
structure Hd where
  h : Int
  c : Int
  r : Int
abbrev hd0 : Hd := ⟨0, 0, 0⟩
structure StI (T : Tb) (l : List Hd) : Prop where
  mem : ∀ x ∈ l, tkh T x.h = true ∧ (T.at_ (plc x.h)).c = x.c ∧ (T.at_ (plc x.h)).r = x.r ∧ 0 ≤ x.h ∧ x.h < 4294967296
  all : ∀ i, i < T.n → (T.at_ i).r ≠ 0 → ∃ x ∈ l, x.h = hdl T i
  len : (lvTo T T.n).length = l.length
  nd : l.Pairwise fun x y => x.h ≠ y.h
theorem lv_same {T : Tb} {i : Nat} {x : Pc} : ∀ k, k ≤ i → (lvTo (T.set i x) k).length = (lvTo T k).length
  | 0, _ => rfl
  | k + 1, hk => by
    unfold lvTo
    rw [List.length_append, List.length_append, lv_same k (by omega), Tb.set_ne T x (show k ≠ i by omega)]
    congr 1
    split <;> rfl
theorem lv_up {T : Tb} {i : Nat} {x : Pc} (h1 : takP (T.at_ i) = false) (h2 : takP x = true) : ∀ k, i < k → (lvTo (T.set i x) k).length = (lvTo T k).length + 1
  | k + 1, hk => by
    unfold lvTo
    rw [List.length_append, List.length_append]
    by_cases e : i = k
    · subst e
      rw [lv_same i (Nat.le_refl _), Tb.set_at, h1, h2]
      rfl
    · rw [lv_up h1 h2 k (by omega), Tb.set_ne T x (Ne.symm e)]
      split <;> simp
theorem lv_down {T : Tb} {i : Nat} {x : Pc} (h1 : takP (T.at_ i) = true) (h2 : takP x = false) : ∀ k, i < k → (lvTo (T.set i x) k).length + 1 = (lvTo T k).length
  | k + 1, hk => by
    unfold lvTo
    rw [List.length_append, List.length_append]
    by_cases e : i = k
    · subst e
      rw [lv_same i (Nat.le_refl _), Tb.set_at, h1, h2]
      rfl
    · have := lv_down h1 h2 k (by omega)
      rw [Tb.set_ne T x (Ne.symm e)]
      split
      · simp; omega
      · simp; omega
/-- another place is set: a handle is as it was -/
theorem tkh_ne {T : Tb} {i : Nat} {x : Pc} {h : Int} (hne : plc h ≠ i) : tkh (T.set i x) h = tkh T h := by
  unfold tkh hdl
  rw [Tb.set_ne T x hne]
  rfl
theorem StI.mint {T : Tb} {l : List Hd} (h : StI T l) (ho : T.Ok) {c r : Int} (h0 : 0 ≤ r) (h1 : r < 256) (he : mtE T r = 0) : StI (mtT T c r) (l ++ [⟨mtI T r, c, r⟩]) := by
  unfold mtE at he
  split at he
  · omega
  split at he
  · next hr hf =>
    have hl := frTo_lef T T.n hf
    have hg := ho.g _ hf
    have hn := ho.n32
    simp [lefP] at hl
    have hz : (T.at_ (frN T)).r = 0 := hl.1
    have hf' : frN T < T.n := hf
    have hp := hand_parts (p := (frN T : Int)) (r := r) (g := (T.at_ (frN T)).g) (by omega) (by omega) h0 (by omega) (by omega) hl.2
    have e1 : mtI T r = handAns (frN T : Int) r (T.at_ (frN T)).g := by unfold mtI; rw [if_neg hr, if_pos hf]
    have e2 : plc (mtI T r) = frN T := by unfold plc; rw [e1, hp.1]; omega
    have e3 : mtT T c r = T.set (frN T) ⟨c, r, (T.at_ (frN T)).g⟩ := by unfold mtT; rw [if_neg hr, if_pos hf]
    have e4 : hdl (T.set (frN T) ⟨c, r, (T.at_ (frN T)).g⟩) (frN T) = mtI T r := by unfold hdl; rw [Tb.set_at, e1]
    have ne : ∀ x ∈ l, plc x.h ≠ frN T := fun x hx e => by
      have := (tkh_parts (h.mem x hx).1).2.1
      rw [e] at this
      exact this hz
    have hrr : 0 ≤ mtI T r ∧ mtI T r < 4294967296 := by rw [e1]; exact hp.2.2
    rw [e3]
    generalize frN T = i at *
    refine ⟨fun x hx => ?_, fun j hj hjr => ?_, ?_, ?_⟩
    · rcases List.mem_append.1 hx with hx | hx
      · rw [tkh_ne (ne x hx), Tb.set_ne T _ (ne x hx)]
        exact h.mem x hx
      · obtain rfl : x = ⟨mtI T r, c, r⟩ := by simpa using hx
        refine ⟨?_, ?_, ?_, hrr.1, hrr.2⟩
        · show tkh _ (mtI T r) = true
          unfold tkh
          rw [e2, Tb.set_at, e4]
          simp [takP, Tb.set_n, hf', hr]
        · show (((T.set i _).at_ (plc (mtI T r)))).c = c
          rw [e2, Tb.set_at]
        · show (((T.set i _).at_ (plc (mtI T r)))).r = r
          rw [e2, Tb.set_at]
    · by_cases e : j = i
      · subst e
        exact ⟨⟨mtI T r, c, r⟩, by simp, e4.symm⟩
      · rw [Tb.set_ne T _ e] at hjr
        obtain ⟨x, hx, hh⟩ := h.all j hj hjr
        refine ⟨x, List.mem_append.2 (.inl hx), ?_⟩
        rw [hh]
        unfold hdl
        rw [Tb.set_ne T _ e]
    · rw [List.length_append, ← h.len]
      exact lv_up (by simp [takP, hz]) (by simp [takP, hr]) T.n hf'
    · rw [List.pairwise_append]
      refine ⟨h.nd, by simp, fun x hx y hy => ?_⟩
      obtain rfl : y = ⟨mtI T r, c, r⟩ := by simpa using hy
      intro e
      have e : x.h = mtI T r := e
      exact ne x hx (by rw [e, e2])
  · omega
theorem StI.drop {T : Tb} {l1 l2 : List Hd} {x : Hd} (h : StI T (l1 ++ x :: l2)) (ho : T.Ok) : dpE T x.h = 0 ∧ StI (dpT T x.h) (l1 ++ l2) := by
  have hx := h.mem x (by simp)
  obtain ⟨p1, p2, p3⟩ := tkh_parts hx.1
  have e1 : dpE T x.h = 0 := by unfold dpE; rw [hx.1]; rfl
  have e2 : dpT T x.h = T.set (plc x.h) ⟨0, 0, (T.at_ (plc x.h)).g + 1⟩ := by unfold dpT; rw [hx.1]; rfl
  refine ⟨e1, ?_⟩
  rw [e2]
  have hnd := h.nd
  rw [List.pairwise_append, List.pairwise_cons] at hnd
  have sub : ∀ y ∈ l1 ++ l2, y ∈ l1 ++ x :: l2 ∧ y.h ≠ x.h := fun y hy => by
    rcases List.mem_append.1 hy with hy | hy
    · exact ⟨by simp [hy], hnd.2.2 y hy x (by simp)⟩
    · exact ⟨by simp [hy], fun e => hnd.2.1.1 y hy e.symm⟩
  have ne : ∀ y ∈ l1 ++ l2, plc y.h ≠ plc x.h := fun y hy e => by
    have h1 := (tkh_parts (h.mem y (sub y hy).1).1).2.2
    rw [e, p3] at h1
    exact (sub y hy).2 h1.symm
  refine ⟨fun y hy => ?_, fun j hj hjr => ?_, ?_, ?_⟩
  · rw [tkh_ne (ne y hy), Tb.set_ne T _ (ne y hy)]
    exact h.mem y (sub y hy).1
  · by_cases e : j = plc x.h
    · subst e
      rw [Tb.set_at] at hjr
      exact absurd rfl hjr
    · rw [Tb.set_ne T _ e] at hjr
      obtain ⟨y, hy, hh⟩ := h.all j hj hjr
      refine ⟨y, ?_, ?_⟩
      · rcases List.mem_append.1 hy with hy | hy
        · simp [hy]
        · rcases List.mem_cons.1 hy with rfl | hy
          · exfalso
            apply e
            have := (hdl_parts ho hj hjr).1
            rw [← hh] at this
            exact this.symm
          · simp [hy]
      · rw [hh]
        unfold hdl
        rw [Tb.set_ne T _ e]
  · have := lv_down (T := T) (i := plc x.h) (x := ⟨0, 0, (T.at_ (plc x.h)).g + 1⟩) (by simpa [takP] using p2) (by rfl) T.n p1
    have hl := h.len
    rw [List.length_append, List.length_cons] at hl
    rw [List.length_append]
    show (lvTo _ T.n).length = _
    omega
  · rw [List.pairwise_append]
    exact ⟨hnd.1, hnd.2.1.2, fun y hy z hz => hnd.2.2 y hy z (by simp [hz])⟩
theorem StI.known {T : Tb} {l : List Hd} (h : StI T l) (k : Int) : tkh T k = l.any fun x => x.h == k := by
  cases ht : tkh T k
  · symm
    rw [Bool.eq_false_iff]
    intro e
    obtain ⟨x, hx, hk⟩ := List.any_eq_true.1 e
    have hk : x.h = k := by simpa using hk
    have := (h.mem x hx).1
    rw [hk, ht] at this
    cases this
  · obtain ⟨p1, p2, p3⟩ := tkh_parts ht
    obtain ⟨x, hx, hh⟩ := h.all _ p1 p2
    symm
    exact List.any_eq_true.2 ⟨x, hx, by simp [hh, p3]⟩
theorem sti_new (n : Nat) : StI (newTb n) [] := by
  refine ⟨fun x hx => by simp at hx, fun i hi hr => ?_, ?_, List.Pairwise.nil⟩
  · have hi : i < n := hi
    exact absurd (by simp [newTb, hi]) hr
  · have : ∀ k, k ≤ n → lvTo (newTb n) k = [] := fun k => by
      induction k with
      | zero => intro _; rfl
      | succ k ih =>
        intro hk
        unfold lvTo
        rw [ih (by omega)]
        simp [newTb, takP, show k < n by omega]
    rw [show (newTb n).n = n from rfl, this n (Nat.le_refl _)]
    rfl
end Go.Proofs.Ytimmjhegeagofac
