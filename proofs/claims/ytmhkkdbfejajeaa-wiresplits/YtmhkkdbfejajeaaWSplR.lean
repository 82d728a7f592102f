/- The document's Split: each piece a new row. -/
import Derived.Test.YtmhkkdbfejajeaaWSplM
namespace Go.Proofs.Ytmhkkdbfejajeaa
open Go.RowKit

/-- es: k slices, slice i a row of one's own with piece i -/
def EntR (W : World) (base n k : Nat) (z : Nat → Int) (es : List Value) : Prop :=
  es.length = k ∧ ∀ i, i < k → ∃ ev, es[i]? = some ev ∧ W.ownsRow base 5 1 ev (ln n i) (encB (ln n i) (fun j => z (16 * i + j)))
theorem own_apart {w : World} {base base' e e' size size' n n' : Nat} {v v' : Value} {xs xs' : List Value} (h : w.ownsRow base e size v n xs) (h' : w.ownsRow base' e' size' v' n' xs') (hne : e ≠ e') : v.ownBlock = none ∨ v.ownBlock ≠ v'.ownBlock := by
  rcases h.2 with ⟨rfl, _⟩ | ⟨g, cap, cur, rfl, _, hg, _⟩
  · exact .inl rfl
  · refine .inr fun eq => ?_
    rcases h'.2 with ⟨rfl, _⟩ | ⟨g', cap', cur', rfl, _, hg', _⟩
    · cases eq
    · cases eq
      rw [hg] at hg'
      cases hg'
      exact hne rfl
theorem EntR.below {W W' : World} {base n k : Nat} {z : Nat → Int} {es : List Value} (h : EntR W base n k z es) (hb : Below W.heap.size W W') : EntR W' base n k z es :=
  ⟨h.1, fun i hi => by obtain ⟨ev, e, ho⟩ := h.2 i hi; exact ⟨ev, e, ownStay ho hb⟩⟩
theorem EntR.kept {W W' : World} {base base' n k m : Nat} {z : Nat → Int} {es xs : List Value} {v : Value} (h : EntR W base n k z es) (ho : W.ownsRow base' 27 1 v m xs) (hg : W.grownBy W' v.ownBlock) : EntR W' base n k z es :=
  ⟨h.1, fun i hi => by obtain ⟨ev, e, ho'⟩ := h.2 i hi; exact ⟨ev, e, ho'.kept hg (own_apart ho' ho (by decide))⟩⟩
theorem EntR.snoc {W : World} {base n k : Nat} {z : Nat → Int} {es : List Value} {ev : Value} (h : EntR W base n k z es) (ho : W.ownsRow base 5 1 ev (ln n k) (encB (ln n k) (fun j => z (16 * k + j)))) : EntR W base n (k + 1) z (es ++ [ev]) := by
  refine ⟨by simp [h.1], fun i hi => ?_⟩
  by_cases e : i = k
  · subst e
    exact ⟨ev, by rw [List.getElem?_append_right (by rw [h.1]; exact Nat.le_refl _), h.1]; simp, ho⟩
  · obtain ⟨ev', e', ho'⟩ := h.2 i (by omega)
    exact ⟨ev', by rw [List.getElem?_append_left (by rw [h.1]; omega)]; exact e', ho'⟩
theorem EntR.pieces {W : World} {base n N : Nat} {z : Nat → Int} {es : List Value} {v : Value} (h : EntR W base n N z es) (ho : W.ownsRow base 27 1 v N es) (hp : ∀ i, i < N → 0 < ln n i) : PRow W v N n z := by
  rcases ho.2 with ⟨rfl, rfl⟩ | ⟨r, cap, cur, rfl, _, _⟩
  · exact ⟨none, 0, rfl, fun i hi => absurd hi (by omega)⟩
  · refine ⟨some ⟨r, 0, none⟩, cap, rfl, fun i hi => ?_⟩
    obtain ⟨ev, e, ho'⟩ := h.2 i hi
    obtain ⟨a, c, rfl, hc, _⟩ := cells_of_own ho' (encB_at _ _)
    obtain ⟨pb, po, rfl⟩ := cells_some hc (hp i hi)
    refine ⟨r, 0, pb, po, c, rfl, ?_, hc⟩
    rw [Nat.zero_add, ho.cellAt i (by omega)]; exact e
theorem own_lift {w : World} {base base' e size n : Nat} {v : Value} {xs : List Value} (h : w.ownsRow base e size v n xs) (hb : base' ≤ base) : w.ownsRow base' e size v n xs := by
  refine ⟨h.1, ?_⟩
  rcases h.2 with h' | ⟨g, cap, cur, e, h1, h2⟩
  · exact .inl h'
  · exact .inr ⟨g, cap, cur, e, Nat.le_trans hb h1, h2⟩

theorem own_some {w : World} {base e size n : Nat} {v : Value} {xs : List Value} (h : w.ownsRow base e size v n xs) (hn : 0 < n) : ∃ g c, v = .slice (some ⟨g, 0, none⟩) n c := by
  rcases h.2 with ⟨_, e⟩ | ⟨g, cap, cur, rfl, _⟩
  · exact absurd e (by omega)
  · exact ⟨g, cap, rfl⟩
theorem own_any {w : World} {base e size n : Nat} {v : Value} {xs : List Value} (h : w.ownsRow base e size v n xs) : ∃ a c, v = .slice a n c := by
  rcases h.2 with ⟨rfl, rfl⟩ | ⟨g, cap, cur, rfl, _⟩
  · exact ⟨none, 0, rfl⟩
  · exact ⟨_, cap, rfl⟩

set_option maxHeartbeats 4000000 in
theorem rsplit_any (a0 : Option Addr) (n cap : Nat) (m : Int) (z : Nat → Int) (w : World) (hn : n ≤ 400) (hcap : n ≤ cap) (hc : Cells w .u8 a0 n z) :
    Calls Try.prog 21 #[.slice a0 n cap, .int .i64 m] w fun e w' => ∃ v, e = .returned v ∧ PRow w' v (cnt n m) n z ∧ Below w.heap.size w w' := by
  obtain ⟨i0, hi, hz0, hz1, hz2⟩ := info_parts Try.infoSl
  obtain ⟨j0, hj, hy0, hy1, hy2⟩ := info_parts Try.infoU8
  have hN := cnt_le n m
  have hq : cnt n m = min m.toNat ((n + 15) / 16) := rfl
  have hk0 : ∀ k : Nat, k < cnt n m ↔ 16 * k < n ∧ (k : Int) < m := fun k => by omega
  have hmi3 : ∀ (r : Nat) W ts t, (Builtin.min_ ts t #[.int .i64 (r : Int), .int .i64 16]).run Try.prog W = .ok (.int .i64 ((min r 16 : Nat) : Int)) W := fun r W ts t => by
    rw [run_min_int2, show (if (16 : Int) < (r : Int) then (16 : Int) else r) = ((min r 16 : Nat) : Int) by split <;> omega]
  have hN25 : cnt n m ≤ 25 := by omega
  have HF : Hid (∀ k : Nat, k < cnt n m ↔ 16 * k < n ∧ (k : Int) < m) := hk0
  clear hq hN hk0
  generalize cnt n m = N at *
  obtain ⟨b, off, hbo⟩ : ∃ b off, 0 < n → a0 = some ⟨b, off, none⟩ := by
    by_cases h0 : 0 < n
    · obtain ⟨b, off, e⟩ := cells_some hc h0
      exact ⟨b, off, fun _ => e⟩
    · exact ⟨0, 0, fun h => absurd h h0⟩
  have HC : Hid (Cells w .u8 a0 n z) := hc
  clear hc
  go_enter Try.func21, Try.ntmps21
  go_wp2_with fail
  go_loopw [0, 5] (fun r v wr => ∃ k : Nat, k ≤ N ∧ Hid (∃ a c, r = .slice a (n - 16 * k) c ∧ (16 * k < n → a = some ⟨b, off + 16 * k, none⟩ ∧ n - 16 * k ≤ c)) ∧ (∃ es va vc, v = .slice va k vc ∧ Hid (wr.ownsRow w.heap.size 27 1 v k es ∧ EntR wr w.heap.size n k z es)) ∧ Below w.heap.size w wr) (fun r _ _ => lenV r)
  case atStart => exact ⟨0, by omega, ⟨a0, cap, by rw [Nat.mul_zero, Nat.sub_zero], fun h => ⟨hbo (by omega), by omega⟩⟩, ⟨[], none, 0, rfl, World.ownsRow_nil _ _ _ _, rfl, fun i hi => absurd hi (by omega)⟩, Below.refl _ _⟩
  case round =>
    obtain ⟨k, hk, hr, ⟨es, va, vc, rfl, hO⟩, hbel⟩ := hrel
    obtain ⟨a, c, rfl, ha⟩ := hr.out
    clear hr
    by_cases hkN : k < N
    · obtain ⟨hlt, hkm⟩ := (HF.out k).1 hkN
      obtain ⟨rfl, hcc⟩ := ha hlt
      obtain ⟨r, hr⟩ : ∃ r, r = n - 16 * k := ⟨_, rfl⟩
      rw [← hr] at hcc ⊢
      have hm3 := hmi3 r
      obtain ⟨q, hq⟩ : ∃ q, q = min r 16 := ⟨_, rfl⟩
      rw [← hq] at hm3
      have HQ : Hid (q = ln n k) := by show q = ln n k; unfold ln; omega
      have q1 : (q : Int) ≤ (c : Int) := by omega
      have q2 : (q : Int) ≤ (r : Int) := by omega
      have q3 : (0 : Int) < (r : Int) := by omega
      have q4 : (0 : Int) < (q : Int) := by omega
      have q5 : (k : Int) + 1 ≤ 25 := by omega
      have q6 : q ≤ 16 := by omega
      have hcq : Cells (wr.alloc (.cells #[] 5)) .u8 (some ⟨b, off + 16 * k, none⟩) q (fun j => z (16 * k + j)) := by
        have h1 := HC.out.below hbel
        rw [hbo (by omega)] at h1
        exact (h1.part (16 * k) q (by omega)).below ((Below.refl _ wr).alloc (Nat.le_refl _) _)
      have hn1 := news_of_cells hcq
      have hrow := own_block0 wr 5 wr.heap.size (Nat.le_refl _)
      have HS : Hid (r = n - 16 * k ∧ q = min r 16 ∧ r ≤ c ∧ 16 * k < n) := ⟨hr, hq, hcc, hlt⟩
      clear hr hq ha hmi3 hcc hlt hcq
      have hO1 := hO.out.1
      have q7 : 0 < q := by omega
      go_wp2_with (first
        | (at_builtin; refine wpList_append_own _ rfl _ _ 27 rfl wr.heap.size 5 j0 (.int .u8 0) 1 1 Try.underlying27 hj hy0 hy1 hy2 rfl (by decide) _ _ _ rfl hrow ⟨b, off + 16 * k, none⟩ q _ (encB q (fun j => z (16 * k + j))) rfl (by rw [encB_length]; omega) hn1 (encB_one _ _) (by unfold maxLen; omega) (by omega) (by simp) ?_; intro v1 w3 hown3 hgrow3 _; rw [Nat.zero_add, List.nil_append] at hown3; obtain ⟨g1, c1, rfl⟩ := own_some hown3 q7; have b3 := ((Below.refl _ wr).alloc (Nat.le_refl _) _).grown hgrow3 (by simp) (own_ge hrow); have o3 := ownStay hO1 b3; clear hgrow3 hn1 hrow)
        | (at_builtin; refine wpList_append_own _ rfl _ _ 49 rfl w.heap.size 27 i0 (.slice none 0 0) 1 24 Try.underlying49 hi hz0 hz1 hz2 rfl (by decide) _ _ _ rfl (o3.alloc _) ⟨w3.heap.size, 0, none⟩ 1 1 [.slice (some ⟨g1, 0, none⟩) q c1] rfl rfl (cell_one_new _ _ _) (by simp [Value.oneCell']) (by unfold maxLen; omega) (by omega) (by have := hbel.size; have := b3.size; simp; omega) ?_; intro v' w5 hown5 hgrow5 _))
      obtain ⟨hr, hq, hcc, hlt⟩ := HS.out
      have E3 := hO.out.2.below b3
      have hB3 : Below w.heap.size w w3 := Below.onto hbel b3
      have n3 := own_lift (base' := w.heap.size) hown3 hbel.size
      rw [HQ.out] at n3 hown5
      have E4 := (E3.snoc n3).below (below_alloc w3 (.cells #[.slice (some ⟨g1, 0, none⟩) (ln n k) c1] 27))
      have hE5 : EntR w5 w.heap.size n (k + 1) z (es ++ [.slice (some ⟨g1, 0, none⟩) (ln n k) c1]) := E4.kept (o3.alloc _) (by rw [HQ.out] at hgrow5; exact hgrow5)
      obtain ⟨va', vc', rfl⟩ := own_any hown5
      have hle := own_ge o3
      have hB5 : Below w.heap.size w w5 := (hB3.alloc hB3.size _).grown hgrow5 (by have := hB3.size; simp; omega) hle
      refine ⟨⟨k + 1, by omega, ⟨_, _, by rw [show r - q = n - 16 * (k + 1) by omega], fun h => ⟨?_, by omega⟩⟩, ⟨_, va', vc', rfl, hown5, hE5⟩, hB5⟩, ?_⟩
      · rw [if_neg (show ¬ c = q by omega), show off + 16 * k + q = off + 16 * (k + 1) by omega]
      · show r - q < r
        omega
    · obtain rfl : k = N := by omega
      have HP : Hid (PRow wr (.slice va k vc) k n z) := hO.out.2.pieces hO.out.1 fun i hi => ln_pos ((HF.out i).1 hi).1
      have hno : ¬ (16 * k < n ∧ (k : Int) < m) := fun h => hkN ((HF.out k).2 h)
      clear hO
      by_cases hlt : 16 * k < n
      · have q1 : m ≤ (k : Int) := by omega
        have q2 : (0 : Int) < ((n - 16 * k : Nat) : Int) := by omega
        clear ha hno
        generalize n - 16 * k = r at *
        go_wp2_with fail
        go_ret
        exact ⟨_, rfl, HP.out, hbel⟩
      · have e0 : n - 16 * k = 0 := by omega
        rw [e0]
        clear ha hno e0 hlt
        go_wp2_with fail
        go_ret
        exact ⟨_, rfl, HP.out, hbel⟩

end Go.Proofs.Ytmhkkdbfejajeaa
