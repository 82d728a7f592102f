/- The document's Claim. -/
import Derived.Test.YtkgehbonijpdnaaURefR
namespace Go.Proofs.Ytkgehbonijpdnaa
open Go.RowKit
set_option maxRecDepth 100000

theorem clm_cells {ls : List PLn} {V : Nat → Value} {j : Nat} {u : Value} (hj : j < ls.length) (i e : Nat) (he : e < 6) : (if i = j ∧ e = 5 then Value.int .i64 (atP ls j).ep else if i = j ∧ e = 4 then Value.int .i64 ((atP ls j).nx + 1) else if i = j ∧ e = 3 then u else if i = j ∧ e = 2 then Value.int .i64 ((atP ls j).lf - 1) else if i = j ∧ e = 1 then Value.bool (atP ls j).tw else if i = j ∧ e = 0 then Value.int .i64 (atP ls j).cr else encLs ls V i e) = encLs (ls.set j (claimL (atP ls j))) (updV V j u) i e := by
  unfold encLs updV
  rw [atP_set hj]
  by_cases h : i = j
  · subst h
    rw [if_pos rfl, if_pos rfl]
    match e, he with
    | 0, _ => simp [encP, claimL]
    | 1, _ => simp [encP, claimL]
    | 2, _ => simp [encP, claimL]
    | 3, _ => simp [encP]
    | 4, _ => simp [encP, claimL]
    | 5, _ => simp [encP, claimL]
  · simp [h]
theorem Rd.put0 {w : World} {b off n s j : Nat} {c : Nat → Nat → Value} (h : Rd w (some ⟨b, off, none⟩) n s c) (hj : j < n) (hf : 0 < s) (u : Value) : Rd (w.setCell ⟨b, off + j * s, none⟩ u) (some ⟨b, off, none⟩) n s (fun i e => if i = j ∧ e = 0 then u else c i e) := h.put hj hf u
/-- the six cells of an element are set -/
theorem Rd.put6 {w : World} {b off n j : Nat} {c : Nat → Nat → Value} (h : Rd w (some ⟨b, off, none⟩) n 6 c) (hj : j < n) (u0 u1 u2 u3 u4 u5 : Value) :
    Rd ((((((w.setCell ⟨b, off + j * 6, none⟩ u0).setCell ⟨b, off + j * 6 + 1, none⟩ u1).setCell ⟨b, off + j * 6 + 2, none⟩ u2).setCell ⟨b, off + j * 6 + 3, none⟩ u3).setCell ⟨b, off + j * 6 + 4, none⟩ u4).setCell ⟨b, off + j * 6 + 5, none⟩ u5) (some ⟨b, off, none⟩) n 6
      (fun i e => if i = j ∧ e = 5 then u5 else if i = j ∧ e = 4 then u4 else if i = j ∧ e = 3 then u3 else if i = j ∧ e = 2 then u2 else if i = j ∧ e = 1 then u1 else if i = j ∧ e = 0 then u0 else c i e) :=
  (((((h.put0 hj (by omega) u0).put hj (f := 1) (by omega) u1).put hj (f := 2) (by omega) u2).put hj (f := 3) (by omega) u3).put hj (f := 4) (by omega) u4).put hj (f := 5) (by omega) u5
theorem Rd.setO {w : World} {b off n s g i : Nat} {c : Nat → Nat → Value} (h : Rd w (some ⟨b, off, none⟩) n s c) (hne : ¬ b = g) (u : Value) : Rd (w.setCell ⟨g, i, none⟩ u) (some ⟨b, off, none⟩) n s c := h.same fun b' off' e => by
  have e : b = b' := by injection e with e; injection e
  subst e
  exact Below.heap_setCell _ _ _ _ hne
theorem own_nine {w : World} {E b off j base sz n : Nat} {T : TypeId} {v : Value} {xs : List Value} {u0 u1 u2 u3 u4 u5 : Value} (h : w.ownsRow base T sz v n xs) (ha : v.ownBlock ≠ some E) (hb : v.ownBlock ≠ some b) : World.ownsRow (((((((((w.setCell ⟨E, 3, none⟩ u3).setCell ⟨E, 4, none⟩ u4).setCell ⟨E, 2, none⟩ u2).setCell ⟨b, off + j * 6, none⟩ u0).setCell ⟨b, off + j * 6 + 1, none⟩ u1).setCell ⟨b, off + j * 6 + 2, none⟩ u2).setCell ⟨b, off + j * 6 + 3, none⟩ u3).setCell ⟨b, off + j * 6 + 4, none⟩ u4).setCell ⟨b, off + j * 6 + 5, none⟩ u5) base T sz v n xs :=
  own_set (own_set (own_set (own_set (own_set (own_set (own_set (own_set (own_set h ha) ha) ha) hb) hb) hb) hb) hb) hb
theorem claimed {w : World} {Q : Qu} {V : Nat → Value} {E b off lc j : Nat} {x : PLn} {ma : Option Addr} {mc : Nat} {u0 u1 u2 u3 u4 u5 : Value} (hj : j < Q.ls.length) (hx : atP Q.ls j = x) (hE : ¬ b = E) (hle : Q.ls.length ≤ lc)
    (h0 : u0 = .int .i64 x.cr) (h1 : u1 = .bool x.tw) (h2 : u2 = .int .i64 (x.lf - 1)) (h4 : u4 = .int .i64 (x.nx + 1)) (h5 : u5 = .int .i64 x.ep)
    (hr : Rd w (some ⟨b, off, none⟩) Q.ls.length 6 (encLs Q.ls V)) (hc : Cl (((((((((w.setCell ⟨E, 3, none⟩ u3).setCell ⟨E, 4, none⟩ u4).setCell ⟨E, 2, none⟩ u2).setCell ⟨b, off + j * 6, none⟩ u0).setCell ⟨b, off + j * 6 + 1, none⟩ u1).setCell ⟨b, off + j * 6 + 2, none⟩ u2).setCell ⟨b, off + j * 6 + 3, none⟩ u3).setCell ⟨b, off + j * 6 + 4, none⟩ u4).setCell ⟨b, off + j * 6 + 5, none⟩ u5) u3 (claimL x).cl)
    (ho : ∀ i, i < Q.ls.length → ¬ i = j → Cl (((((((((w.setCell ⟨E, 3, none⟩ u3).setCell ⟨E, 4, none⟩ u4).setCell ⟨E, 2, none⟩ u2).setCell ⟨b, off + j * 6, none⟩ u0).setCell ⟨b, off + j * 6 + 1, none⟩ u1).setCell ⟨b, off + j * 6 + 2, none⟩ u2).setCell ⟨b, off + j * 6 + 3, none⟩ u3).setCell ⟨b, off + j * 6 + 4, none⟩ u4).setCell ⟨b, off + j * 6 + 5, none⟩ u5) (V i) (atP Q.ls i).cl) (hm : Sl (((((((((w.setCell ⟨E, 3, none⟩ u3).setCell ⟨E, 4, none⟩ u4).setCell ⟨E, 2, none⟩ u2).setCell ⟨b, off + j * 6, none⟩ u0).setCell ⟨b, off + j * 6 + 1, none⟩ u1).setCell ⟨b, off + j * 6 + 2, none⟩ u2).setCell ⟨b, off + j * 6 + 3, none⟩ u3).setCell ⟨b, off + j * 6 + 4, none⟩ u4).setCell ⟨b, off + j * 6 + 5, none⟩ u5) 4 Q.ms.length (encMs Q.ms) (.slice ma Q.ms.length mc)) :
    QIs (((((((((w.setCell ⟨E, 3, none⟩ u3).setCell ⟨E, 4, none⟩ u4).setCell ⟨E, 2, none⟩ u2).setCell ⟨b, off + j * 6, none⟩ u0).setCell ⟨b, off + j * 6 + 1, none⟩ u1).setCell ⟨b, off + j * 6 + 2, none⟩ u2).setCell ⟨b, off + j * 6 + 3, none⟩ u3).setCell ⟨b, off + j * 6 + 4, none⟩ u4).setCell ⟨b, off + j * 6 + 5, none⟩ u5) (.slice (some ⟨b, off, none⟩) Q.ls.length lc) (.slice ma Q.ms.length mc) ⟨Q.ls.set j (claimL x), Q.ms⟩ (updV V j u3) := by
  have hr10 := (((hr.setO (i := 3) hE u3).setO (i := 4) hE u4).setO (i := 2) hE u2).put6 hj u0 u1 u2 u3 u4 u5
  generalize ((((((((w.setCell ⟨E, 3, none⟩ u3).setCell ⟨E, 4, none⟩ u4).setCell ⟨E, 2, none⟩ u2).setCell ⟨b, off + j * 6, none⟩ u0).setCell ⟨b, off + j * 6 + 1, none⟩ u1).setCell ⟨b, off + j * 6 + 2, none⟩ u2).setCell ⟨b, off + j * 6 + 3, none⟩ u3).setCell ⟨b, off + j * 6 + 4, none⟩ u4).setCell ⟨b, off + j * 6 + 5, none⟩ u5 = W at *
  subst h0 h1 h2 h4 h5
  refine ⟨?_, fun i hi => ?_, hm⟩
  · show Sl _ 6 (Q.ls.set j (claimL x)).length _ _
    rw [show (Q.ls.set j (claimL x)).length = Q.ls.length from by simp]
    refine ⟨some ⟨b, off, none⟩, lc, rfl, hle, (fun e => by cases e), ?_⟩
    refine Rd.congr hr10 fun i _ e he => ?_
    rw [← hx]
    exact clm_cells hj i e he
  · have hi' : i < Q.ls.length := by simpa using hi
    show Cl _ (updV V j u3 i) (atP (Q.ls.set j (claimL x)) i).cl
    unfold updV
    rw [atP_set hj]
    by_cases e : i = j
    · rw [if_pos e, if_pos e]
      exact hc
    · rw [if_neg e, if_neg e]
      exact ho i hi' e
end Go.Proofs.Ytkgehbonijpdnaa
