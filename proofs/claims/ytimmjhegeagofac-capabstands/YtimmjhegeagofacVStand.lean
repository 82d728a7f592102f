/- CapabStands: what a handle stands for. -/
import Derived.Test.YtimmjhegeagofacVReg
import Derived.Test.YtimmjhegeagofacVLive
namespace Go.Proofs.Ytimmjhegeagofac
open Go.RowKit Go.Sort
set_option maxRecDepth 100000

def hdC (x : Hd) : List Value := [.int .u32 x.h, .int .i64 x.c, .int .u8 x.r]
def encHd (l : List Hd) : List Value := l.flatMap hdC
theorem encHd_app (l k : List Hd) : encHd (l ++ k) = encHd l ++ encHd k := by simp [encHd]
theorem encHd_len (l : List Hd) : (encHd l).length = l.length * 3 := by
  induction l with
  | nil => rfl
  | cons m l ih => simp [encHd, hdC] at ih ⊢; omega
theorem encHd_one (l : List Hd) : ∀ y ∈ encHd l, y.oneCell' = true := by
  intro y hy
  obtain ⟨x, _, hx⟩ := List.mem_flatMap.1 hy
  simp only [hdC, List.mem_cons, List.not_mem_nil, or_false] at hx
  rcases hx with rfl | rfl | rfl <;> rfl
/-- what CapabStands keeps -/
structure SdI (w0 w : World) (p : Nat) (v : Value) (T : Tb) (l : List Hd) : Prop where
  tx : Tx w p T
  ow : w.ownsRow w0.heap.size 42 3 v l.length (encHd l)
  np : v.ownBlock ≠ some p
  si : StI T l
  bel : Below w0.heap.size w0 w
  bp : w0.heap.size ≤ p
section
variable {w0 w w' w'' : World} {p : Nat} {v v' : Value} {T : Tb} {l : List Hd}
theorem SdI.grow (h : SdI w0 w p v T l) (hb : Below w.heap.size w w') : SdI w0 w' p v T l := ⟨h.tx.below hb, vown_below h.ow hb, h.np, h.si, Below.onto h.bel hb, h.bp⟩
theorem SdI.len (h : SdI w0 w p v T l) : l.length ≤ 32 := by
  have h1 := h.si.len
  have h2 := lvTo_le T T.n
  have h3 := h.tx.ok.n32
  omega
theorem SdI.at_ {a : Option Addr} {cap n : Nat} (h : SdI w0 w p (.slice a n cap) T l) (hn : n = l.length) {j : Nat} (hj : j < n) : ∃ g, a = some ⟨g, 0, none⟩ ∧ n ≤ cap ∧ w.cell? ⟨g, j * 3, none⟩ = some (.int .u32 (l.getD j hd0).h) ∧ w.cell? ⟨g, j * 3 + 1, none⟩ = some (.int .i64 (l.getD j hd0).c) ∧ w.cell? ⟨g, j * 3 + 2, none⟩ = some (.int .u8 (l.getD j hd0).r) := by
  subst hn
  obtain ⟨g, e1, h2, h3⟩ := vown_at h.ow (by omega)
  have hl : l = l.take j ++ l.getD j hd0 :: l.drop (j + 1) := by
    have e : l.getD j hd0 = l[j] := by rw [List.getD_eq_getElem?_getD, List.getElem?_eq_getElem hj]; rfl
    rw [e, List.getElem_cons_drop, List.take_append_drop]
  have e : encHd l = encHd (l.take j) ++ (hdC (l.getD j hd0) ++ encHd (l.drop (j + 1))) := by
    conv => lhs; rw [hl]
    rw [encHd_app]
    rfl
  have e0 : (encHd (l.take j)).length = j * 3 := by rw [encHd_len, List.length_take]; congr 1; omega
  have key : ∀ f y, (hdC (l.getD j hd0))[f]? = some y → w.cell? ⟨g, j * 3 + f, none⟩ = some y := fun f y hy => by
    have hf : f < 3 := by have := (List.getElem?_eq_some_iff.1 hy).1; simpa [hdC] using this
    refine h3 _ _ ?_
    rw [e, List.getElem?_append_right (by omega), e0, show j * 3 + f - j * 3 = f by omega, List.getElem?_append_left (by simp [hdC]; omega)]
    exact hy
  exact ⟨g, e1, h2, key 0 _ rfl, key 1 _ rfl, key 2 _ rfl⟩
theorem mtT_fail {c r : Int} (h : mtE T r ≠ 0) : mtT T c r = T := by
  unfold mtE at h
  unfold mtT
  split
  · rfl
  · next hr =>
    rw [if_neg hr] at h
    split
    · next hf => rw [if_pos hf] at h; exact absurd rfl h
    · rfl
theorem SdI.tell {c r : Int} (h : SdI w0 w p v T l) (h0 : 0 ≤ r) (h1 : r < 256) (he : mtE T r = 0) (hx : Tx w' p (mtT T c r)) (hb : Bt p w w') (ho : w''.ownsRow w0.heap.size 42 3 v' (l.length + 1) (encHd l ++ hdC ⟨mtI T r, c, r⟩)) (hb2 : But (fun b => v.ownBlock = some b) w' w'') (hl : v'.ownBlock = v.ownBlock ∨ ∃ b, v'.ownBlock = some b ∧ w'.heap.size ≤ b) : SdI w0 w'' p v' (mtT T c r) (l ++ [⟨mtI T r, c, r⟩]) := by
  have hbel : Below w0.heap.size w0 w' := h.bel.trans (hb.below h.bel.size h.bp)
  refine ⟨hx.same (hb2.block p hx.lt h.np), ?_, ?_, h.si.mint h.tx.ok h0 h1 he, hbel.trans (hb2.below hbel.size fun k hk => vown_base h.ow hk), h.bp⟩
  · rw [encHd_app, show (l ++ [(⟨mtI T r, c, r⟩ : Hd)]).length = l.length + 1 by simp, show encHd [⟨mtI T r, c, r⟩] = hdC ⟨mtI T r, c, r⟩ by simp [encHd]]
    exact ho
  · intro e
    rcases hl with hl | ⟨g, hl, hg⟩
    · exact h.np (hl ▸ e)
    · rw [hl] at e; cases e; have := hx.lt; omega
theorem SdI.row (h : SdI w0 w p v T l) (hb : Bt p w w') : w'.ownsRow w0.heap.size 42 3 v l.length (encHd l) := vown_but h.ow hb (fun b e e' => h.np (by rw [e, e']))
end
theorem vown_mono {w : World} {base base' size n : Nat} {e : TypeId} {v : Value} {xs : List Value} (h : w.ownsRow base e size v n xs) (hb : base' ≤ base) : w.ownsRow base' e size v n xs := by
  refine ⟨h.1, ?_⟩
  rcases h.2 with hn | ⟨g, cap, cur, rfl, h1, rest⟩
  · exact .inl hn
  · exact .inr ⟨g, cap, cur, rfl, Nat.le_trans hb h1, rest⟩
theorem SdI.cut {w0 w w' w'' : World} {p : Nat} {v v' : Value} {T : Tb} {l1 l2 : List Hd} {x : Hd} (h : SdI w0 w p v T (l1 ++ x :: l2)) (hx : Tx w' p (dpT T x.h)) (hb : Bt p w w') (ho : w''.ownsRow w'.heap.size 42 3 v' (l1.length + l2.length) (encHd l1 ++ encHd l2)) (hb2 : Below w'.heap.size w' w'') : SdI w0 w'' p v' (dpT T x.h) (l1 ++ l2) := by
  have hbel : Below w0.heap.size w0 w' := h.bel.trans (hb.below h.bel.size h.bp)
  refine ⟨hx.below hb2, ?_, fun e => ?_, (h.si.drop h.tx.ok).2, Below.onto hbel hb2, h.bp⟩
  · rw [encHd_app, List.length_append]
    exact vown_mono ho hbel.size
  · have := vown_base ho e
    have := hx.lt
    omega
theorem src_lo {w : World} {B g cv N : Nat} {l1 l2 : List Hd} {x : Hd} (h : w.ownsRow B 42 3 (.slice (some ⟨g, 0, none⟩) N cv) N (encHd (l1 ++ x :: l2))) (hN : 0 < N) : Src w (.slice (some ⟨g, 0, none⟩) l1.length cv) l1.length (encHd l1) := by
  obtain ⟨g', e, _, hc⟩ := vown_at h hN
  cases e
  refine .inr ⟨g, 0, cv, rfl, fun j y hj => ?_⟩
  rw [Nat.zero_add]
  refine hc j y ?_
  rw [encHd_app, List.getElem?_append_left (List.getElem?_eq_some_iff.1 hj).1]
  exact hj
theorem src_hi {w : World} {B g cv N : Nat} {l1 l2 : List Hd} {x : Hd} (h : w.ownsRow B 42 3 (.slice (some ⟨g, 0, none⟩) N cv) N (encHd (l1 ++ x :: l2))) (hN : N = l1.length + 1 + l2.length) : Src w (.slice (some ⟨g, if cv = l1.length + 1 then 0 else (l1.length + 1) * 3, none⟩) (N - (l1.length + 1)) (cv - (l1.length + 1))) l2.length (encHd l2) := by
  obtain ⟨g', e, hcv, hc⟩ := vown_at h (by omega)
  cases e
  rw [show N - (l1.length + 1) = l2.length by omega]
  refine .inr ⟨g, _, _, rfl, fun j y hj => ?_⟩
  have hlt := (List.getElem?_eq_some_iff.1 hj).1
  rw [encHd_len] at hlt
  rw [if_neg (by omega)]
  refine hc _ y ?_
  rw [encHd_app, List.getElem?_append_right (by rw [encHd_len]; omega), encHd_len, show encHd (x :: l2) = hdC x ++ encHd l2 from rfl, List.getElem?_append_right (by simp [hdC]; omega), show (l1.length + 1) * 3 + j - l1.length * 3 - (hdC x).length = j by simp [hdC]; omega]
  exact hj
theorem split_at {l : List Hd} {k : Nat} (hk : k < l.length) : ∃ l1 l2, l = l1 ++ l.getD k hd0 :: l2 ∧ l1.length = k := by
  refine ⟨l.take k, l.drop (k + 1), ?_, by rw [List.length_take]; omega⟩
  have e : l.getD k hd0 = l[k] := by rw [List.getD_eq_getElem?_getD, List.getElem?_eq_getElem hk]; rfl
  rw [e, List.getElem_cons_drop, List.take_append_drop]
end Go.Proofs.Ytimmjhegeagofac
