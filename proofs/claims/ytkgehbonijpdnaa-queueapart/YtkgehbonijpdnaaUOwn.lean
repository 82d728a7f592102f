/- queue's own, with: copies of a queue, one lane set. -/
import Derived.Test.YtkgehbonijpdnaaUSend
namespace Go.Proofs.Ytkgehbonijpdnaa
open Go.RowKit
set_option maxRecDepth 100000

/-- a whole block -/
def Blk (w : World) (b : Nat) (T : TypeId) (l : List Value) : Prop := w.heap[b]? = some (.cells l.toArray T (0, 0))
section
variable {w w' : World} {b : Nat} {T : TypeId} {l : List Value}
theorem Blk.lt (h : Blk w b T l) : b < w.heap.size := (Array.getElem?_eq_some_iff.1 h).1
theorem Blk.bx (h : Blk w b T l) : Bx w b l := fun i v hv => by rw [cell_of_row w b i _ T (0, 0) h]; simpa using hv
theorem Blk.fz (h : Blk w b T l) (i : Nat) : w.frozen? ⟨b, i, none⟩ = false := frozen_of_row _ _ i _ _ h
theorem Blk.same (h : Blk w b T l) (hb : w'.heap[b]? = w.heap[b]?) : Blk w' b T l := hb.trans h
theorem Blk.set (h : Blk w b T l) (i : Nat) (v : Value) : Blk (w.setCell ⟨b, i, none⟩ v) b T (l.set i v) := by
  unfold Blk
  rw [setCell_eq_setRow w b i _ T (0, 0) v h, setRow_heap w b _ _ T _ h]
  simp
theorem Blk.setO (h : Blk w b T l) {b' i : Nat} (hne : b ≠ b') (v : Value) : Blk (w.setCell ⟨b', i, none⟩ v) b T l := h.same (Below.heap_setCell _ _ _ _ hne)
theorem Blk.below (h : Blk w b T l) (hb : Below w.heap.size w w') : Blk w' b T l := h.same (hb.block b h.lt)
theorem Blk.upTo {B : Nat} (h : Blk w b T l) (hb : Below B w w') (hB : b < B) : Blk w' b T l := h.same (hb.block b hB)
theorem blk_new (w : World) (l : List Value) (T : TypeId) : Blk (w.alloc (.cells l.toArray T)) w.heap.size T l := gheap_new w _
theorem hs_alloc (w : World) (o : Obj) : (w.alloc o).heap.size = w.heap.size + 1 := by simp
theorem alloc1 (w : World) (l : List Value) (T : TypeId) : Blk (w.alloc (.cells l.toArray T)) w.heap.size T l ∧ Below w.heap.size w (w.alloc (.cells l.toArray T)) ∧ (w.alloc (.cells l.toArray T)).heap.size = w.heap.size + 1 := ⟨blk_new w l T, below_new _ _, hs_alloc _ _⟩
theorem alloc2 (w : World) (l1 : List Value) (T1 : TypeId) (l2 : List Value) (T2 : TypeId) :
    Blk ((w.alloc (.cells l1.toArray T1)).alloc (.cells l2.toArray T2)) w.heap.size T1 l1 ∧ Blk ((w.alloc (.cells l1.toArray T1)).alloc (.cells l2.toArray T2)) (w.heap.size + 1) T2 l2 ∧
    Below w.heap.size w ((w.alloc (.cells l1.toArray T1)).alloc (.cells l2.toArray T2)) ∧ ((w.alloc (.cells l1.toArray T1)).alloc (.cells l2.toArray T2)).heap.size = w.heap.size + 1 + 1 := by
  have h2 := blk_new (w.alloc (.cells l1.toArray T1)) l2 T2
  rw [hs_alloc] at h2
  exact ⟨(blk_new w l1 T1).below (below_new _ _), h2, Below.onto (below_new _ _) (below_new _ _), by rw [hs_alloc, hs_alloc]⟩
theorem alloc3 (w : World) (l1 : List Value) (T1 : TypeId) (l2 : List Value) (T2 : TypeId) (l3 : List Value) (T3 : TypeId) :
    Blk (((w.alloc (.cells l1.toArray T1)).alloc (.cells l2.toArray T2)).alloc (.cells l3.toArray T3)) w.heap.size T1 l1 ∧ Blk (((w.alloc (.cells l1.toArray T1)).alloc (.cells l2.toArray T2)).alloc (.cells l3.toArray T3)) (w.heap.size + 1) T2 l2 ∧
    Blk (((w.alloc (.cells l1.toArray T1)).alloc (.cells l2.toArray T2)).alloc (.cells l3.toArray T3)) (w.heap.size + 1 + 1) T3 l3 ∧
    Below w.heap.size w (((w.alloc (.cells l1.toArray T1)).alloc (.cells l2.toArray T2)).alloc (.cells l3.toArray T3)) ∧ (((w.alloc (.cells l1.toArray T1)).alloc (.cells l2.toArray T2)).alloc (.cells l3.toArray T3)).heap.size = w.heap.size + 1 + 1 + 1 := by
  obtain ⟨h1, h2, h3, h4⟩ := alloc2 w l1 T1 l2 T2
  have h5 := blk_new ((w.alloc (.cells l1.toArray T1)).alloc (.cells l2.toArray T2)) l3 T3
  rw [h4] at h5
  exact ⟨h1.below (below_new _ _), h2.below (below_new _ _), h5, Below.onto h3 (below_new _ _), by rw [hs_alloc, h4]⟩
end

theorem Cl.same {w w' : World} {v : Value} {l : List Int} (h : Cl w v l) (hb : l.length ≠ 0 → ∀ b, v.ownBlock = some b → w'.heap[b]? = w.heap[b]?) : Cl w' v l := by
  by_cases h0 : l.length = 0
  · obtain ⟨a, cap, e, h1, h2, h3⟩ := h
    exact ⟨a, cap, e, h1, h2, fun j hj => absurd hj (by omega)⟩
  · exact Sl.same h (hb h0)
theorem Cl.setO {w : World} {v : Value} {l : List Int} (h : Cl w v l) {g i : Nat} {u : Value} (hne : l.length ≠ 0 → v.ownBlock ≠ some g) : Cl (w.setCell ⟨g, i, none⟩ u) v l :=
  h.same fun h0 b e => Below.heap_setCell _ _ _ _ (by rintro rfl; exact hne h0 e)
theorem Cl.blk {w : World} {v : Value} {l : List Int} (h : Cl w v l) (h0 : l.length ≠ 0) : ∃ b, v.ownBlock = some b ∧ b < w.heap.size := by
  obtain ⟨a, cap, e, h1, h2, h3⟩ := h
  obtain ⟨b, off, rfl, hc⟩ := h3 0 (by omega)
  exact ⟨b, by rw [e]; rfl, cell_lt (hc 0 (by omega))⟩
theorem Cl.ne {w : World} {v : Value} {l : List Int} (h : Cl w v l) {g : Nat} (hg : w.heap.size ≤ g) (h0 : l.length ≠ 0) : v.ownBlock ≠ some g := by
  obtain ⟨b, e, hb⟩ := h.blk h0
  rw [e]
  intro h
  cases h
  omega
theorem one_encI (l : List Int) : ∀ j, j < l.length → ∀ f, f < 1 → (encI l j f).oneCell' = true := fun _ _ _ _ => rfl
theorem one_encM (l : List PMs) : ∀ j, j < l.length → ∀ f, f < 4 → (encMs l j f).oneCell' = true := fun j _ f hf => by
  match f, hf with
  | 0, _ => rfl
  | 1, _ => rfl
  | 2, _ => rfl
  | 3, _ => rfl
theorem one_encP {w : World} {V : Nat → Value} {l : List PLn} (h : Cls w V l) : ∀ j, j < l.length → ∀ f, f < 6 → (encLs l V j f).oneCell' = true := fun j hj f hf => by
  obtain ⟨a, cap, e, _⟩ := h j hj
  match f, hf with
  | 0, _ => rfl
  | 1, _ => rfl
  | 2, _ => rfl
  | 3, _ => show (V j).oneCell' = true; rw [e]; rfl
  | 4, _ => rfl
  | 5, _ => rfl
def updV (V : Nat → Value) (k : Nat) (v : Value) (j : Nat) : Value := if j = k then v else V j
theorem ls_step {ls : List PLn} {V : Nat → Value} {k : Nat} {v : Value} (j f : Nat) (hf : f < 6) : (if j = k ∧ f = 3 then v else encLs ls V j f) = encLs ls (updV V k v) j f := by
  unfold encLs updV
  by_cases h : j = k
  · subst h
    match f, hf with
    | 0, _ => simp [encP]
    | 1, _ => simp [encP]
    | 2, _ => simp [encP]
    | 3, _ => simp [encP]
    | 4, _ => simp [encP]
    | 5, _ => simp [encP]
  · simp [h]
/-- claims that lie behind block g -/
def Off (V : Nat → Value) (ls : List PLn) (g : Nat) : Prop := ∀ j, j < ls.length → (atP ls j).cl.length ≠ 0 → ∀ b, (V j).ownBlock = some b → g < b
/-- the first k claims lie behind block g, the others ahead of B -/
def OffK (V : Nat → Value) (ls : List PLn) (B g k : Nat) : Prop := ∀ j, j < ls.length → (atP ls j).cl.length ≠ 0 → ∀ b, (V j).ownBlock = some b → (j < k → g < b) ∧ (k ≤ j → b < B)
set_option maxHeartbeats 4000000 in
theorem own_any (vl vm : Value) (Q : Qu) (V : Nat → Value) (w : World) (ho : OkQ Q) (hq : QIs w vl vm Q V) : Calls Try.prog 28 #[quV vl vm] w fun e w' =>
    ∃ g h V', e = .returned (quV (.slice (some ⟨g, 0, none⟩) Q.ls.length Q.ls.length) (.slice (some ⟨h, 0, none⟩) Q.ms.length Q.ms.length)) ∧ Rw w' g 57 Q.ls.length 6 (encLs Q.ls V') ∧ Cls w' V' Q.ls ∧ Off V' Q.ls g ∧ Rw w' h 44 Q.ms.length 4 (encMs Q.ms) ∧ w.heap.size ≤ g ∧ g < h ∧ Below w.heap.size w w' := by
  have HQ : Hid (QIs w vl vm Q V) := hq
  have hcl := fun W h1 => copiedP_any vl Q.ls.length (encLs Q.ls V) W (by have := ho.nl; omega) h1 (one_encP hq.c)
  have hcm := fun W h1 => copiedM_any vm Q.ms.length (encMs Q.ms) W (by have := ho.nm; omega) h1 (one_encM Q.ms)
  obtain ⟨la, lc, rfl, hlc, _, hlr⟩ := hq.l
  obtain ⟨ma, mc, rfl, hmc, _, hmr⟩ := hq.m
  have hn := ho.nl
  have hm := ho.nm
  have HO : Hid (OkQ Q) := ho
  obtain ⟨k1, k2, b2, s2⟩ := alloc2 w [.slice la Q.ls.length lc, .slice ma Q.ms.length mc] 30 [.slice none 0 0, .slice none 0 0] 30
  have K1 : Hid (Blk _ _ _ _) := k1
  have K2 : Hid (Blk _ _ _ _) := k2
  have B2 : Hid (Below _ _ _) := b2
  have S2 : Hid (_ = _) := s2
  clear hlr hmr hq ho k1 k2 b2 s2
  go_enter Try.func28, Try.ntmps28
  go_wp2_with fail
  generalize (w.alloc (.cells #[.slice la Q.ls.length lc, .slice ma Q.ms.length mc] 30)).alloc (.cells #[.slice none 0 0, .slice none 0 0] 30) = w2 at *
  refine (hcl _ (HQ.out.l.below B2.out)).mono ?_
  rintro e w3 ⟨rfl, hrw, hb3, hs3⟩
  have HRW : Hid (Rw _ _ _ _ _ _) := hrw
  have HB3 : Hid (Below _ _ _) := hb3
  clear hrw hb3 hs3
  go_wp2_with fail
  have HG : Hid (w.heap.size + 1 < w2.heap.size) := by show _ < _; rw [S2.out]; omega
  have HC0 : Hid (Cls w3 V Q.ls) := (HQ.out.c.below B2.out).below HB3.out
  have HF0 : Hid (OffK V Q.ls w.heap.size w2.heap.size 0) := fun j hj h0 b e => ⟨fun h => absurd h (by omega), fun _ => by obtain ⟨b', e', h⟩ := (HQ.out.c j hj).blk h0; rw [e] at e'; cases e'; exact h⟩
  generalize w2.heap.size = g at *
  go_loopw [10] (fun i wr => ∃ (k : Nat) (V' : Nat → Value), k ≤ Q.ls.length ∧ i = .int .i64 k ∧ Rw wr g 57 Q.ls.length 6 (encLs Q.ls V') ∧ Hid (Cls wr V' Q.ls) ∧ Hid (OffK V' Q.ls w.heap.size g k) ∧ Hid (Below g w3 wr)) (fun i _ => Q.ls.length - (intOf i).toNat)
  case atStart => exact ⟨0, V, Nat.zero_le _, rfl, HRW.out, HC0.out, HF0.out, Below.refl _ _⟩
  case round =>
    obtain ⟨k, V', hk, rfl, hrw, hcls, hoff, hbel⟩ := hrel
    by_cases hlt : k < Q.ls.length
    · have HW : Hid (Rw wr g 57 Q.ls.length 6 (encLs Q.ls V')) := hrw
      have y3 : wr.cell? ⟨g, k * 6 + 3, none⟩ = some (V' k) := hrw.cell (f := 3) hlt (by omega)
      have z0 := hrw.fz
      have zl := hrw.lt
      have hcI := copiedI_any (V' k) (atP Q.ls k).cl.length (encI (atP Q.ls k).cl) wr (HO.out.nc k hlt) (hcls.out k hlt) (one_encI _)
      obtain ⟨ca, cc, hV, _, _, _⟩ := hcls.out k hlt
      rw [hV] at y3 hcI
      clear hV hrw
      obtain ⟨n1, hn1⟩ : ∃ n1, n1 = (atP Q.ls k).cl.length := ⟨_, rfl⟩
      have HN1 : Hid (n1 = (atP Q.ls k).cl.length) := hn1
      rw [← hn1] at y3 hcI
      clear hn1
      go_wp2_with fail
      refine hcI.mono ?_
      rintro e w4 ⟨rfl, hrw4, hb4, hs4⟩
      have HR4 : Hid (Rw w4 wr.heap.size 3 n1 1 (encI (atP Q.ls k).cl)) := hrw4
      have HB4 : Hid (Below wr.heap.size wr w4) := hb4
      have HW4 : Hid (Rw w4 g 57 Q.ls.length 6 (encLs Q.ls V')) := HW.out.below hb4
      have x3 : w4.cell? ⟨g, k * 6 + 3, none⟩ = some (V' k) := HW4.out.cell (f := 3) hlt (by omega)
      have x4 := HW4.out.fz
      have x5 := HW4.out.lt
      have HC4 : Hid (Cls w4 V' Q.ls) := hcls.out.below hb4
      have HZL : Hid (g < wr.heap.size) := zl
      clear hrw4 hb4 hs4 y3 z0 zl
      go_wp2_with fail
      refine ⟨⟨k + 1, updV V' k (.slice (some ⟨wr.heap.size, 0, none⟩) n1 n1), by omega, by go_num, ?_, ?_, ?_, ?_⟩, by simp [intOf]; omega⟩
      · exact (HW4.out.set hlt (e := 3) (by omega) _).congr fun j _ f hf => ls_step j f hf
      · intro j hj
        unfold updV
        by_cases e : j = k
        · subst e
          rw [if_pos rfl, HN1.out]
          refine Cl.setO ?_ fun _ h => ?_
          · have := HR4.out.sl
            rwa [HN1.out] at this
          · have h : wr.heap.size = g := by simpa [Value.ownBlock] using h
            have := HZL.out
            omega
        · rw [if_neg e]
          refine (HC4.out j hj).setO fun h0 h => ?_
          have h1 := hoff.out j hj h0 g h
          have h2 := HG.out
          rcases Nat.lt_or_ge j k with h3 | h3
          · have := h1.1 h3; omega
          · have := h1.2 h3; omega
      · intro j hj h0 b
        unfold updV
        by_cases e : j = k
        · rw [if_pos e]
          intro h
          have h : wr.heap.size = b := by simpa [Value.ownBlock] using h
          have := HZL.out
          exact ⟨fun _ => by omega, fun _ => by omega⟩
        · rw [if_neg e]
          intro h
          have h1 := hoff.out j hj h0 b h
          exact ⟨fun _ => h1.1 (by omega), fun _ => h1.2 (by omega)⟩
      · exact (hbel.out.trans (HB4.out.mono (Nat.le_of_lt HZL.out))).setCell (Nat.le_refl _) _
    · obtain rfl : k = Q.ls.length := by omega
      obtain ⟨wx, hwx⟩ : ∃ x, x = wr := ⟨wr, rfl⟩
      subst hwx
      have HW : Hid (Rw wx g 57 Q.ls.length 6 (encLs Q.ls V')) := hrw
      have B3x : Hid (Below g w2 wx) := HB3.out.trans hbel.out
      have K1x : Hid (Blk wx w.heap.size _ _) := K1.out.upTo B3x.out (by have := HG.out; omega)
      have K2x : Hid (Blk wx (w.heap.size + 1) _ _) := K2.out.upTo B3x.out HG.out
      have Bx' : Hid (Below w.heap.size w wx) := B2.out.trans (B3x.out.mono (by have := HG.out; omega))
      obtain ⟨q0, q1⟩ := K1x.out.bx.two
      have hm4 := hcm wx (HQ.out.m.below Bx'.out)
      clear hrw
      go_wp2_with fail
      refine hm4.mono ?_
      rintro e w4 ⟨rfl, hrw4, hb4, hs4⟩
      have HR4 : Hid (Rw w4 wx.heap.size 44 Q.ms.length 4 (encMs Q.ms)) := hrw4
      have HB4 : Hid (Below wx.heap.size wx w4) := hb4
      have K2y : Hid (Blk w4 (w.heap.size + 1) _ _) := K2x.out.below hb4
      obtain ⟨p0, p1⟩ := K2y.out.bx.two
      have p2 := K2y.out.fz
      have p3 := K2y.out.lt
      clear hrw4 hb4 hs4 q0 q1
      go_wp2_with fail
      have HO4 : Hid (Off V' Q.ls g) := fun j hj h0 b e => (hoff.out j hj h0 b e).1 hj
      have hg1 := HG.out
      have hg2 := HW.out.lt
      refine bodyPost_ret (v := quV (.slice (some ⟨g, 0, none⟩) Q.ls.length Q.ls.length) (.slice (some ⟨wx.heap.size, 0, none⟩) Q.ms.length Q.ms.length)) (by simp [results, Try.results28, go_sem, p0, p1]) rfl ⟨g, wx.heap.size, V', rfl, ?_, ?_, HO4.out, ?_, by omega, hg2, ?_⟩
      · exact ((HW.out.below HB4.out).setO (by omega)).setO (by omega)
      · intro j hj
        refine (((hcls.out.below HB4.out) j hj).setO fun h0 e => ?_).setO fun h0 e => ?_
        all_goals
          have := HO4.out j hj h0 _ e
          omega
      · exact (HR4.out.setO (by omega)).setO (by omega)
      · exact ((Below.onto Bx'.out HB4.out).setCell (Nat.le_succ _) _).setCell (Nat.le_succ _) _

theorem set6_ls {ls : List PLn} {V : Nat → Value} {k : Nat} {x : PLn} {v : Value} (hk : k < ls.length) (j f : Nat) (hf : f < 6) :
    set6 (encLs ls V) k (.int .i64 x.cr) (.bool x.tw) (.int .i64 x.lf) v (.int .i64 x.nx) (.int .i64 x.ep) j f = encLs (ls.set k x) (updV V k v) j f := by
  unfold encLs updV
  by_cases h : j = k
  · subst h
    have e : atP (ls.set j x) j = x := by simp [atP, hk]
    rw [e, if_pos rfl]
    match f, hf with
    | 0, _ => simp [set6, encP]
    | 1, _ => simp [set6, encP]
    | 2, _ => simp [set6, encP]
    | 3, _ => simp [set6, encP]
    | 4, _ => simp [set6, encP]
    | 5, _ => simp [set6, encP]
  · have e : atP (ls.set k x) j = atP ls j := by simp [atP, List.getElem?_set_ne (Ne.symm h)]
    rw [e, if_neg h]
    simp [set6, h]
theorem atP_set {ls : List PLn} {k j : Nat} {x : PLn} (hk : k < ls.length) : atP (ls.set k x) j = if j = k then x else atP ls j := by
  by_cases h : j = k
  · subst h; simp [atP, hk]
  · rw [if_neg h]; simp [atP, List.getElem?_set_ne (Ne.symm h)]
/-- all that a queue has lies behind B -/
structure QNew (B : Nat) (vl vm : Value) (Q : Qu) (V : Nat → Value) : Prop where
  l : ∀ b, vl.ownBlock = some b → B ≤ b
  m : ∀ b, vm.ownBlock = some b → B ≤ b
  c : ∀ j, j < Q.ls.length → (atP Q.ls j).cl.length ≠ 0 → ∀ b, (V j).ownBlock = some b → B ≤ b
theorem QIs.setO {w : World} {vl vm : Value} {Q : Qu} {V : Nat → Value} {B b i : Nat} {u : Value} (h : QIs w vl vm Q V) (hn : QNew B vl vm Q V) (hb : b < B) : QIs (w.setCell ⟨b, i, none⟩ u) vl vm Q V :=
  ⟨h.l.setO fun e => by have := hn.l _ e; omega, fun j hj => (h.c j hj).setO fun h0 e => by have := hn.c j hj h0 _ e; omega, h.m.setO fun e => by have := hn.m _ e; omega⟩
theorem qnew0 (B : Nat) : QNew B (.slice none 0 0) (.slice none 0 0) qu0 (fun _ => .slice none 0 0) := ⟨fun b e => (by cases e), fun b e => (by cases e), fun j hj => absurd hj (by simp [qu0])⟩
theorem QNew.mono {B B' : Nat} {vl vm : Value} {Q : Qu} {V : Nat → Value} (h : QNew B vl vm Q V) (hb : B' ≤ B) : QNew B' vl vm Q V :=
  ⟨fun b e => Nat.le_trans hb (h.l b e), fun b e => Nat.le_trans hb (h.m b e), fun j hj h0 b e => Nat.le_trans hb (h.c j hj h0 b e)⟩
set_option maxHeartbeats 4000000 in
theorem with_any (vl vm : Value) (Q : Qu) (V : Nat → Value) (w : World) (k : Nat) (l : PLn) (vc : Value) (hk : k < Q.ls.length) (hlc : l.cl.length ≤ 1000) (hvc : Cl w vc l.cl) (ho : OkQ Q) (hq : QIs w vl vm Q V) : Calls Try.prog 20 #[quV vl vm, .int .i64 (k : Int), laV l vc] w fun e w' =>
    ∃ ul um V', e = .returned (quV ul um) ∧ QIs w' ul um ⟨Q.ls.set k l, Q.ms⟩ V' ∧ Below w.heap.size w w' ∧ QNew w.heap.size ul um ⟨Q.ls.set k l, Q.ms⟩ V' := by
  have HQ : Hid (QIs w vl vm Q V) := hq
  have how := fun W h1 => own_any vl vm Q V W ho h1
  have hcp := fun W h1 => copiedI_any vc l.cl.length (encI l.cl) W hlc h1 (one_encI _)
  have HVC : Hid (Cl w vc l.cl) := hvc
  obtain ⟨la, lc, rfl, _, _, hlr⟩ := hq.l
  obtain ⟨ma, mc, rfl, _, _, hmr⟩ := hq.m
  obtain ⟨ca, cc, rfl, _, _, hcr⟩ := hvc
  have hn := ho.nl
  obtain ⟨k1, k2, k3, b2, s2⟩ := alloc3 w [.slice la Q.ls.length lc, .slice ma Q.ms.length mc] 30 [.int .i64 l.cr, .bool l.tw, .int .i64 l.lf, .slice ca l.cl.length cc, .int .i64 l.nx, .int .i64 l.ep] 57 [.slice none 0 0, .slice none 0 0] 30
  have K1 : Hid (Blk _ _ _ _) := k1
  have K2 : Hid (Blk _ _ _ _) := k2
  have K3 : Hid (Blk _ _ _ _) := k3
  have B2 : Hid (Below _ _ _) := b2
  have S2 : Hid (_ = _) := s2
  clear hlr hmr hcr hq ho k1 k2 k3 b2 s2
  go_enter Try.func20, Try.ntmps20
  go_wp2_with fail
  generalize ((w.alloc (.cells #[.slice la Q.ls.length lc, .slice ma Q.ms.length mc] 30)).alloc (.cells #[.int .i64 l.cr, .bool l.tw, .int .i64 l.lf, .slice ca l.cl.length cc, .int .i64 l.nx, .int .i64 l.ep] 57)).alloc (.cells #[.slice none 0 0, .slice none 0 0] 30) = w2 at *
  refine (how _ (HQ.out.below B2.out)).mono ?_
  rintro e w3 ⟨g, h, V', rfl, hrw, hcls, hoff, hrm, hge, hgh, hb3⟩
  have K1b : Hid (Blk _ _ _ _) := K1.out.below hb3
  have K2b : Hid (Blk _ _ _ _) := K2.out.below hb3
  have K3b : Hid (Blk _ _ _ _) := K3.out.below hb3
  obtain ⟨p0, p1⟩ := K1b.out.bx.two
  have p2 := K1b.out.fz
  obtain ⟨r0, r1, r2, r3, r4, r5⟩ := K2b.out.bx.six
  have r6 := K2b.out.fz
  have HRW : Hid (Rw _ _ _ _ _ _) := hrw
  have HCL : Hid (Cls _ _ _) := hcls
  have HOF : Hid (Off _ _ _) := hoff
  have HRM : Hid (Rw _ _ _ _ _ _) := hrm
  have HGE : Hid (w.heap.size + 1 + 1 < g) := by show _ < _; have := S2.out; omega
  have HGH : Hid (g < h) := hgh
  have HB3 : Hid (Below w2.heap.size w2 w3) := hb3
  clear hrw hcls hoff hrm hge hgh hb3
  go_wp2_with fail
  have hg1 := HGE.out
  have hg2 := HGH.out
  have K1c : Hid (Blk ((w3.setCell ⟨w.heap.size, 0, none⟩ (.slice (some ⟨g, 0, none⟩) Q.ls.length Q.ls.length)).setCell ⟨w.heap.size, 1, none⟩ (.slice (some ⟨h, 0, none⟩) Q.ms.length Q.ms.length)) w.heap.size 30 [.slice (some ⟨g, 0, none⟩) Q.ls.length Q.ls.length, .slice (some ⟨h, 0, none⟩) Q.ms.length Q.ms.length]) := (K1b.out.set 0 _).set 1 _
  have K2c : Hid (Blk ((w3.setCell ⟨w.heap.size, 0, none⟩ (.slice (some ⟨g, 0, none⟩) Q.ls.length Q.ls.length)).setCell ⟨w.heap.size, 1, none⟩ (.slice (some ⟨h, 0, none⟩) Q.ms.length Q.ms.length)) (w.heap.size + 1) _ _) := (K2b.out.setO (by omega) _).setO (by omega) _
  have K3c : Hid (Blk ((w3.setCell ⟨w.heap.size, 0, none⟩ (.slice (some ⟨g, 0, none⟩) Q.ls.length Q.ls.length)).setCell ⟨w.heap.size, 1, none⟩ (.slice (some ⟨h, 0, none⟩) Q.ms.length Q.ms.length)) (w.heap.size + 1 + 1) _ _) := (K3b.out.setO (by omega) _).setO (by omega) _
  have HRWc : Hid (Rw ((w3.setCell ⟨w.heap.size, 0, none⟩ (.slice (some ⟨g, 0, none⟩) Q.ls.length Q.ls.length)).setCell ⟨w.heap.size, 1, none⟩ (.slice (some ⟨h, 0, none⟩) Q.ms.length Q.ms.length)) _ _ _ _ _) := (HRW.out.setO (by omega)).setO (by omega)
  have HRMc : Hid (Rw ((w3.setCell ⟨w.heap.size, 0, none⟩ (.slice (some ⟨g, 0, none⟩) Q.ls.length Q.ls.length)).setCell ⟨w.heap.size, 1, none⟩ (.slice (some ⟨h, 0, none⟩) Q.ms.length Q.ms.length)) _ _ _ _ _) := (HRM.out.setO (by omega)).setO (by omega)
  have HCLc : Hid (Cls ((w3.setCell ⟨w.heap.size, 0, none⟩ (.slice (some ⟨g, 0, none⟩) Q.ls.length Q.ls.length)).setCell ⟨w.heap.size, 1, none⟩ (.slice (some ⟨h, 0, none⟩) Q.ms.length Q.ms.length)) _ _) := fun j hj => ((HCL.out j hj).setO fun h0 e => by have := HOF.out j hj h0 _ e; omega).setO fun h0 e => by have := HOF.out j hj h0 _ e; omega
  have HBc : Hid (Below w.heap.size w ((w3.setCell ⟨w.heap.size, 0, none⟩ (.slice (some ⟨g, 0, none⟩) Q.ls.length Q.ls.length)).setCell ⟨w.heap.size, 1, none⟩ (.slice (some ⟨h, 0, none⟩) Q.ms.length Q.ms.length))) := ((Below.onto B2.out HB3.out).setCell (Nat.le_refl _) _).setCell (Nat.le_refl _) _
  have HVc : Hid (Cl ((w3.setCell ⟨w.heap.size, 0, none⟩ (.slice (some ⟨g, 0, none⟩) Q.ls.length Q.ls.length)).setCell ⟨w.heap.size, 1, none⟩ (.slice (some ⟨h, 0, none⟩) Q.ms.length Q.ms.length)) (.slice ca l.cl.length cc) l.cl) := HVC.out.below HBc.out
  clear p0 p1 p2 r0 r1 r2 r3 r4 r5 r6 HRW HRM HCL K1b K2b K3b hg1 hg2 HB3
  generalize (w3.setCell ⟨w.heap.size, 0, none⟩ (.slice (some ⟨g, 0, none⟩) Q.ls.length Q.ls.length)).setCell ⟨w.heap.size, 1, none⟩ (.slice (some ⟨h, 0, none⟩) Q.ms.length Q.ms.length) = w4 at *
  refine (hcp _ HVc.out).mono ?_
  rintro e w5 ⟨rfl, hr5, hb5, hs5⟩
  have HR5 : Hid (Rw w5 w4.heap.size 3 l.cl.length 1 (encI l.cl)) := hr5
  have HB5 : Hid (Below w4.heap.size w4 w5) := hb5
  have HG4 : Hid (h < w4.heap.size) := HRMc.out.lt
  have K1d : Hid (Blk w5 w.heap.size _ _) := K1c.out.below hb5
  have K2d : Hid (Blk w5 (w.heap.size + 1) _ _) := K2c.out.below hb5
  have K3d : Hid (Blk w5 (w.heap.size + 1 + 1) _ _) := K3c.out.below hb5
  have HRWd : Hid (Rw w5 g _ _ _ _) := HRWc.out.below hb5
  have HRMd : Hid (Rw w5 h _ _ _ _) := HRMc.out.below hb5
  have HCLd : Hid (Cls w5 V' Q.ls) := HCLc.out.below hb5
  have hgl := HRWd.out.lt
  have hg1 := HGE.out
  obtain ⟨p0, p1⟩ := K1d.out.bx.two
  obtain ⟨r0, r1, r2, r3, r4, r5⟩ := K2d.out.bx.six
  have r6 := K2d.out.fz
  obtain ⟨t0, t1⟩ := K3d.out.bx.two
  have t2 := K3d.out.fz
  have y0 : w5.cell? ⟨g, k * 6, none⟩ = _ := HRWd.out.cell (f := 0) hk (by omega)
  have y1 := HRWd.out.cell (f := 1) hk (by omega)
  have y2 := HRWd.out.cell (f := 2) hk (by omega)
  have y3 := HRWd.out.cell (f := 3) hk (by omega)
  have y4 := HRWd.out.cell (f := 4) hk (by omega)
  have y5 := HRWd.out.cell (f := 5) hk (by omega)
  have y6 := HRWd.out.fz
  have n1 : ¬ g = w.heap.size := by omega
  have n2 : ¬ g = w.heap.size + 1 := by omega
  have n3 : ¬ g = w.heap.size + 1 + 1 := by omega
  clear hr5 hb5 hs5 hg1 hgl K1c K2c K3c HRWc HRMc HCLc
  have HL1 : Hid (w.heap.size ≤ w.heap.size + 1) := Nat.le_succ _
  have HL2 : Hid (w.heap.size + 1 < w.heap.size + 1 + 1) := Nat.lt_succ_self _
  generalize w.heap.size + 1 + 1 = B3 at *
  generalize w.heap.size + 1 = Bl at *
  go_wp2_with fail
  refine bodyPost_ret (v := quV (.slice (some ⟨g, 0, none⟩) Q.ls.length Q.ls.length) (.slice (some ⟨h, 0, none⟩) Q.ms.length Q.ms.length)) (by simp [results, Try.results20, go_sem, t0, t1]) rfl ⟨_, _, updV V' k (.slice (some ⟨w4.heap.size, 0, none⟩) l.cl.length l.cl.length), rfl, ⟨?_, ?_, ?_⟩, ?_, ?_⟩
  · rw [show (Q.ls.set k l).length = Q.ls.length from by simp]
    refine Rw.sl (T := 57) (Rw.congr (c := set6 (encLs Q.ls V') k (.int .i64 l.cr) (.bool l.tw) (.int .i64 l.lf) (.slice (some ⟨w4.heap.size, 0, none⟩) l.cl.length l.cl.length) (.int .i64 l.nx) (.int .i64 l.ep)) ?_ fun j _ f hf => set6_ls hk j f hf)
    exact (((HRWd.out.setO n2).set6 hk (by omega) _ _ _ _ _ _).setO n3).setO n3
  · intro j hj
    have hj' : j < Q.ls.length := by simpa using hj
    have e1 := HGE.out
    have e2 := HL2.out
    have e3 := HGH.out
    have e4 := HG4.out
    show Cl _ (updV V' k _ j) (atP (Q.ls.set k l) j).cl
    rw [atP_set hk, updV]
    by_cases e : j = k
    · rw [if_pos e, if_pos e]
      refine Cl.same (w := w5) HR5.out.sl fun h0 b hb => ?_
      have hb : w4.heap.size = b := by simpa [Value.ownBlock] using hb
      have h1 : b ≠ Bl := by omega
      have h2 : b ≠ g := by omega
      have h3 : b ≠ B3 := by omega
      rw [Below.heap_setCell _ _ _ _ h3, Below.heap_setCell _ _ _ _ h3, Below.heap_setCell _ _ _ _ h2, Below.heap_setCell _ _ _ _ h2, Below.heap_setCell _ _ _ _ h2, Below.heap_setCell _ _ _ _ h2, Below.heap_setCell _ _ _ _ h2, Below.heap_setCell _ _ _ _ h2, Below.heap_setCell _ _ _ _ h1]
    · rw [if_neg e, if_neg e]
      refine Cl.same (w := w5) (HCLd.out j hj') fun h0 b hb => ?_
      have := HOF.out j hj' h0 b hb
      have h1 : b ≠ Bl := by omega
      have h2 : b ≠ g := by omega
      have h3 : b ≠ B3 := by omega
      rw [Below.heap_setCell _ _ _ _ h3, Below.heap_setCell _ _ _ _ h3, Below.heap_setCell _ _ _ _ h2, Below.heap_setCell _ _ _ _ h2, Below.heap_setCell _ _ _ _ h2, Below.heap_setCell _ _ _ _ h2, Below.heap_setCell _ _ _ _ h2, Below.heap_setCell _ _ _ _ h2, Below.heap_setCell _ _ _ _ h1]
  · have h1 := HRMd.out.sl
    have e1 := HGE.out
    have e2 := HL2.out
    have e3 := HGH.out
    refine Sl.same h1 fun b hb => ?_
    have hb : h = b := by simpa [Value.ownBlock] using hb
    have h1 : b ≠ Bl := by omega
    have h2 : b ≠ g := by omega
    have h3 : b ≠ B3 := by omega
    rw [Below.heap_setCell _ _ _ _ h3, Below.heap_setCell _ _ _ _ h3, Below.heap_setCell _ _ _ _ h2, Below.heap_setCell _ _ _ _ h2, Below.heap_setCell _ _ _ _ h2, Below.heap_setCell _ _ _ _ h2, Below.heap_setCell _ _ _ _ h2, Below.heap_setCell _ _ _ _ h2, Below.heap_setCell _ _ _ _ h1]
  · have e1 := HGE.out
    have e2 := HL2.out
    have e3 := HL1.out
    exact ((below_set6 ((Below.onto HBc.out HB5.out).setCell (show w.heap.size ≤ Bl by omega) _) (by omega) _ _ _ _ _ _).setCell (show w.heap.size ≤ B3 by omega) _).setCell (show w.heap.size ≤ B3 by omega) _
  · have e1 := HGE.out
    have e2 := HL2.out
    have e3 := HL1.out
    have e4 := HGH.out
    have e5 := HG4.out
    refine ⟨fun b e => ?_, fun b e => ?_, fun j hj h0 b e => ?_⟩
    · have e : g = b := by simpa [Value.ownBlock] using e
      omega
    · have e : h = b := by simpa [Value.ownBlock] using e
      omega
    · have hj' : j < Q.ls.length := by simpa using hj
      simp only [atP_set hk] at h0
      unfold updV at e
      by_cases ej : j = k
      · rw [if_pos ej] at e
        have e : w4.heap.size = b := by simpa [Value.ownBlock] using e
        omega
      · rw [if_neg ej] at e h0
        have := HOF.out j hj' h0 b e
        omega

end Go.Proofs.Ytkgehbonijpdnaa
