/- The document's Push, Set, Drop. -/
import Derived.Test.YtafcgbahdfaiiaaERefA
namespace Go.Proofs.Ytafcgbahdfaiiaa
open Go.RowKit Go.Sort
set_option maxRecDepth 100000

theorem Rn.new {w w1 W : World} {r : Nat} {rv vD : Value} {D' : List En} {last' : Nat} {Y : Nat → Prop} (hy : ∀ b, Y b → b < w.heap.size ∧ ¬ rhas r rv b) (hw : w.heap.size ≤ w1.heap.size) (s : Srt D') (hown : W.ownsRow w1.heap.size 50 3 vD D'.length (encE D')) (x : Rd (W.setCell ⟨r, 0, none⟩ vD) r vD D' last') (hsz : w1.heap.size ≤ W.heap.size) : Rn (W.setCell ⟨r, 0, none⟩ vD) r D' last' Y := by
  refine ⟨s, vD, x, fun b hb => ⟨by rw [hs_set]; have := (hy b hb).1; omega, fun h => ?_⟩⟩
  rcases h with h | h
  · exact (hy b hb).2 (.inl h)
  · have := (hown.lt b h).1
    have := (hy b hb).1
    omega
theorem Rd.src {w : World} {r : Nat} {rv : Value} {D : List En} {last : Nat} (x : Rd w r rv D last) : Src w rv D.length (encE D) := gsrc_own x.ow
set_option maxHeartbeats 4000000 in
theorem pushR {w : World} {r : Nat} {D : List En} {last : Nat} {Y : Nat → Prop} (a : Rn w r D last Y) (hl : last + 1 ≤ 50000) (hlen : D.length + 1 ≤ 50000) (hnum : ∀ y, y ∈ D → y.n ≤ last) (k m : Int) :
    Calls Try.prog 27 #[ptr r, thV k m] w fun v w' => v = .returned (.int .i64 ((last + 1 : Nat) : Int)) ∧ Rn w' r (D ++ [⟨k, m, last + 1⟩]) (last + 1) Y ∧ But (Els Y) w w' := by
  obtain ⟨s, rv, x, hy⟩ := a
  obtain ⟨w1, hw1⟩ : ∃ w1, w.alloc (.cells #[.int .i8 k, .int .i64 m] 27) = w1 := ⟨_, rfl⟩
  have hb1 : Below w.heap.size w w1 := by rw [← hw1]; exact (Below.refl _ w).alloc (Nat.le_refl _) _
  have k0 : w1.cell? ⟨w.heap.size, 0, none⟩ = some (.int .i8 k) := by rw [← hw1]; exact (blk_new w [.int .i8 k, .int .i64 m] _).cell (i := 0) rfl
  have k1 : w1.cell? ⟨w.heap.size, 1, none⟩ = some (.int .i64 m) := by rw [← hw1]; exact (blk_new w [.int .i8 k, .int .i64 m] _).cell (i := 1) rfl
  have x1 := x.below hb1
  have c1 := x1.bl.cell (i := 1) rfl
  have cf := x1.bl.fz
  have hr := x.bl.lt
  have HX1 : Hid (Rd w1 r rv D last) := x1
  have HB1 : Hid (Below w.heap.size w w1) := hb1
  have HY : Hid (∀ b, Y b → b < w.heap.size ∧ ¬ rhas r rv b) := hy
  have HS : Hid (Srt (D ++ [⟨k, m, last + 1⟩])) := add_srt s fun y hy => by have := hnum y hy; simp only; omega
  clear x x1 hb1 hy s hnum
  generalize hN : w.heap.size = B at *
  unfold thV
  go_enter Try.func27, Try.ntmps27
  go_wp2_with fail
  obtain ⟨w2, hw2⟩ : ∃ w2, w1.setCell ⟨r, 1, none⟩ (.int .i64 ((last : Int) + 1)) = w2 := ⟨_, rfl⟩
  have bl2 : Blk w2 r 32 [rv, .int .i64 ((last + 1 : Nat) : Int)] := by rw [← hw2]; exact HX1.out.bl.set 1 _
  have ow2 : w2.ownsRow 0 50 3 rv D.length (encE D) := by rw [← hw2]; exact own_setO HX1.out.ow HX1.out.ne _
  have d0 : w2.cell? ⟨B, 0, none⟩ = some (.int .i8 k) := by rw [← hw2]; exact (cell_set_ne (.inl (by omega))).trans k0
  have d1 : w2.cell? ⟨B, 1, none⟩ = some (.int .i64 m) := by rw [← hw2]; exact (cell_set_ne (.inl (by omega))).trans k1
  have b2 : But (fun b => b = r) w w2 := by rw [← hw2]; exact (But.of (S := fun b => b = r) (hN ▸ HB1.out)).setCell (p := ⟨r, 1, none⟩) rfl _
  obtain ⟨a0, cap, hv⟩ := eown_form ow2
  have e0 := bl2.cell (i := 0) rfl
  rw [hv] at e0
  rw [hw2]
  clear k0 k1 c1 cf hw1 hw2 HX1
  refine epsh_region (r := r) (N := D.length) (cv := cap) (av := a0) (B := B) (k := k) (m := m) (q := (last : Int) + 1) (xs1 := encE D) rfl rfl (by kernel_rfl) (by kernel_rfl) (by kernel_rfl) rfl rfl rfl rfl rfl rfl rfl rfl rfl rfl rfl rfl rfl rfl rfl rfl rfl rfl rfl rfl rfl rfl rfl rfl rfl rfl rfl rfl rfl rfl rfl rfl rfl rfl rfl rfl rfl rfl rfl rfl rfl rfl rfl e0 (bl2.cell (i := 1) rfl) d0 d1 (fun W hW => (bl2.below hW).fz 0) (by rw [← hv]; exact gsrc_own ow2) (encE_len D) (encE_one D) (by omega) (by kernel_rfl) (by kernel_rfl) (by kernel_rfl) (by kernel_rfl) (by kernel_rfl) (by kernel_rfl) (by kernel_rfl) (by kernel_rfl) (fun _ _ d _ _ h => by cases d <;> exact h) ?_
  intro vA vB vC vD W9 hown9 hb9
  simp only [Act.put, List.setIfInBounds_toArray, List.set_cons_zero, List.set_cons_succ]
  have hlen9 : (D ++ [(⟨k, m, last + 1⟩ : En)]).length = D.length + 1 := by simp
  have hown : W9.ownsRow w2.heap.size 50 3 vD (D ++ [(⟨k, m, last + 1⟩ : En)]).length (encE (D ++ [⟨k, m, last + 1⟩])) := by
    rw [hlen9, encE_app]
    exact hown9
  have hsz2 : w.heap.size ≤ w2.heap.size := b2.size
  have x9 : Rd (W9.setCell ⟨r, 0, none⟩ vD) r vD (D ++ [⟨k, m, last + 1⟩]) (last + 1) := Rd.put (bl2.below hb9) (by omega) hown ⟨by rw [hlen9]; exact hlen, hl⟩
  have hc := x9.bl.cell (i := 1) rfl
  have HR : Hid (Rn (W9.setCell ⟨r, 0, none⟩ vD) r (D ++ [⟨k, m, last + 1⟩]) (last + 1) Y) := Rn.new (by rw [hN]; exact HY.out) hsz2 HS.out hown x9 hb9.size
  have HE : Hid (But (Els Y) w (W9.setCell ⟨r, 0, none⟩ vD)) := by
    refine ((b2.mono fun b hb hy => ?_).trans (But.of hb9)).setCell (p := ⟨r, 0, none⟩) ?_ _
    · exact (HY.out b hy).2 (.inl hb)
    · exact fun hy => (HY.out r hy).2 (.inl rfl)
  clear hown hown9 hb9 x9 bl2 ow2 d0 d1 b2 e0
  obtain ⟨w10, hw10⟩ : ∃ w10, W9.setCell ⟨r, 0, none⟩ vD = w10 := ⟨_, rfl⟩
  rw [hw10] at hc HR HE ⊢
  clear hw10
  rw [show (((last + 1 : Nat)) : Int) = (last : Int) + 1 from rfl] at hc
  go_wp2_with fail
  go_ret
  exact ⟨rfl, HR.out, HE.out⟩

theorem erun_low {o : Oper} {s t g m cap k : Nat} (hop : o.op = .slice 30 (.tmp s) none (some (.tmp t)) none) (hk : k ≤ m) (hm : m ≤ cap) (b : Act) (W : World) (h1 : b.tmps[s]? = some (.slice (some ⟨g, 0, none⟩) m cap)) (h2 : b.tmps[t]? = some (.int .i64 (k : Int))) :
    (execOp b.eval o).run Try.prog W = .ok (.value (.slice (some ⟨g, 0, none⟩) k cap)) W := by
  obtain ⟨d, op, ty, pos, aft, gd⟩ := o
  simp only at hop
  subst hop
  have j1 : (0 : Int) ≤ (k : Int) := by omega
  have j2 : (k : Int) ≤ (cap : Int) := by omega
  go_simp
theorem erun_high {o : Oper} {s t g m cap k : Nat} (hop : o.op = .slice 30 (.tmp s) (some (.tmp t)) none none) (hk : k + 1 ≤ m) (b : Act) (W : World) (h1 : b.tmps[s]? = some (.slice (some ⟨g, 0, none⟩) m cap)) (h2 : b.tmps[t]? = some (.int .i64 ((k : Int) + 1))) :
    (execOp b.eval o).run Try.prog W = .ok (.value (.slice (some ⟨g, if cap = k + 1 then 0 else (k + 1) * 3, none⟩) (m - (k + 1)) (cap - (k + 1)))) W := by
  have e1 : (k : Int) + 1 = ((k + 1 : Nat) : Int) := by omega
  rw [e1] at h2
  generalize k + 1 = n at *
  obtain ⟨d, op, ty, pos, aft, gd⟩ := o
  simp only at hop
  subst hop
  clear e1
  have j1 : (0 : Int) ≤ (n : Int) := by omega
  have j2 : (n : Int) ≤ (m : Int) := by omega
  by_cases e : cap = n
  · rw [if_pos e]
    go_simp
  · rw [if_neg e]
    go_simp
set_option maxHeartbeats 4000000 in
theorem dropR {w : World} {r : Nat} {D : List En} {last : Nat} {Y : Nat → Prop} (a : Rn w r D last Y) {e : En} (he : e ∈ D) :
    Calls Try.prog 30 #[ptr r, .int .i64 (e.n : Int)] w fun v w' => v = .returned (.int .i64 0) ∧ Rn w' r (dropD D e.n) last Y ∧ But (Els Y) w w' := by
  obtain ⟨s, rv, x, hy⟩ := a
  obtain ⟨U, V, rfl⟩ := split_at he
  have cA := rat_in w r rv U V e last x s
  have HS : Hid (Srt (dropD (U ++ e :: V) e.n)) := drop_srt s _
  rw [drop_app s] at HS ⊢
  obtain ⟨g, cap, hv, hc1, hc2⟩ := x.form1 (by rw [List.length_append, List.length_cons]; omega)
  have hlen : (U ++ e :: V).length = U.length + (V.length + 1) := by rw [List.length_append, List.length_cons]
  have c0 := x.bl.cell (i := 0) rfl
  have hsrc := x.src
  have hbd := x.bd.1
  have HX : Hid (Rd w r rv (U ++ e :: V) last) := x
  have HY : Hid (∀ b, Y b → b < w.heap.size ∧ ¬ rhas r rv b) := hy
  have hr := x.bl.lt
  rw [hv] at c0 hsrc
  rw [hlen] at c0 hsrc hc1 hbd
  have hcell : ∀ j y, (encE (U ++ e :: V))[j]? = some y → w.cell? ⟨g, j, none⟩ = some y := fun j y hj => by
    have := HX.out.ow.cells (g := g) (by rw [hv]; rfl) j y hj
    rwa [Go.WideShapes.add_plain, Nat.zero_add] at this
  have henc : encE (U ++ e :: V) = encE U ++ ([.int .i8 e.k, .int .i64 e.m, .int .i64 (e.n : Int)] ++ encE V) := by rw [encE_app]; simp [encE]
  have hsrc1 : Src w (.slice (some ⟨g, 0, none⟩) U.length cap) U.length (encE U) := by
    refine .inr ⟨g, 0, cap, rfl, fun j y hj => ?_⟩
    have hjl := (List.getElem?_eq_some_iff.1 hj).1
    rw [Nat.zero_add]
    refine hcell j y ?_
    rw [henc, List.getElem?_append_left hjl]
    exact hj
  have hsrc2 : Src w (.slice (some ⟨g, if cap = U.length + 1 then 0 else (U.length + 1) * 3, none⟩) (U.length + (V.length + 1) - (U.length + 1)) (cap - (U.length + 1))) (U.length + (V.length + 1) - (U.length + 1)) (encE V) := by
    refine .inr ⟨g, _, _, rfl, fun j y hj => ?_⟩
    have hjl := (List.getElem?_eq_some_iff.1 hj).1
    rw [encE_len] at hjl
    rw [if_neg (by omega)]
    refine hcell _ y ?_
    rw [henc, List.getElem?_append_right (by rw [encE_len]; omega), List.getElem?_append_right (by rw [encE_len]; simp; omega), encE_len, ← hj]
    congr 1
    simp
    omega
  clear x hy s he hcell henc hsrc
  go_enter Try.func30, Try.ntmps30
  go_wp2_with fail
  refine cA.mono ?_
  rintro v w' ⟨rfl, hw'⟩
  subst hw'
  clear cA
  go_wp2_with fail
  refine edrp_region (r := r) (N := U.length + (V.length + 1)) (cv := cap) (av := some ⟨g, 0, none⟩) (k := U.length) (m1 := U.length) (m2 := U.length + (V.length + 1) - (U.length + 1)) (S1 := .slice (some ⟨g, 0, none⟩) U.length cap) (S2 := .slice (some ⟨g, if cap = U.length + 1 then 0 else (U.length + 1) * 3, none⟩) (U.length + (V.length + 1) - (U.length + 1)) (cap - (U.length + 1))) (xs1 := encE U) (xs2 := encE V) rfl rfl (by kernel_rfl) (by kernel_rfl) (by kernel_rfl) rfl rfl rfl rfl rfl rfl rfl rfl rfl rfl rfl rfl rfl rfl rfl rfl rfl rfl rfl rfl rfl rfl rfl rfl rfl rfl rfl rfl rfl rfl rfl rfl rfl rfl rfl rfl rfl rfl rfl rfl rfl rfl rfl rfl (by omega) c0 (fun W hW => (HX.out.bl.below hW).fz 0) (erun_low rfl (by omega) (by omega)) (erun_high rfl (by omega)) hsrc1 (encE_len U) (encE_one U) hsrc2 (by rw [encE_len]; congr 1; omega) (encE_one V) (by omega) (by kernel_rfl) (by kernel_rfl) (by kernel_rfl) (by kernel_rfl) (fun _ _ d _ _ h => by cases d <;> exact h) ?_
  intro vA vB vC W9 hown9 hb9
  simp only [Act.put, List.setIfInBounds_toArray, List.set_cons_zero, List.set_cons_succ]
  have hown : W9.ownsRow w'.heap.size 50 3 vC (U ++ V).length (encE (U ++ V)) := by
    rw [List.length_append, encE_app, show U.length + V.length = U.length + (U.length + (V.length + 1) - (U.length + 1)) by omega]
    exact hown9
  have x9 : Rd (W9.setCell ⟨r, 0, none⟩ vC) r vC (U ++ V) last := Rd.put (HX.out.bl.below hb9) hr hown ⟨by rw [List.length_append]; omega, HX.out.bd.2⟩
  have HR : Hid (Rn (W9.setCell ⟨r, 0, none⟩ vC) r (U ++ V) last Y) := Rn.new HY.out (Nat.le_refl _) HS.out hown x9 hb9.size
  have HE : Hid (But (Els Y) w' (W9.setCell ⟨r, 0, none⟩ vC)) := (But.of hb9).setCell (p := ⟨r, 0, none⟩) (fun hy => (HY.out r hy).2 (.inl rfl)) _
  clear hown hown9 hb9 x9 c0 hsrc1 hsrc2
  obtain ⟨w10, hw10⟩ : ∃ w10, W9.setCell ⟨r, 0, none⟩ vC = w10 := ⟨_, rfl⟩
  rw [hw10] at HR HE ⊢
  clear hw10
  go_wp2_with fail
  all_goals (go_ret; exact ⟨rfl, HR.out, HE.out⟩)
end Go.Proofs.Ytafcgbahdfaiiaa
