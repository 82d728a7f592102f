/- Drop and Pop of the document's lists. -/
import Derived.Test.YtiaacjollcccaaaKRefT
namespace Go.Proofs.Ytiaacjollcccaaa
open Go.RowKit

set_option maxRecDepth 100000 in
set_option maxHeartbeats 4000000 in
theorem rdrop_ok (p b B n m : Nat) (R : Nat → List Nat) (k x : Nat) (hk : k < m) (hx : x < n) (hw : whr R m x = some k) (w : World) (h : Rx w p b B n m R) :
    Calls Try.prog 33 #[.pointer (some ⟨p, 0, none⟩), .int .i64 (x : Int)] w fun e w' => e = .returned (.int .i64 0) ∧ Rx w' p b B n m (upd R k (wo (R k) x)) ∧ But (fun y => y = b) w w' := by
  have h2 := rnode_k p b B n m R (x : Int) w h
  rw [show inR n (x : Int) = true from inR_iff.2 (by omega)] at h2
  have h3 := rat_k p b B n m x R w h
  rw [show atI R m x = (k : Int) by simp [atI, hw]] at h3
  obtain ⟨v, hv0, hown⟩ := h.row k hk
  have c1 := h.c1
  have HR : Hid (Rx w p b B n m R) := h
  have HV : Hid (w.ownsRow B 3 1 v (R k).length (encL (R k))) := hown
  have hlen := h.len k hk
  have i3 : (0 : Int) ≤ (k : Int) := by omega
  have i4 : (k : Int) < (m : Int) := by omega
  have hneg : decide ((k : Int) < 0) = false := by simp
  clear h hown
  go_enter Try.func33, Try.ntmps33
  go_wp2_with fail
  refine h2.mono ?_
  rintro e w1 ⟨rfl, e1⟩
  subst e1
  go_wp2_with fail
  refine h3.mono ?_
  rintro e w1 ⟨rfl, e1⟩
  subst e1
  go_wp2_with fail
  clear h2 h3
  have HS : Below w1.heap.size w1 w1.drew := (Below.refl _ _).drew
  have cells : Hid (∀ W, Below w1.heap.size w1 W → W.cell? ⟨p, 1, none⟩ = some (.slice (some ⟨b, 0, none⟩) m m) ∧ W.cell? ⟨b, k, none⟩ = some v) := fun W hW =>
    ⟨(hW.cell (p := ⟨p, 1, none⟩) (cell_lt c1)).trans c1, (hW.cell (p := ⟨b, k, none⟩) (cell_lt hv0)).trans hv0⟩
  obtain ⟨af, haf⟩ : ∃ af : Act, af = { tmps := #[.pointer (some ⟨p, 0, none⟩), .int .i64 (x : Int), undef, undef, .int .i64 0, .int .i64 (k : Int), .pointer (some ⟨p, 0, none⟩), .int .i64 (x : Int), .bool true, .bool false, .pointer (some ⟨p, 0, none⟩), .int .i64 (x : Int), .int .i64 (k : Int), .int .i64 (k : Int), .bool false, .pointer (some ⟨p, 0, none⟩), .pointer (some ⟨p, 0, none⟩), .pointer (some ⟨p, 1, none⟩), .slice (some ⟨b, 0, none⟩) m m, .int .i64 (k : Int), .pointer (some ⟨p, 0, none⟩), .pointer (some ⟨p, 0, none⟩), .pointer (some ⟨p, 1, none⟩), .slice (some ⟨b, 0, none⟩) m m, .int .i64 (k : Int), .pointer (some ⟨b, k, none⟩), v, .int .i64 (x : Int), undef, undef], defers := [] } := ⟨_, rfl⟩
  have g0 : af.tmps[0]? = some (.pointer (some ⟨p, 0, none⟩)) := by rw [haf]; kernel_rfl
  have g1 : af.tmps[1]? = some (.int .i64 (x : Int)) := by rw [haf]; kernel_rfl
  have g2 : af.tmps[2]? = some (undef) := by rw [haf]; kernel_rfl
  have g3 : af.tmps[3]? = some (undef) := by rw [haf]; kernel_rfl
  have g4 : af.tmps[4]? = some (.int .i64 0) := by rw [haf]; kernel_rfl
  have g5 : af.tmps[5]? = some (.int .i64 (k : Int)) := by rw [haf]; kernel_rfl
  have g6 : af.tmps[6]? = some (.pointer (some ⟨p, 0, none⟩)) := by rw [haf]; kernel_rfl
  have g7 : af.tmps[7]? = some (.int .i64 (x : Int)) := by rw [haf]; kernel_rfl
  have g15 : af.tmps[15]? = some (.pointer (some ⟨p, 0, none⟩)) := by rw [haf]; kernel_rfl
  have g16 : af.tmps[16]? = some (.pointer (some ⟨p, 0, none⟩)) := by rw [haf]; kernel_rfl
  have g17 : af.tmps[17]? = some (.pointer (some ⟨p, 1, none⟩)) := by rw [haf]; kernel_rfl
  have g18 : af.tmps[18]? = some (.slice (some ⟨b, 0, none⟩) m m) := by rw [haf]; kernel_rfl
  have g19 : af.tmps[19]? = some (.int .i64 (k : Int)) := by rw [haf]; kernel_rfl
  have g20 : af.tmps[20]? = some (.pointer (some ⟨p, 0, none⟩)) := by rw [haf]; kernel_rfl
  have g21 : af.tmps[21]? = some (.pointer (some ⟨p, 0, none⟩)) := by rw [haf]; kernel_rfl
  have g22 : af.tmps[22]? = some (.pointer (some ⟨p, 1, none⟩)) := by rw [haf]; kernel_rfl
  have g23 : af.tmps[23]? = some (.slice (some ⟨b, 0, none⟩) m m) := by rw [haf]; kernel_rfl
  have g24 : af.tmps[24]? = some (.int .i64 (k : Int)) := by rw [haf]; kernel_rfl
  have g25 : af.tmps[25]? = some (.pointer (some ⟨b, k, none⟩)) := by rw [haf]; kernel_rfl
  have g26 : af.tmps[26]? = some (v) := by rw [haf]; kernel_rfl
  have g27 : af.tmps[27]? = some (.int .i64 (x : Int)) := by rw [haf]; kernel_rfl
  refine wp_region_last2 (by simp) (fun W => Below w1.heap.size w1 W) (by kernel_rfl) (by kernel_rfl) ?_
  refine takes (idx := [0, 1, 2, 3, 4, 5, 6, 7, 8, 9, 10, 11, 12]) (af := af) (fuel := 2) (by kernel_rfl) (fun _ _ d _ _ h => by cases d <;> exact h) HS _ _ (by kernel_rfl) (by rw [haf]; kernel_rfl) ?_ ?_
  · refine ⟨⟨_, 15, _, rfl, rfl, g15, ?_⟩, ⟨_, 16, _, rfl, rfl, g16, ?_⟩, ⟨_, 17, _, rfl, rfl, g17, ?_⟩, ⟨_, 18, _, rfl, rfl, g18, ?_⟩, ⟨_, 19, _, rfl, rfl, g19, ?_⟩, ⟨_, 20, _, rfl, rfl, g20, ?_⟩, ⟨_, 21, _, rfl, rfl, g21, ?_⟩, ⟨_, 22, _, rfl, rfl, g22, ?_⟩, ⟨_, 23, _, rfl, rfl, g23, ?_⟩, ⟨_, 24, _, rfl, rfl, g24, ?_⟩, ⟨_, 25, _, rfl, rfl, g25, ?_⟩, ⟨_, 26, _, rfl, rfl, g26, ?_⟩, ⟨_, 27, _, rfl, rfl, g27, ?_⟩, trivial⟩
    all_goals (intro W hW; obtain ⟨e1, e2⟩ := cells.out _ hW; clear haf; go_simp)
  have hsz : af.tmps.size = 30 := by rw [haf]; kernel_rfl
  refine tail_call (iA := 13) (dA := 28) (dv := 26) (dx := 27) (fuel := 1) (x := x) (r := R k) (v := v) (w0 := w1) rfl rfl rfl rfl (by kernel_rfl) g26 g27 HV.out hlen HS ?_
  intro vA W hW hD
  obtain ⟨ad, l, c, rfl⟩ := own_form hD
  have hr2 := HR.out.below hW
  obtain ⟨hset, hbut⟩ := HR.out.set hW hk hD (Nat.le_trans (wo_len _ _) hlen)
  refine fin_store (ad := ad) (l := l) (c := c) (iM := 14) (dl := 18) (dk := 19) (dM := 29) (dD := 28) (fuel := 0) (b := b) (m := m) (k := k) rfl (by kernel_rfl) (by kernel_rfl) rfl rfl rfl rfl rfl ?_ ?_ hk ?_ (cells.out W hW).2 (hr2.fz _) (by decide) ?_ hW ?_
  · rw [put_ne (by decide)]; exact g18
  · rw [put_ne (by decide)]; exact g19
  · exact put_at (by rw [hsz]; decide)
  · rw [put_sz, hsz]; decide
  have HF : Hid (Rx (W.setCell ⟨b, k, none⟩ (.slice ad l c)) p b B n m (upd R k (wo (R k) x)) ∧ But (fun y => y = b) w1 (W.setCell ⟨b, k, none⟩ (.slice ad l c))) := ⟨hset, hbut⟩
  generalize W.setCell ⟨b, k, none⟩ (.slice ad l c) = W2 at *
  rw [haf]
  simp only [Act.put, List.setIfInBounds_toArray, List.set_cons_zero, List.set_cons_succ]
  clear haf hD hset hbut hr2 cells g0 g1 g2 g3 g4 g5 g6 g7 g15 g16 g17 g18 g19 g20 g21 g22 g23 g24 g25 g26 g27
  go_wp2_with fail
  go_ret
  exact ⟨rfl, HF.out.1, HF.out.2⟩

set_option maxRecDepth 100000 in
set_option maxHeartbeats 4000000 in
theorem rpop_ok (p b B n m : Nat) (R : Nat → List Nat) (k x : Nat) (l0 : List Nat) (hk : k < m) (hR : R k = x :: l0) (hno : x ∉ l0) (w : World) (h : Rx w p b B n m R) :
    Calls Try.prog 32 #[.pointer (some ⟨p, 0, none⟩), .int .i64 (k : Int)] w fun e w' => e = .returned (.tuple #[.int .i64 (x : Int), .bool true]) ∧ Rx w' p b B n m (upd R k l0) ∧ But (fun y => y = b) w w' := by
  have h1 := ris_k p b B n m R (k : Int) w h
  rw [show inR m (k : Int) = true from inR_iff.2 (by omega)] at h1
  obtain ⟨v, hv0, hown⟩ := h.row k hk
  have c1 := h.c1
  have HR : Hid (Rx w p b B n m R) := h
  have HV : Hid (w.ownsRow B 3 1 v (R k).length (encL (R k))) := hown
  have hlen := h.len k hk
  have i3 : (0 : Int) ≤ (k : Int) := by omega
  have i4 : (k : Int) < (m : Int) := by omega
  have hrow := hown
  rw [hR] at hrow
  obtain ⟨g, cap, rfl⟩ := ownsRow_succ (k := l0.length) hrow
  have hc2 : w.cell? ⟨g, 0, none⟩ = some (.int .i64 (x : Int)) := by
    rw [hrow.cellAt 0 (by simp)]; rfl
  have ewo : wo (R k) x = l0 := by
    rw [hR]; unfold wo
    rw [List.filter_cons_of_neg (by simp)]
    exact List.filter_eq_self.2 (by grind)
  have hne : (((l0.length : Int) + 1) == 0) = false := by simp; omega
  rw [← ewo]
  clear h hown hrow ewo
  go_enter Try.func32, Try.ntmps32
  go_wp2_with fail
  refine h1.mono ?_
  rintro e w1 ⟨rfl, e1⟩
  subst e1
  go_wp2_with fail
  clear h1
  have HS : Below w1.heap.size w1 w1.drew := (Below.refl _ _).drew
  have cells : Hid (∀ W, Below w1.heap.size w1 W → W.cell? ⟨p, 1, none⟩ = some (.slice (some ⟨b, 0, none⟩) m m) ∧ W.cell? ⟨b, k, none⟩ = some (.slice (some ⟨g, 0, none⟩) (l0.length + 1) cap)) := fun W hW =>
    ⟨(hW.cell (p := ⟨p, 1, none⟩) (cell_lt c1)).trans c1, (hW.cell (p := ⟨b, k, none⟩) (cell_lt hv0)).trans hv0⟩
  obtain ⟨af, haf⟩ : ∃ af : Act, af = { tmps := #[.pointer (some ⟨p, 0, none⟩), .int .i64 (k : Int), undef, undef, .int .i64 0, .bool false, .int .i64 (x : Int), .pointer (some ⟨p, 0, none⟩), .int .i64 (k : Int), .bool true, .bool false, .bool false, .pointer (some ⟨p, 0, none⟩), .pointer (some ⟨p, 0, none⟩), .pointer (some ⟨p, 1, none⟩), .slice (some ⟨b, 0, none⟩) m m, .int .i64 (k : Int), .pointer (some ⟨b, k, none⟩), .slice (some ⟨g, 0, none⟩) (l0.length + 1) cap, .int .i64 ((l0.length : Int) + 1), .bool false, .bool false, .pointer (some ⟨p, 0, none⟩), .pointer (some ⟨p, 0, none⟩), .pointer (some ⟨p, 1, none⟩), .slice (some ⟨b, 0, none⟩) m m, .int .i64 (k : Int), .pointer (some ⟨b, k, none⟩), .slice (some ⟨g, 0, none⟩) (l0.length + 1) cap, .pointer (some ⟨g, 0, none⟩), .int .i64 (x : Int), .pointer (some ⟨p, 0, none⟩), .pointer (some ⟨p, 0, none⟩), .pointer (some ⟨p, 1, none⟩), .slice (some ⟨b, 0, none⟩) m m, .int .i64 (k : Int), .pointer (some ⟨p, 0, none⟩), .pointer (some ⟨p, 0, none⟩), .pointer (some ⟨p, 1, none⟩), .slice (some ⟨b, 0, none⟩) m m, .int .i64 (k : Int), .pointer (some ⟨b, k, none⟩), .slice (some ⟨g, 0, none⟩) (l0.length + 1) cap, .int .i64 (x : Int), undef, undef, undef], defers := [] } := ⟨_, rfl⟩
  have g0 : af.tmps[0]? = some (.pointer (some ⟨p, 0, none⟩)) := by rw [haf]; kernel_rfl
  have g1 : af.tmps[1]? = some (.int .i64 (k : Int)) := by rw [haf]; kernel_rfl
  have g2 : af.tmps[2]? = some (undef) := by rw [haf]; kernel_rfl
  have g3 : af.tmps[3]? = some (undef) := by rw [haf]; kernel_rfl
  have g4 : af.tmps[4]? = some (.int .i64 0) := by rw [haf]; kernel_rfl
  have g5 : af.tmps[5]? = some (.bool false) := by rw [haf]; kernel_rfl
  have g6 : af.tmps[6]? = some (.int .i64 (x : Int)) := by rw [haf]; kernel_rfl
  have g7 : af.tmps[7]? = some (.pointer (some ⟨p, 0, none⟩)) := by rw [haf]; kernel_rfl
  have g31 : af.tmps[31]? = some (.pointer (some ⟨p, 0, none⟩)) := by rw [haf]; kernel_rfl
  have g32 : af.tmps[32]? = some (.pointer (some ⟨p, 0, none⟩)) := by rw [haf]; kernel_rfl
  have g33 : af.tmps[33]? = some (.pointer (some ⟨p, 1, none⟩)) := by rw [haf]; kernel_rfl
  have g34 : af.tmps[34]? = some (.slice (some ⟨b, 0, none⟩) m m) := by rw [haf]; kernel_rfl
  have g35 : af.tmps[35]? = some (.int .i64 (k : Int)) := by rw [haf]; kernel_rfl
  have g36 : af.tmps[36]? = some (.pointer (some ⟨p, 0, none⟩)) := by rw [haf]; kernel_rfl
  have g37 : af.tmps[37]? = some (.pointer (some ⟨p, 0, none⟩)) := by rw [haf]; kernel_rfl
  have g38 : af.tmps[38]? = some (.pointer (some ⟨p, 1, none⟩)) := by rw [haf]; kernel_rfl
  have g39 : af.tmps[39]? = some (.slice (some ⟨b, 0, none⟩) m m) := by rw [haf]; kernel_rfl
  have g40 : af.tmps[40]? = some (.int .i64 (k : Int)) := by rw [haf]; kernel_rfl
  have g41 : af.tmps[41]? = some (.pointer (some ⟨b, k, none⟩)) := by rw [haf]; kernel_rfl
  have g42 : af.tmps[42]? = some (.slice (some ⟨g, 0, none⟩) (l0.length + 1) cap) := by rw [haf]; kernel_rfl
  have g43 : af.tmps[43]? = some (.int .i64 (x : Int)) := by rw [haf]; kernel_rfl
  refine wp_region_last2 (by simp) (fun W => Below w1.heap.size w1 W) (by kernel_rfl) (by kernel_rfl) ?_
  refine takes (idx := [0, 1, 2, 3, 4, 5, 6, 7, 8, 9, 10, 11, 12]) (af := af) (fuel := 2) (by kernel_rfl) (fun _ _ d _ _ h => by cases d <;> exact h) HS _ _ (by kernel_rfl) (by rw [haf]; kernel_rfl) ?_ ?_
  · refine ⟨⟨_, 31, _, rfl, rfl, g31, ?_⟩, ⟨_, 32, _, rfl, rfl, g32, ?_⟩, ⟨_, 33, _, rfl, rfl, g33, ?_⟩, ⟨_, 34, _, rfl, rfl, g34, ?_⟩, ⟨_, 35, _, rfl, rfl, g35, ?_⟩, ⟨_, 36, _, rfl, rfl, g36, ?_⟩, ⟨_, 37, _, rfl, rfl, g37, ?_⟩, ⟨_, 38, _, rfl, rfl, g38, ?_⟩, ⟨_, 39, _, rfl, rfl, g39, ?_⟩, ⟨_, 40, _, rfl, rfl, g40, ?_⟩, ⟨_, 41, _, rfl, rfl, g41, ?_⟩, ⟨_, 42, _, rfl, rfl, g42, ?_⟩, ⟨_, 43, _, rfl, rfl, g43, ?_⟩, trivial⟩
    all_goals (intro W hW; obtain ⟨e1, e2⟩ := cells.out _ hW; clear haf; go_simp)
  have hsz : af.tmps.size = 47 := by rw [haf]; kernel_rfl
  refine tail_call (iA := 13) (dA := 44) (dv := 42) (dx := 43) (fuel := 1) (x := x) (r := R k) (v := .slice (some ⟨g, 0, none⟩) (l0.length + 1) cap) (w0 := w1) rfl rfl rfl rfl (by kernel_rfl) g42 g43 HV.out hlen HS ?_
  intro vA W hW hD
  obtain ⟨ad, l, c, rfl⟩ := own_form hD
  have hr2 := HR.out.below hW
  obtain ⟨hset, hbut⟩ := HR.out.set hW hk hD (Nat.le_trans (wo_len _ _) hlen)
  refine fin_store (ad := ad) (l := l) (c := c) (iM := 14) (dl := 34) (dk := 35) (dM := 45) (dD := 44) (fuel := 0) (b := b) (m := m) (k := k) rfl (by kernel_rfl) (by kernel_rfl) rfl rfl rfl rfl rfl ?_ ?_ hk ?_ (cells.out W hW).2 (hr2.fz _) (by decide) ?_ hW ?_
  · rw [put_ne (by decide)]; exact g34
  · rw [put_ne (by decide)]; exact g35
  · exact put_at (by rw [hsz]; decide)
  · rw [put_sz, hsz]; decide
  have HF : Hid (Rx (W.setCell ⟨b, k, none⟩ (.slice ad l c)) p b B n m (upd R k (wo (R k) x)) ∧ But (fun y => y = b) w1 (W.setCell ⟨b, k, none⟩ (.slice ad l c))) := ⟨hset, hbut⟩
  generalize W.setCell ⟨b, k, none⟩ (.slice ad l c) = W2 at *
  rw [haf]
  simp only [Act.put, List.setIfInBounds_toArray, List.set_cons_zero, List.set_cons_succ]
  clear haf hD hset hbut hr2 cells g0 g1 g2 g3 g4 g5 g6 g7 g31 g32 g33 g34 g35 g36 g37 g38 g39 g40 g41 g42 g43
  go_wp2_with fail
  go_ret2
  exact ⟨rfl, HF.out.1, HF.out.2⟩

end Go.Proofs.Ytiaacjollcccaaa
