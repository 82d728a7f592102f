/- Move of the document's lists. -/
import Derived.Test.YtiaacjollcccaaaKRefT
namespace Go.Proofs.Ytiaacjollcccaaa
open Go.RowKit

set_option maxRecDepth 100000 in
set_option maxHeartbeats 4000000 in
theorem rmove_out (p b B n m : Nat) (R : Nat → List Nat) (k x : Nat) (hk : k < m) (hx : x < n) (hw : whr R m x = none) (hlt : (R k).length < 65536) (w : World) (h : Rx w p b B n m R) :
    Calls Try.prog 34 #[.pointer (some ⟨p, 0, none⟩), .int .i64 (k : Int), .int .i64 (x : Int)] w fun e w' => e = .returned (.int .i64 0) ∧ Rx w' p b B n m (upd R k (R k ++ [x])) ∧ But (fun y => y = b) w w' := by
  have h1 := ris_k p b B n m R (k : Int) w h
  rw [show inR m (k : Int) = true from inR_iff.2 (by omega)] at h1
  have h2 := rnode_k p b B n m R (x : Int) w h
  rw [show inR n (x : Int) = true from inR_iff.2 (by omega)] at h2
  have h3 := rat_k p b B n m x R w h
  rw [show atI R m x = -1 by simp [atI, hw]] at h3
  obtain ⟨v, hv0, hown⟩ := h.row k hk
  have c1 := h.c1
  have HR : Hid (Rx w p b B n m R) := h
  have HV : Hid (w.ownsRow B 3 1 v (R k).length (encL (R k))) := hown
  have hlen := h.len k hk
  have i3 : (0 : Int) ≤ (k : Int) := by omega
  have i4 : (k : Int) < (m : Int) := by omega
  clear h hown
  go_enter Try.func34, Try.ntmps34
  go_wp2_with fail
  refine h1.mono ?_
  rintro e w1 ⟨rfl, e1⟩
  subst e1
  go_wp2_with fail
  refine h2.mono ?_
  rintro e w1 ⟨rfl, e1⟩
  subst e1
  go_wp2_with fail
  refine h3.mono ?_
  rintro e w1 ⟨rfl, e1⟩
  subst e1
  go_wp2_with fail
  clear h1 h2 h3
  have HS : Below w1.heap.size w1 w1.drew := (Below.refl _ _).drew
  have cells : Hid (∀ W, Below w1.heap.size w1 W → W.cell? ⟨p, 1, none⟩ = some (.slice (some ⟨b, 0, none⟩) m m) ∧ W.cell? ⟨b, k, none⟩ = some v) := fun W hW =>
    ⟨(hW.cell (p := ⟨p, 1, none⟩) (cell_lt c1)).trans c1, (hW.cell (p := ⟨b, k, none⟩) (cell_lt hv0)).trans hv0⟩
  obtain ⟨af, haf⟩ : ∃ af : Act, af = { tmps := #[.pointer (some ⟨p, 0, none⟩), .int .i64 (k : Int), .int .i64 (x : Int), undef, undef, undef, .int .i64 0, .int .i64 (-1), .pointer (some ⟨p, 0, none⟩), .int .i64 (k : Int), .bool true, .bool false, .bool false, .pointer (some ⟨p, 0, none⟩), .int .i64 (x : Int), .bool true, .bool false, .bool false, .pointer (some ⟨p, 0, none⟩), .int .i64 (x : Int), .int .i64 (-1), .int .i64 (-1), .bool false, undef, undef, undef, undef, undef, undef, undef, undef, undef, undef, undef, undef, undef, undef, undef, .pointer (some ⟨p, 0, none⟩), .pointer (some ⟨p, 0, none⟩), .pointer (some ⟨p, 1, none⟩), .slice (some ⟨b, 0, none⟩) m m, .int .i64 (k : Int), undef, .pointer (some ⟨p, 0, none⟩), .pointer (some ⟨p, 0, none⟩), .pointer (some ⟨p, 1, none⟩), .slice (some ⟨b, 0, none⟩) m m, .int .i64 (k : Int), .pointer (some ⟨b, k, none⟩), v, undef, .int .i64 (x : Int), undef, undef, undef], defers := [] } := ⟨_, rfl⟩
  have g0 : af.tmps[0]? = some (.pointer (some ⟨p, 0, none⟩)) := by rw [haf]; kernel_rfl
  have g1 : af.tmps[1]? = some (.int .i64 (k : Int)) := by rw [haf]; kernel_rfl
  have g2 : af.tmps[2]? = some (.int .i64 (x : Int)) := by rw [haf]; kernel_rfl
  have g3 : af.tmps[3]? = some (undef) := by rw [haf]; kernel_rfl
  have g4 : af.tmps[4]? = some (undef) := by rw [haf]; kernel_rfl
  have g5 : af.tmps[5]? = some (undef) := by rw [haf]; kernel_rfl
  have g6 : af.tmps[6]? = some (.int .i64 0) := by rw [haf]; kernel_rfl
  have g7 : af.tmps[7]? = some (.int .i64 (-1)) := by rw [haf]; kernel_rfl
  have g38 : af.tmps[38]? = some (.pointer (some ⟨p, 0, none⟩)) := by rw [haf]; kernel_rfl
  have g39 : af.tmps[39]? = some (.pointer (some ⟨p, 0, none⟩)) := by rw [haf]; kernel_rfl
  have g40 : af.tmps[40]? = some (.pointer (some ⟨p, 1, none⟩)) := by rw [haf]; kernel_rfl
  have g41 : af.tmps[41]? = some (.slice (some ⟨b, 0, none⟩) m m) := by rw [haf]; kernel_rfl
  have g42 : af.tmps[42]? = some (.int .i64 (k : Int)) := by rw [haf]; kernel_rfl
  have g44 : af.tmps[44]? = some (.pointer (some ⟨p, 0, none⟩)) := by rw [haf]; kernel_rfl
  have g45 : af.tmps[45]? = some (.pointer (some ⟨p, 0, none⟩)) := by rw [haf]; kernel_rfl
  have g46 : af.tmps[46]? = some (.pointer (some ⟨p, 1, none⟩)) := by rw [haf]; kernel_rfl
  have g47 : af.tmps[47]? = some (.slice (some ⟨b, 0, none⟩) m m) := by rw [haf]; kernel_rfl
  have g48 : af.tmps[48]? = some (.int .i64 (k : Int)) := by rw [haf]; kernel_rfl
  have g49 : af.tmps[49]? = some (.pointer (some ⟨b, k, none⟩)) := by rw [haf]; kernel_rfl
  have g50 : af.tmps[50]? = some (v) := by rw [haf]; kernel_rfl
  have g52 : af.tmps[52]? = some (.int .i64 (x : Int)) := by rw [haf]; kernel_rfl
  refine wp_region_last2 (by simp) (fun W => Below w1.heap.size w1 W) (by kernel_rfl) (by kernel_rfl) ?_
  refine takes (idx := [0, 1, 2, 3, 4, 6, 7, 8, 9, 10, 11, 12, 14]) (af := af) (fuel := 5) (by kernel_rfl) (fun _ _ d _ _ h => by cases d <;> exact h) HS _ _ (by kernel_rfl) (by rw [haf]; kernel_rfl) ?_ ?_
  · refine ⟨⟨_, 38, _, rfl, rfl, g38, ?_⟩, ⟨_, 39, _, rfl, rfl, g39, ?_⟩, ⟨_, 40, _, rfl, rfl, g40, ?_⟩, ⟨_, 41, _, rfl, rfl, g41, ?_⟩, ⟨_, 42, _, rfl, rfl, g42, ?_⟩, ⟨_, 44, _, rfl, rfl, g44, ?_⟩, ⟨_, 45, _, rfl, rfl, g45, ?_⟩, ⟨_, 46, _, rfl, rfl, g46, ?_⟩, ⟨_, 47, _, rfl, rfl, g47, ?_⟩, ⟨_, 48, _, rfl, rfl, g48, ?_⟩, ⟨_, 49, _, rfl, rfl, g49, ?_⟩, ⟨_, 50, _, rfl, rfl, g50, ?_⟩, ⟨_, 52, _, rfl, rfl, g52, ?_⟩, trivial⟩
    all_goals (intro W hW; obtain ⟨e1, e2⟩ := cells.out _ hW; clear haf; go_simp)
  have hsz : af.tmps.size = 56 := by rw [haf]; kernel_rfl
  refine tail_snoc (iA := 5) (iB := 13) (iC := 15) (iD := 16) (dA := 43) (dB := 51) (dC := 53) (dD := 54) (dv := 50) (dx := 52) (fuel := 1) (x := x) (r := R k) (v := v) (w0 := w1) rfl rfl rfl rfl rfl rfl rfl rfl rfl rfl rfl rfl rfl rfl rfl rfl
    (by kernel_rfl) (by kernel_rfl) (by kernel_rfl) (by kernel_rfl) (by kernel_rfl) (by kernel_rfl) (by kernel_rfl) (by decide) (by decide) (by rw [hsz]; decide) g50 g52 HV.out (by omega) HS ?_
  intro vA vB vC vD W hW hD
  obtain ⟨ad, l, c, rfl⟩ := own_form hD
  have hr2 := HR.out.below hW
  obtain ⟨hset, hbut⟩ := HR.out.set hW hk hD (by simp; omega)
  refine fin_store (ad := ad) (l := l) (c := c) (iM := 17) (dl := 41) (dk := 42) (dM := 55) (dD := 54) (fuel := 0) (b := b) (m := m) (k := k) rfl (by kernel_rfl) (by kernel_rfl) rfl rfl rfl rfl rfl ?_ ?_ hk ?_ (cells.out W hW).2 (hr2.fz _) (by decide) ?_ hW ?_
  · rw [put_ne (by decide), put_ne (by decide), put_ne (by decide), put_ne (by decide)]; exact g41
  · rw [put_ne (by decide), put_ne (by decide), put_ne (by decide), put_ne (by decide)]; exact g42
  · exact put_at (by rw [put_sz, put_sz, put_sz, hsz]; decide)
  · rw [put_sz, put_sz, put_sz, put_sz, hsz]; decide
  have HF : Hid (Rx (W.setCell ⟨b, k, none⟩ (.slice ad l c)) p b B n m (upd R k (R k ++ [x])) ∧ But (fun y => y = b) w1 (W.setCell ⟨b, k, none⟩ (.slice ad l c))) := ⟨hset, hbut⟩
  generalize W.setCell ⟨b, k, none⟩ (.slice ad l c) = W2 at *
  rw [haf]
  simp only [Act.put, List.setIfInBounds_toArray, List.set_cons_zero, List.set_cons_succ]
  clear haf hD hset hbut hr2 cells g0 g1 g2 g3 g4 g5 g6 g7 g38 g39 g40 g41 g42 g44 g45 g46 g47 g48 g49 g50 g52
  go_wp2_with fail
  go_ret
  exact ⟨rfl, HF.out.1, HF.out.2⟩

set_option maxRecDepth 100000 in
set_option maxHeartbeats 4000000 in
theorem rmove_in (p b B n m : Nat) (R : Nat → List Nat) (k x j : Nat) (R1 : Nat → List Nat) (hR1 : R1 = upd R j (wo (R j) x)) (hk : k < m) (hx : x < n) (hj : j < m) (hw : whr R m x = some j) (hlt : (R1 k).length < 65536) (w : World) (h : Rx w p b B n m R) :
    Calls Try.prog 34 #[.pointer (some ⟨p, 0, none⟩), .int .i64 (k : Int), .int .i64 (x : Int)] w fun e w' => e = .returned (.int .i64 0) ∧ Rx w' p b B n m (upd R1 k (R1 k ++ [x])) ∧ But (fun y => y = b) w w' := by
  have h1 := ris_k p b B n m R (k : Int) w h
  rw [show inR m (k : Int) = true from inR_iff.2 (by omega)] at h1
  have h2 := rnode_k p b B n m R (x : Int) w h
  rw [show inR n (x : Int) = true from inR_iff.2 (by omega)] at h2
  have h3 := rat_k p b B n m x R w h
  rw [show atI R m x = (j : Int) by simp [atI, hw]] at h3
  obtain ⟨v, hv0, hown⟩ := h.row j hj
  have c1 := h.c1
  have HR : Hid (Rx w p b B n m R) := h
  have HV : Hid (w.ownsRow B 3 1 v (R j).length (encL (R j))) := hown
  have hlen := h.len j hj
  have i3 : (0 : Int) ≤ (j : Int) := by omega
  have i4 : (j : Int) < (m : Int) := by omega
  have hpos : decide ((0 : Int) ≤ (j : Int)) = true := by simp
  have i5 : (0 : Int) ≤ (k : Int) := by omega
  have i6 : (k : Int) < (m : Int) := by omega
  have HE1 : Hid (R1 = upd R j (wo (R j) x)) := hR1
  clear h hown hR1
  go_enter Try.func34, Try.ntmps34
  go_wp2_with fail
  refine h1.mono ?_
  rintro e w1 ⟨rfl, e1⟩
  subst e1
  go_wp2_with fail
  refine h2.mono ?_
  rintro e w1 ⟨rfl, e1⟩
  subst e1
  go_wp2_with fail
  refine h3.mono ?_
  rintro e w1 ⟨rfl, e1⟩
  subst e1
  go_wp2_with fail
  clear h1 h2 h3
  have HS : Below w1.heap.size w1 w1.drew := (Below.refl _ _).drew
  have cells : Hid (∀ W, Below w1.heap.size w1 W → W.cell? ⟨p, 1, none⟩ = some (.slice (some ⟨b, 0, none⟩) m m) ∧ W.cell? ⟨b, j, none⟩ = some v) := fun W hW =>
    ⟨(hW.cell (p := ⟨p, 1, none⟩) (cell_lt c1)).trans c1, (hW.cell (p := ⟨b, j, none⟩) (cell_lt hv0)).trans hv0⟩
  obtain ⟨af, haf⟩ : ∃ af : Act, af = { tmps := #[.pointer (some ⟨p, 0, none⟩), .int .i64 (k : Int), .int .i64 (x : Int), undef, undef, undef, .int .i64 0, .int .i64 (j : Int), .pointer (some ⟨p, 0, none⟩), .int .i64 (k : Int), .bool true, .bool false, .bool false, .pointer (some ⟨p, 0, none⟩), .int .i64 (x : Int), .bool true, .bool false, .bool false, .pointer (some ⟨p, 0, none⟩), .int .i64 (x : Int), .int .i64 (j : Int), .int .i64 (j : Int), .bool true, .pointer (some ⟨p, 0, none⟩), .pointer (some ⟨p, 0, none⟩), .pointer (some ⟨p, 1, none⟩), .slice (some ⟨b, 0, none⟩) m m, .int .i64 (j : Int), .pointer (some ⟨p, 0, none⟩), .pointer (some ⟨p, 0, none⟩), .pointer (some ⟨p, 1, none⟩), .slice (some ⟨b, 0, none⟩) m m, .int .i64 (j : Int), .pointer (some ⟨b, j, none⟩), v, .int .i64 (x : Int), undef, undef, undef, undef, undef, undef, undef, undef, undef, undef, undef, undef, undef, undef, undef, undef, undef, undef, undef, undef], defers := [] } := ⟨_, rfl⟩
  have g0 : af.tmps[0]? = some (.pointer (some ⟨p, 0, none⟩)) := by rw [haf]; kernel_rfl
  have g1 : af.tmps[1]? = some (.int .i64 (k : Int)) := by rw [haf]; kernel_rfl
  have g2 : af.tmps[2]? = some (.int .i64 (x : Int)) := by rw [haf]; kernel_rfl
  have g3 : af.tmps[3]? = some (undef) := by rw [haf]; kernel_rfl
  have g4 : af.tmps[4]? = some (undef) := by rw [haf]; kernel_rfl
  have g5 : af.tmps[5]? = some (undef) := by rw [haf]; kernel_rfl
  have g6 : af.tmps[6]? = some (.int .i64 0) := by rw [haf]; kernel_rfl
  have g7 : af.tmps[7]? = some (.int .i64 (j : Int)) := by rw [haf]; kernel_rfl
  have g23 : af.tmps[23]? = some (.pointer (some ⟨p, 0, none⟩)) := by rw [haf]; kernel_rfl
  have g24 : af.tmps[24]? = some (.pointer (some ⟨p, 0, none⟩)) := by rw [haf]; kernel_rfl
  have g25 : af.tmps[25]? = some (.pointer (some ⟨p, 1, none⟩)) := by rw [haf]; kernel_rfl
  have g26 : af.tmps[26]? = some (.slice (some ⟨b, 0, none⟩) m m) := by rw [haf]; kernel_rfl
  have g27 : af.tmps[27]? = some (.int .i64 (j : Int)) := by rw [haf]; kernel_rfl
  have g28 : af.tmps[28]? = some (.pointer (some ⟨p, 0, none⟩)) := by rw [haf]; kernel_rfl
  have g29 : af.tmps[29]? = some (.pointer (some ⟨p, 0, none⟩)) := by rw [haf]; kernel_rfl
  have g30 : af.tmps[30]? = some (.pointer (some ⟨p, 1, none⟩)) := by rw [haf]; kernel_rfl
  have g31 : af.tmps[31]? = some (.slice (some ⟨b, 0, none⟩) m m) := by rw [haf]; kernel_rfl
  have g32 : af.tmps[32]? = some (.int .i64 (j : Int)) := by rw [haf]; kernel_rfl
  have g33 : af.tmps[33]? = some (.pointer (some ⟨b, j, none⟩)) := by rw [haf]; kernel_rfl
  have g34 : af.tmps[34]? = some (v) := by rw [haf]; kernel_rfl
  have g35 : af.tmps[35]? = some (.int .i64 (x : Int)) := by rw [haf]; kernel_rfl
  refine wp_region_last2 (by simp) (fun W => Below w1.heap.size w1 W) (by kernel_rfl) (by kernel_rfl) ?_
  refine takes (idx := [0, 1, 2, 3, 4, 5, 6, 7, 8, 9, 10, 11, 12]) (af := af) (fuel := 2) (by kernel_rfl) (fun _ _ d _ _ h => by cases d <;> exact h) HS _ _ (by kernel_rfl) (by rw [haf]; kernel_rfl) ?_ ?_
  · refine ⟨⟨_, 23, _, rfl, rfl, g23, ?_⟩, ⟨_, 24, _, rfl, rfl, g24, ?_⟩, ⟨_, 25, _, rfl, rfl, g25, ?_⟩, ⟨_, 26, _, rfl, rfl, g26, ?_⟩, ⟨_, 27, _, rfl, rfl, g27, ?_⟩, ⟨_, 28, _, rfl, rfl, g28, ?_⟩, ⟨_, 29, _, rfl, rfl, g29, ?_⟩, ⟨_, 30, _, rfl, rfl, g30, ?_⟩, ⟨_, 31, _, rfl, rfl, g31, ?_⟩, ⟨_, 32, _, rfl, rfl, g32, ?_⟩, ⟨_, 33, _, rfl, rfl, g33, ?_⟩, ⟨_, 34, _, rfl, rfl, g34, ?_⟩, ⟨_, 35, _, rfl, rfl, g35, ?_⟩, trivial⟩
    all_goals (intro W hW; obtain ⟨e1, e2⟩ := cells.out _ hW; clear haf; go_simp)
  have hsz : af.tmps.size = 56 := by rw [haf]; kernel_rfl
  refine tail_call (iA := 13) (dA := 36) (dv := 34) (dx := 35) (fuel := 1) (x := x) (r := R j) (v := v) (w0 := w1) rfl rfl rfl rfl (by kernel_rfl) g34 g35 HV.out hlen HS ?_
  intro vA W hW hD
  obtain ⟨ad, l, c, rfl⟩ := own_form hD
  have hr2 := HR.out.below hW
  obtain ⟨hset, hbut⟩ := HR.out.set hW hj hD (Nat.le_trans (wo_len _ _) hlen)
  refine fin_store (ad := ad) (l := l) (c := c) (iM := 14) (dl := 26) (dk := 27) (dM := 37) (dD := 36) (fuel := 0) (b := b) (m := m) (k := j) rfl (by kernel_rfl) (by kernel_rfl) rfl rfl rfl rfl rfl ?_ ?_ hj ?_ (cells.out W hW).2 (hr2.fz _) (by decide) ?_ hW ?_
  · rw [put_ne (by decide)]; exact g26
  · rw [put_ne (by decide)]; exact g27
  · exact put_at (by rw [hsz]; decide)
  · rw [put_sz, hsz]; decide
  have HF : Hid (Rx (W.setCell ⟨b, j, none⟩ (.slice ad l c)) p b B n m (upd R j (wo (R j) x)) ∧ But (fun y => y = b) w1 (W.setCell ⟨b, j, none⟩ (.slice ad l c))) := ⟨hset, hbut⟩
  generalize W.setCell ⟨b, j, none⟩ (.slice ad l c) = W2 at *
  rw [haf]
  simp only [Act.put, List.setIfInBounds_toArray, List.set_cons_zero, List.set_cons_succ]
  clear haf hD hset hbut hr2 cells g0 g1 g2 g3 g4 g5 g6 g7 g23 g24 g25 g26 g27 g28 g29 g30 g31 g32 g33 g34 g35
  go_wp2_with fail
  have HF1 : Hid (Rx W2 p b B n m R1) := HE1.out ▸ HF.out.1
  obtain ⟨vb, hv0b, hownb⟩ := HF1.out.row k hk
  have c1b := HF1.out.c1
  have HRb : Hid (Rx W2 p b B n m R1) := HF1.out
  have HVb : Hid (W2.ownsRow B 3 1 vb (R1 k).length (encL (R1 k))) := hownb
  clear hownb c1 hv0 HR HV
  have HSb : Below W2.heap.size W2 W2.drew := (Below.refl _ _).drew
  have cellsb : Hid (∀ W, Below W2.heap.size W2 W → W.cell? ⟨p, 1, none⟩ = some (.slice (some ⟨b, 0, none⟩) m m) ∧ W.cell? ⟨b, k, none⟩ = some vb) := fun W hW =>
    ⟨(hW.cell (p := ⟨p, 1, none⟩) (cell_lt c1b)).trans c1b, (hW.cell (p := ⟨b, k, none⟩) (cell_lt hv0b)).trans hv0b⟩
  obtain ⟨afb, hafb⟩ : ∃ af : Act, af = { tmps := #[.pointer (some ⟨p, 0, none⟩), .int .i64 (k : Int), .int .i64 (x : Int), undef, undef, undef, .int .i64 0, .int .i64 (j : Int), .pointer (some ⟨p, 0, none⟩), .int .i64 (k : Int), .bool true, .bool false, .bool false, .pointer (some ⟨p, 0, none⟩), .int .i64 (x : Int), .bool true, .bool false, .bool false, .pointer (some ⟨p, 0, none⟩), .int .i64 (x : Int), .int .i64 (j : Int), .int .i64 (j : Int), .bool true, .pointer (some ⟨p, 0, none⟩), .pointer (some ⟨p, 0, none⟩), .pointer (some ⟨p, 1, none⟩), .slice (some ⟨b, 0, none⟩) m m, .int .i64 (j : Int), .pointer (some ⟨p, 0, none⟩), .pointer (some ⟨p, 0, none⟩), .pointer (some ⟨p, 1, none⟩), .slice (some ⟨b, 0, none⟩) m m, .int .i64 (j : Int), .pointer (some ⟨b, j, none⟩), v, .int .i64 (x : Int), .slice ad l c, .pointer (some ⟨b, j, none⟩), .pointer (some ⟨p, 0, none⟩), .pointer (some ⟨p, 0, none⟩), .pointer (some ⟨p, 1, none⟩), .slice (some ⟨b, 0, none⟩) m m, .int .i64 (k : Int), undef, .pointer (some ⟨p, 0, none⟩), .pointer (some ⟨p, 0, none⟩), .pointer (some ⟨p, 1, none⟩), .slice (some ⟨b, 0, none⟩) m m, .int .i64 (k : Int), .pointer (some ⟨b, k, none⟩), vb, undef, .int .i64 (x : Int), undef, undef, undef], defers := [] } := ⟨_, rfl⟩
  have g0b : afb.tmps[0]? = some (.pointer (some ⟨p, 0, none⟩)) := by rw [hafb]; kernel_rfl
  have g1b : afb.tmps[1]? = some (.int .i64 (k : Int)) := by rw [hafb]; kernel_rfl
  have g2b : afb.tmps[2]? = some (.int .i64 (x : Int)) := by rw [hafb]; kernel_rfl
  have g3b : afb.tmps[3]? = some (undef) := by rw [hafb]; kernel_rfl
  have g4b : afb.tmps[4]? = some (undef) := by rw [hafb]; kernel_rfl
  have g5b : afb.tmps[5]? = some (undef) := by rw [hafb]; kernel_rfl
  have g6b : afb.tmps[6]? = some (.int .i64 0) := by rw [hafb]; kernel_rfl
  have g7b : afb.tmps[7]? = some (.int .i64 (j : Int)) := by rw [hafb]; kernel_rfl
  have g38b : afb.tmps[38]? = some (.pointer (some ⟨p, 0, none⟩)) := by rw [hafb]; kernel_rfl
  have g39b : afb.tmps[39]? = some (.pointer (some ⟨p, 0, none⟩)) := by rw [hafb]; kernel_rfl
  have g40b : afb.tmps[40]? = some (.pointer (some ⟨p, 1, none⟩)) := by rw [hafb]; kernel_rfl
  have g41b : afb.tmps[41]? = some (.slice (some ⟨b, 0, none⟩) m m) := by rw [hafb]; kernel_rfl
  have g42b : afb.tmps[42]? = some (.int .i64 (k : Int)) := by rw [hafb]; kernel_rfl
  have g44b : afb.tmps[44]? = some (.pointer (some ⟨p, 0, none⟩)) := by rw [hafb]; kernel_rfl
  have g45b : afb.tmps[45]? = some (.pointer (some ⟨p, 0, none⟩)) := by rw [hafb]; kernel_rfl
  have g46b : afb.tmps[46]? = some (.pointer (some ⟨p, 1, none⟩)) := by rw [hafb]; kernel_rfl
  have g47b : afb.tmps[47]? = some (.slice (some ⟨b, 0, none⟩) m m) := by rw [hafb]; kernel_rfl
  have g48b : afb.tmps[48]? = some (.int .i64 (k : Int)) := by rw [hafb]; kernel_rfl
  have g49b : afb.tmps[49]? = some (.pointer (some ⟨b, k, none⟩)) := by rw [hafb]; kernel_rfl
  have g50b : afb.tmps[50]? = some (vb) := by rw [hafb]; kernel_rfl
  have g52b : afb.tmps[52]? = some (.int .i64 (x : Int)) := by rw [hafb]; kernel_rfl
  refine wp_region_last2 (by simp) (fun W => Below W2.heap.size W2 W) (by kernel_rfl) (by kernel_rfl) ?_
  refine takes (idx := [0, 1, 2, 3, 4, 6, 7, 8, 9, 10, 11, 12, 14]) (af := afb) (fuel := 5) (by kernel_rfl) (fun _ _ d _ _ h => by cases d <;> exact h) HSb _ _ (by kernel_rfl) (by rw [hafb]; kernel_rfl) ?_ ?_
  · refine ⟨⟨_, 38, _, rfl, rfl, g38b, ?_⟩, ⟨_, 39, _, rfl, rfl, g39b, ?_⟩, ⟨_, 40, _, rfl, rfl, g40b, ?_⟩, ⟨_, 41, _, rfl, rfl, g41b, ?_⟩, ⟨_, 42, _, rfl, rfl, g42b, ?_⟩, ⟨_, 44, _, rfl, rfl, g44b, ?_⟩, ⟨_, 45, _, rfl, rfl, g45b, ?_⟩, ⟨_, 46, _, rfl, rfl, g46b, ?_⟩, ⟨_, 47, _, rfl, rfl, g47b, ?_⟩, ⟨_, 48, _, rfl, rfl, g48b, ?_⟩, ⟨_, 49, _, rfl, rfl, g49b, ?_⟩, ⟨_, 50, _, rfl, rfl, g50b, ?_⟩, ⟨_, 52, _, rfl, rfl, g52b, ?_⟩, trivial⟩
    all_goals (intro W hW; obtain ⟨e1, e2⟩ := cellsb.out _ hW; clear hafb; go_simp)
  have hszb : afb.tmps.size = 56 := by rw [hafb]; kernel_rfl
  refine tail_snoc (iA := 5) (iB := 13) (iC := 15) (iD := 16) (dA := 43) (dB := 51) (dC := 53) (dD := 54) (dv := 50) (dx := 52) (fuel := 1) (x := x) (r := R1 k) (v := vb) (w0 := W2) rfl rfl rfl rfl rfl rfl rfl rfl rfl rfl rfl rfl rfl rfl rfl rfl
    (by kernel_rfl) (by kernel_rfl) (by kernel_rfl) (by kernel_rfl) (by kernel_rfl) (by kernel_rfl) (by kernel_rfl) (by decide) (by decide) (by rw [hszb]; decide) g50b g52b HVb.out (by omega) HSb ?_
  intro vA vB vC vD W hW hD
  obtain ⟨adb, lb, cb, rfl⟩ := own_form hD
  have hr2 := HRb.out.below hW
  obtain ⟨hset, hbut⟩ := HRb.out.set hW hk hD (by simp; omega)
  refine fin_store (ad := adb) (l := lb) (c := cb) (iM := 17) (dl := 41) (dk := 42) (dM := 55) (dD := 54) (fuel := 0) (b := b) (m := m) (k := k) rfl (by kernel_rfl) (by kernel_rfl) rfl rfl rfl rfl rfl ?_ ?_ hk ?_ (cellsb.out W hW).2 (hr2.fz _) (by decide) ?_ hW ?_
  · rw [put_ne (by decide), put_ne (by decide), put_ne (by decide), put_ne (by decide)]; exact g41b
  · rw [put_ne (by decide), put_ne (by decide), put_ne (by decide), put_ne (by decide)]; exact g42b
  · exact put_at (by rw [put_sz, put_sz, put_sz, hszb]; decide)
  · rw [put_sz, put_sz, put_sz, put_sz, hszb]; decide
  have HFb : Hid (Rx (W.setCell ⟨b, k, none⟩ (.slice adb lb cb)) p b B n m (upd R1 k (R1 k ++ [x])) ∧ But (fun y => y = b) W2 (W.setCell ⟨b, k, none⟩ (.slice adb lb cb))) := ⟨hset, hbut⟩
  generalize W.setCell ⟨b, k, none⟩ (.slice adb lb cb) = W2b at *
  rw [hafb]
  simp only [Act.put, List.setIfInBounds_toArray, List.set_cons_zero, List.set_cons_succ]
  clear hafb hD hset hbut hr2 cellsb g0b g1b g2b g3b g4b g5b g6b g7b g38b g39b g40b g41b g42b g44b g45b g46b g47b g48b g49b g50b g52b
  go_wp2_with fail
  go_ret
  exact ⟨rfl, HFb.out.1, HF.out.2.trans HFb.out.2⟩

end Go.Proofs.Ytiaacjollcccaaa
