/- PushFront of the document's lists. -/
import Derived.Test.YtiaacjollcccaaaKRefT
namespace Go.Proofs.Ytiaacjollcccaaa
open Go.RowKit

set_option maxRecDepth 100000 in
set_option maxHeartbeats 4000000 in
theorem rpushFront_ok (p b B n m : Nat) (R : Nat → List Nat) (k x : Nat) (hk : k < m) (hx : x < n) (hw : whr R m x = none) (hlt : (R k).length < 65536) (w : World) (h : Rx w p b B n m R) :
    Calls Try.prog 31 #[.pointer (some ⟨p, 0, none⟩), .int .i64 (k : Int), .int .i64 (x : Int), .bool true] w fun e w' => e = .returned (.int .i64 0) ∧ Rx w' p b B n m (upd R k (x :: R k)) ∧ But (fun y => y = b) w w' := by
  have h1 := ris_k p b B n m R (k : Int) w h
  rw [show inR m (k : Int) = true from inR_iff.2 (by omega)] at h1
  have h2 := rnode_k p b B n m R (x : Int) w h
  rw [show inR n (x : Int) = true from inR_iff.2 (by omega)] at h2
  have h3 := rat_k p b B n m x R w h
  rw [show atI R m x = -1 by simp [atI, hw]] at h3
  obtain ⟨v, hv0, hown⟩ := h.row k hk
  have c1 := h.c1
  have HR : Hid (Rx w p b B n m R) := h
  have HV : Hid (w.ownsRow B 3 1 v (R k).length (encL (R k))) := hown
  have hlen := h.len k hk
  have i3 : (0 : Int) ≤ (k : Int) := by omega
  have i4 : (k : Int) < (m : Int) := by omega
  clear h hown
  go_enter Try.func31, Try.ntmps31
  go_wp2_with fail
  refine h1.mono ?_
  rintro e w1 ⟨rfl, e1⟩
  subst e1
  go_wp2_with fail
  refine h2.mono ?_
  rintro e w1 ⟨rfl, e1⟩
  subst e1
  go_wp2_with fail
  refine h3.mono ?_
  rintro e w1 ⟨rfl, e1⟩
  subst e1
  go_wp2_with fail
  clear h1 h2 h3
  have HS : Below w1.heap.size w1 w1.drew := (Below.refl _ _).drew
  have cells : Hid (∀ W, Below w1.heap.size w1 W → W.cell? ⟨p, 1, none⟩ = some (.slice (some ⟨b, 0, none⟩) m m) ∧ W.cell? ⟨b, k, none⟩ = some v) := fun W hW =>
    ⟨(hW.cell (p := ⟨p, 1, none⟩) (cell_lt c1)).trans c1, (hW.cell (p := ⟨b, k, none⟩) (cell_lt hv0)).trans hv0⟩
  obtain ⟨af, haf⟩ : ∃ af : Act, af = { tmps := #[.pointer (some ⟨p, 0, none⟩), .int .i64 (k : Int), .int .i64 (x : Int), .bool true, undef, undef, undef, undef, .int .i64 0, .pointer (some ⟨p, 0, none⟩), .int .i64 (k : Int), .bool true, .bool false, .bool false, .pointer (some ⟨p, 0, none⟩), .int .i64 (x : Int), .bool true, .bool false, .bool false, .pointer (some ⟨p, 0, none⟩), .int .i64 (x : Int), .int .i64 (-1), .bool false, .bool true, .pointer (some ⟨p, 0, none⟩), .pointer (some ⟨p, 0, none⟩), .pointer (some ⟨p, 1, none⟩), .slice (some ⟨b, 0, none⟩) m m, .int .i64 (k : Int), .int .i64 (x : Int), undef, .pointer (some ⟨p, 0, none⟩), .pointer (some ⟨p, 0, none⟩), .pointer (some ⟨p, 1, none⟩), .slice (some ⟨b, 0, none⟩) m m, .int .i64 (k : Int), .pointer (some ⟨b, k, none⟩), v, undef, undef, undef, undef, undef, undef, undef, undef, undef, undef, undef, undef, undef, undef, undef, undef, undef, undef, undef, undef], defers := [] } := ⟨_, rfl⟩
  have g0 : af.tmps[0]? = some (.pointer (some ⟨p, 0, none⟩)) := by rw [haf]; kernel_rfl
  have g1 : af.tmps[1]? = some (.int .i64 (k : Int)) := by rw [haf]; kernel_rfl
  have g2 : af.tmps[2]? = some (.int .i64 (x : Int)) := by rw [haf]; kernel_rfl
  have g3 : af.tmps[3]? = some (.bool true) := by rw [haf]; kernel_rfl
  have g4 : af.tmps[4]? = some (undef) := by rw [haf]; kernel_rfl
  have g5 : af.tmps[5]? = some (undef) := by rw [haf]; kernel_rfl
  have g6 : af.tmps[6]? = some (undef) := by rw [haf]; kernel_rfl
  have g7 : af.tmps[7]? = some (undef) := by rw [haf]; kernel_rfl
  have g24 : af.tmps[24]? = some (.pointer (some ⟨p, 0, none⟩)) := by rw [haf]; kernel_rfl
  have g25 : af.tmps[25]? = some (.pointer (some ⟨p, 0, none⟩)) := by rw [haf]; kernel_rfl
  have g26 : af.tmps[26]? = some (.pointer (some ⟨p, 1, none⟩)) := by rw [haf]; kernel_rfl
  have g27 : af.tmps[27]? = some (.slice (some ⟨b, 0, none⟩) m m) := by rw [haf]; kernel_rfl
  have g28 : af.tmps[28]? = some (.int .i64 (k : Int)) := by rw [haf]; kernel_rfl
  have g29 : af.tmps[29]? = some (.int .i64 (x : Int)) := by rw [haf]; kernel_rfl
  have g31 : af.tmps[31]? = some (.pointer (some ⟨p, 0, none⟩)) := by rw [haf]; kernel_rfl
  have g32 : af.tmps[32]? = some (.pointer (some ⟨p, 0, none⟩)) := by rw [haf]; kernel_rfl
  have g33 : af.tmps[33]? = some (.pointer (some ⟨p, 1, none⟩)) := by rw [haf]; kernel_rfl
  have g34 : af.tmps[34]? = some (.slice (some ⟨b, 0, none⟩) m m) := by rw [haf]; kernel_rfl
  have g35 : af.tmps[35]? = some (.int .i64 (k : Int)) := by rw [haf]; kernel_rfl
  have g36 : af.tmps[36]? = some (.pointer (some ⟨b, k, none⟩)) := by rw [haf]; kernel_rfl
  have g37 : af.tmps[37]? = some (v) := by rw [haf]; kernel_rfl
  refine wp_region_last2 (by simp) (fun W => Below w1.heap.size w1 W) (by kernel_rfl) (by kernel_rfl) ?_
  refine takes (idx := [0, 1, 2, 3, 4, 5, 7, 8, 9, 10, 11, 12, 13]) (af := af) (fuel := 3) (by kernel_rfl) (fun _ _ d _ _ h => by cases d <;> exact h) HS _ _ (by kernel_rfl) (by rw [haf]; kernel_rfl) ?_ ?_
  · refine ⟨⟨_, 24, _, rfl, rfl, g24, ?_⟩, ⟨_, 25, _, rfl, rfl, g25, ?_⟩, ⟨_, 26, _, rfl, rfl, g26, ?_⟩, ⟨_, 27, _, rfl, rfl, g27, ?_⟩, ⟨_, 28, _, rfl, rfl, g28, ?_⟩, ⟨_, 29, _, rfl, rfl, g29, ?_⟩, ⟨_, 31, _, rfl, rfl, g31, ?_⟩, ⟨_, 32, _, rfl, rfl, g32, ?_⟩, ⟨_, 33, _, rfl, rfl, g33, ?_⟩, ⟨_, 34, _, rfl, rfl, g34, ?_⟩, ⟨_, 35, _, rfl, rfl, g35, ?_⟩, ⟨_, 36, _, rfl, rfl, g36, ?_⟩, ⟨_, 37, _, rfl, rfl, g37, ?_⟩, trivial⟩
    all_goals (intro W hW; obtain ⟨e1, e2⟩ := cells.out _ hW; clear haf; go_simp)
  have hsz : af.tmps.size = 58 := by rw [haf]; kernel_rfl
  refine tail_front (iA := 6) (iB := 14) (dA := 30) (dB := 38) (dv := 37) (dx := 29) (fuel := 1) (x := x) (r := R k) (v := v) (w0 := w1) rfl rfl rfl rfl rfl rfl rfl rfl (by kernel_rfl) (by kernel_rfl) (by decide) (by rw [hsz]; decide) g37 g29 HV.out (by omega) HS ?_
  intro vA vB W hW hD
  obtain ⟨ad, l, c, rfl⟩ := own_form hD
  have hr2 := HR.out.below hW
  obtain ⟨hset, hbut⟩ := HR.out.set hW hk hD (by simp; omega)
  refine fin_store (ad := ad) (l := l) (c := c) (iM := 15) (dl := 27) (dk := 28) (dM := 39) (dD := 38) (fuel := 0) (b := b) (m := m) (k := k) rfl (by kernel_rfl) (by kernel_rfl) rfl rfl rfl rfl rfl ?_ ?_ hk ?_ (cells.out W hW).2 (hr2.fz _) (by decide) ?_ hW ?_
  · rw [put_ne (by decide), put_ne (by decide)]; exact g27
  · rw [put_ne (by decide), put_ne (by decide)]; exact g28
  · exact put_at (by rw [put_sz, hsz]; decide)
  · rw [put_sz, put_sz, hsz]; decide
  have HF : Hid (Rx (W.setCell ⟨b, k, none⟩ (.slice ad l c)) p b B n m (upd R k (x :: R k)) ∧ But (fun y => y = b) w1 (W.setCell ⟨b, k, none⟩ (.slice ad l c))) := ⟨hset, hbut⟩
  generalize W.setCell ⟨b, k, none⟩ (.slice ad l c) = W2 at *
  rw [haf]
  simp only [Act.put, List.setIfInBounds_toArray, List.set_cons_zero, List.set_cons_succ]
  clear haf hD hset hbut hr2 cells g0 g1 g2 g3 g4 g5 g6 g7 g24 g25 g26 g27 g28 g29 g31 g32 g33 g34 g35 g36 g37
  go_wp2_with fail
  go_ret
  exact ⟨rfl, HF.out.1, HF.out.2⟩

end Go.Proofs.Ytiaacjollcccaaa
