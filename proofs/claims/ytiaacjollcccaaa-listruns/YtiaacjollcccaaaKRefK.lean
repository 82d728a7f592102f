/- Take of the document's lists. -/
import Derived.Test.YtiaacjollcccaaaKRefT
namespace Go.Proofs.Ytiaacjollcccaaa
open Go.RowKit

set_option maxRecDepth 100000 in
set_option maxHeartbeats 4000000 in
theorem rtake_ok (p b B n m : Nat) (R : Nat → List Nat) (k f : Nat) (hk : k < m) (hf : f < m) (hne : k ≠ f) (hlt : (R k).length + (R f).length ≤ 65536) (w : World) (h : Rx w p b B n m R) :
    Calls Try.prog 35 #[.pointer (some ⟨p, 0, none⟩), .int .i64 (k : Int), .int .i64 (f : Int)] w fun e w' => e = .returned (.int .i64 0) ∧ Rx w' p b B n m (upd (upd R k (R k ++ R f)) f []) ∧ But (fun y => y = b) w w' := by
  have h1 := ris_k p b B n m R (k : Int) w h
  rw [show inR m (k : Int) = true from inR_iff.2 (by omega)] at h1
  have h4 := ris_k p b B n m R (f : Int) w h
  rw [show inR m (f : Int) = true from inR_iff.2 (by omega)] at h4
  obtain ⟨v, hv0, hown⟩ := h.row k hk
  have c1 := h.c1
  have HR : Hid (Rx w p b B n m R) := h
  have HV : Hid (w.ownsRow B 3 1 v (R k).length (encL (R k))) := hown
  have hlen := h.len k hk
  have i3 : (0 : Int) ≤ (k : Int) := by omega
  have i4 : (k : Int) < (m : Int) := by omega
  obtain ⟨u, hv1, hown1⟩ := h.row f hf
  have HU : Hid (w.ownsRow B 3 1 u (R f).length (encL (R f))) := hown1
  have hneI : ((k : Int) != (f : Int)) = true := by simp; omega
  have i5 : (0 : Int) ≤ (f : Int) := by omega
  have i6 : (f : Int) < (m : Int) := by omega
  clear h hown hown1
  go_enter Try.func35, Try.ntmps35
  go_wp2_with fail
  refine h1.mono ?_
  rintro e w1 ⟨rfl, e1⟩
  subst e1
  go_wp2_with fail
  refine h4.mono ?_
  rintro e w1 ⟨rfl, e1⟩
  subst e1
  go_wp2_with fail
  clear h1 h4
  have HS : Below w1.heap.size w1 w1.drew := (Below.refl _ _).drew
  have cells : Hid (∀ W, Below w1.heap.size w1 W → W.cell? ⟨p, 1, none⟩ = some (.slice (some ⟨b, 0, none⟩) m m) ∧ W.cell? ⟨b, k, none⟩ = some v ∧ W.cell? ⟨b, f, none⟩ = some u) := fun W hW =>
    ⟨(hW.cell (p := ⟨p, 1, none⟩) (cell_lt c1)).trans c1, (hW.cell (p := ⟨b, k, none⟩) (cell_lt hv0)).trans hv0, (hW.cell (p := ⟨b, f, none⟩) (cell_lt hv1)).trans hv1⟩
  obtain ⟨af, haf⟩ : ∃ af : Act, af = { tmps := #[.pointer (some ⟨p, 0, none⟩), .int .i64 (k : Int), .int .i64 (f : Int), undef, undef, undef, .int .i64 0, .pointer (some ⟨p, 0, none⟩), .int .i64 (k : Int), .bool true, .bool false, .bool false, .pointer (some ⟨p, 0, none⟩), .int .i64 (f : Int), .bool true, .bool false, .bool false, .int .i64 (k : Int), .int .i64 (f : Int), .bool true, .pointer (some ⟨p, 0, none⟩), .pointer (some ⟨p, 0, none⟩), .pointer (some ⟨p, 1, none⟩), .slice (some ⟨b, 0, none⟩) m m, .int .i64 (k : Int), undef, .pointer (some ⟨p, 0, none⟩), .pointer (some ⟨p, 0, none⟩), .pointer (some ⟨p, 1, none⟩), .slice (some ⟨b, 0, none⟩) m m, .int .i64 (k : Int), .pointer (some ⟨b, k, none⟩), v, undef, .pointer (some ⟨p, 0, none⟩), .pointer (some ⟨p, 0, none⟩), .pointer (some ⟨p, 1, none⟩), .slice (some ⟨b, 0, none⟩) m m, .int .i64 (f : Int), .pointer (some ⟨b, f, none⟩), u, undef, undef, undef, undef, undef, undef, undef, undef], defers := [] } := ⟨_, rfl⟩
  have g0 : af.tmps[0]? = some (.pointer (some ⟨p, 0, none⟩)) := by rw [haf]; kernel_rfl
  have g1 : af.tmps[1]? = some (.int .i64 (k : Int)) := by rw [haf]; kernel_rfl
  have g2 : af.tmps[2]? = some (.int .i64 (f : Int)) := by rw [haf]; kernel_rfl
  have g3 : af.tmps[3]? = some (undef) := by rw [haf]; kernel_rfl
  have g4 : af.tmps[4]? = some (undef) := by rw [haf]; kernel_rfl
  have g5 : af.tmps[5]? = some (undef) := by rw [haf]; kernel_rfl
  have g6 : af.tmps[6]? = some (.int .i64 0) := by rw [haf]; kernel_rfl
  have g7 : af.tmps[7]? = some (.pointer (some ⟨p, 0, none⟩)) := by rw [haf]; kernel_rfl
  have g20 : af.tmps[20]? = some (.pointer (some ⟨p, 0, none⟩)) := by rw [haf]; kernel_rfl
  have g21 : af.tmps[21]? = some (.pointer (some ⟨p, 0, none⟩)) := by rw [haf]; kernel_rfl
  have g22 : af.tmps[22]? = some (.pointer (some ⟨p, 1, none⟩)) := by rw [haf]; kernel_rfl
  have g23 : af.tmps[23]? = some (.slice (some ⟨b, 0, none⟩) m m) := by rw [haf]; kernel_rfl
  have g24 : af.tmps[24]? = some (.int .i64 (k : Int)) := by rw [haf]; kernel_rfl
  have g26 : af.tmps[26]? = some (.pointer (some ⟨p, 0, none⟩)) := by rw [haf]; kernel_rfl
  have g27 : af.tmps[27]? = some (.pointer (some ⟨p, 0, none⟩)) := by rw [haf]; kernel_rfl
  have g28 : af.tmps[28]? = some (.pointer (some ⟨p, 1, none⟩)) := by rw [haf]; kernel_rfl
  have g29 : af.tmps[29]? = some (.slice (some ⟨b, 0, none⟩) m m) := by rw [haf]; kernel_rfl
  have g30 : af.tmps[30]? = some (.int .i64 (k : Int)) := by rw [haf]; kernel_rfl
  have g31 : af.tmps[31]? = some (.pointer (some ⟨b, k, none⟩)) := by rw [haf]; kernel_rfl
  have g32 : af.tmps[32]? = some (v) := by rw [haf]; kernel_rfl
  have g34 : af.tmps[34]? = some (.pointer (some ⟨p, 0, none⟩)) := by rw [haf]; kernel_rfl
  have g35 : af.tmps[35]? = some (.pointer (some ⟨p, 0, none⟩)) := by rw [haf]; kernel_rfl
  have g36 : af.tmps[36]? = some (.pointer (some ⟨p, 1, none⟩)) := by rw [haf]; kernel_rfl
  have g37 : af.tmps[37]? = some (.slice (some ⟨b, 0, none⟩) m m) := by rw [haf]; kernel_rfl
  have g38 : af.tmps[38]? = some (.int .i64 (f : Int)) := by rw [haf]; kernel_rfl
  have g39 : af.tmps[39]? = some (.pointer (some ⟨b, f, none⟩)) := by rw [haf]; kernel_rfl
  have g40 : af.tmps[40]? = some (u) := by rw [haf]; kernel_rfl
  refine wp_region_last2 (by simp) (fun W => Below w1.heap.size w1 W) (by kernel_rfl) (by kernel_rfl) ?_
  refine takes (idx := [0, 1, 2, 3, 4, 6, 7, 8, 9, 10, 11, 12, 14, 15, 16, 17, 18, 19, 20]) (af := af) (fuel := 4) (by kernel_rfl) (fun _ _ d _ _ h => by cases d <;> exact h) HS _ _ (by kernel_rfl) (by rw [haf]; kernel_rfl) ?_ ?_
  · refine ⟨⟨_, 20, _, rfl, rfl, g20, ?_⟩, ⟨_, 21, _, rfl, rfl, g21, ?_⟩, ⟨_, 22, _, rfl, rfl, g22, ?_⟩, ⟨_, 23, _, rfl, rfl, g23, ?_⟩, ⟨_, 24, _, rfl, rfl, g24, ?_⟩, ⟨_, 26, _, rfl, rfl, g26, ?_⟩, ⟨_, 27, _, rfl, rfl, g27, ?_⟩, ⟨_, 28, _, rfl, rfl, g28, ?_⟩, ⟨_, 29, _, rfl, rfl, g29, ?_⟩, ⟨_, 30, _, rfl, rfl, g30, ?_⟩, ⟨_, 31, _, rfl, rfl, g31, ?_⟩, ⟨_, 32, _, rfl, rfl, g32, ?_⟩, ⟨_, 34, _, rfl, rfl, g34, ?_⟩, ⟨_, 35, _, rfl, rfl, g35, ?_⟩, ⟨_, 36, _, rfl, rfl, g36, ?_⟩, ⟨_, 37, _, rfl, rfl, g37, ?_⟩, ⟨_, 38, _, rfl, rfl, g38, ?_⟩, ⟨_, 39, _, rfl, rfl, g39, ?_⟩, ⟨_, 40, _, rfl, rfl, g40, ?_⟩, trivial⟩
    all_goals (intro W hW; obtain ⟨e1, e2, e3⟩ := cells.out _ hW; clear haf; go_simp)
  have hsz : af.tmps.size = 49 := by rw [haf]; kernel_rfl
  refine tail_two (iA := 5) (iB := 13) (iC := 21) (dA := 25) (dB := 33) (dC := 41) (dv := 32) (du := 40) (fuel := 1) (r := R k) (q := R f) (v := v) (u := u) (w0 := w1) rfl rfl rfl rfl rfl rfl rfl rfl rfl rfl rfl rfl (by kernel_rfl) (by kernel_rfl) (by kernel_rfl) (by decide) (by rw [hsz]; decide) g32 g40 HV.out HU.out (by omega) HS ?_
  intro vA vB vC W hW hD
  obtain ⟨ad, l, c, rfl⟩ := own_form hD
  have hr2 := HR.out.below hW
  obtain ⟨hset, hbut⟩ := HR.out.set hW hk hD (by simp; omega)
  refine fin_store (ad := ad) (l := l) (c := c) (iM := 22) (dl := 23) (dk := 24) (dM := 42) (dD := 41) (fuel := 0) (b := b) (m := m) (k := k) rfl (by kernel_rfl) (by kernel_rfl) rfl rfl rfl rfl rfl ?_ ?_ hk ?_ (cells.out W hW).2.1 (hr2.fz _) (by decide) ?_ hW ?_
  · rw [put_ne (by decide), put_ne (by decide), put_ne (by decide)]; exact g23
  · rw [put_ne (by decide), put_ne (by decide), put_ne (by decide)]; exact g24
  · exact put_at (by rw [put_sz, put_sz, hsz]; decide)
  · rw [put_sz, put_sz, put_sz, hsz]; decide
  have HF : Hid (Rx (W.setCell ⟨b, k, none⟩ (.slice ad l c)) p b B n m (upd R k (R k ++ R f)) ∧ But (fun y => y = b) w1 (W.setCell ⟨b, k, none⟩ (.slice ad l c))) := ⟨hset, hbut⟩
  generalize W.setCell ⟨b, k, none⟩ (.slice ad l c) = W2 at *
  rw [haf]
  simp only [Act.put, List.setIfInBounds_toArray, List.set_cons_zero, List.set_cons_succ]
  clear haf hD hset hbut hr2 cells g0 g1 g2 g3 g4 g5 g6 g7 g20 g21 g22 g23 g24 g26 g27 g28 g29 g30 g31 g32 g34 g35 g36 g37 g38 g39 g40
  have d1 := HF.out.1.c1
  obtain ⟨u2, hu2, _⟩ := HF.out.1.row f hf
  have d3 := HF.out.1.fz f
  obtain ⟨hs2, hb2⟩ := HF.out.1.set (r := []) (v := .slice none 0 0) (Below.refl _ W2) hf (World.ownsRow_nil _ _ _ _) (by decide)
  have HE : Hid (Rx (W2.setCell ⟨b, f, none⟩ (.slice none 0 0)) p b B n m (upd (upd R k (R k ++ R f)) f []) ∧ But (fun y => y = b) W2 (W2.setCell ⟨b, f, none⟩ (.slice none 0 0))) := ⟨hs2, hb2⟩
  clear hs2 hb2
  go_wp2_with fail
  go_ret
  exact ⟨rfl, HE.out.1, HF.out.2.trans HE.out.2⟩

end Go.Proofs.Ytiaacjollcccaaa
