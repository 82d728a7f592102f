/- Push of the document's lists. -/
import Derived.Test.YtiaacjollcccaaaKRefS
namespace Go.Proofs.Ytiaacjollcccaaa
open Go.RowKit

set_option maxRecDepth 100000 in
set_option maxHeartbeats 4000000 in
theorem rpushBack_ok (p b B n m : Nat) (R : Nat → List Nat) (k x : Nat) (w : World) (h : Rx w p b B n m R) (hk : k < m) (hx : x < n) (hw : whr R m x = none) (hlen : (R k).length < 65536) :
    Calls Try.prog 31 #[.pointer (some ⟨p, 0, none⟩), .int .i64 (k : Int), .int .i64 (x : Int), .bool false] w fun e w' => e = .returned (.int .i64 0) ∧ Rx w' p b B n m (upd R k (R k ++ [x])) ∧ But (fun y => y = b) w w' := by
  have h1 := ris_k p b B n m R (k : Int) w h
  rw [show inR m (k : Int) = true from inR_iff.2 (by omega)] at h1
  have h2 := rnode_k p b B n m R (x : Int) w h
  rw [show inR n (x : Int) = true from inR_iff.2 (by omega)] at h2
  have h3 := rat_k p b B n m x R w h
  rw [show atI R m x = -1 by simp [atI, hw]] at h3
  have HR : Hid (Rx w p b B n m R) := h
  obtain ⟨v, hv, hown⟩ := h.row k hk
  have c1 := h.c1
  have HV : Hid (w.ownsRow B 3 1 v (R k).length (encL (R k))) := hown
  have i3 : (0 : Int) ≤ (k : Int) := by omega
  have i4 : (k : Int) < (m : Int) := by omega
  clear h hown
  go_enter Try.func31, Try.ntmps31
  go_wp2_with fail
  refine h1.mono ?_
  rintro e w1 ⟨rfl, e1⟩
  subst e1
  go_wp2_with fail
  refine h2.mono ?_
  rintro e w1 ⟨rfl, e1⟩
  subst e1
  go_wp2_with fail
  refine h3.mono ?_
  rintro e w1 ⟨rfl, e1⟩
  subst e1
  clear h1 h2 h3
  go_wp2_with fail
  have cells : Hid (∀ W, Below w1.heap.size w1 W → W.cell? ⟨p, 1, none⟩ = some (.slice (some ⟨b, 0, none⟩) m m) ∧ W.cell? ⟨b, k, none⟩ = some v) := fun W hW =>
    ⟨(hW.cell (p := ⟨p, 1, none⟩) (cell_lt c1)).trans c1, (hW.cell (p := ⟨b, k, none⟩) (cell_lt hv)).trans hv⟩
  have HS : Below w1.heap.size w1 w1.drew := (Below.refl _ _).drew
  obtain ⟨af, haf⟩ : ∃ af : Act, af = { tmps := #[.pointer (some ⟨p, 0, none⟩), .int .i64 (k : Int), .int .i64 (x : Int), .bool false, undef, undef, undef, undef, .int .i64 0, .pointer (some ⟨p, 0, none⟩), .int .i64 (k : Int), .bool true, .bool false, .bool false, .pointer (some ⟨p, 0, none⟩), .int .i64 (x : Int), .bool true, .bool false, .bool false, .pointer (some ⟨p, 0, none⟩), .int .i64 (x : Int), .int .i64 (-1), .bool false, .bool false, undef, undef, undef, undef, undef, undef, undef, undef, undef, undef, undef, undef, undef, undef, undef, undef, .pointer (some ⟨p, 0, none⟩), .pointer (some ⟨p, 0, none⟩), .pointer (some ⟨p, 1, none⟩), .slice (some ⟨b, 0, none⟩) m m, .int .i64 (k : Int), undef, .pointer (some ⟨p, 0, none⟩), .pointer (some ⟨p, 0, none⟩), .pointer (some ⟨p, 1, none⟩), .slice (some ⟨b, 0, none⟩) m m, .int .i64 (k : Int), .pointer (some ⟨b, k, none⟩), v, undef, .int .i64 (x : Int), undef, undef, undef], defers := [] } := ⟨_, rfl⟩
  have g0 : af.tmps[0]? = some (.pointer (some ⟨p, 0, none⟩)) := by rw [haf]; kernel_rfl
  have g1 : af.tmps[1]? = some (.int .i64 (k : Int)) := by rw [haf]; kernel_rfl
  have g2 : af.tmps[2]? = some (.int .i64 (x : Int)) := by rw [haf]; kernel_rfl
  have g40 : af.tmps[40]? = some (.pointer (some ⟨p, 0, none⟩)) := by rw [haf]; kernel_rfl
  have g41 : af.tmps[41]? = some (.pointer (some ⟨p, 0, none⟩)) := by rw [haf]; kernel_rfl
  have g42 : af.tmps[42]? = some (.pointer (some ⟨p, 1, none⟩)) := by rw [haf]; kernel_rfl
  have g43 : af.tmps[43]? = some (.slice (some ⟨b, 0, none⟩) m m) := by rw [haf]; kernel_rfl
  have g44 : af.tmps[44]? = some (.int .i64 (k : Int)) := by rw [haf]; kernel_rfl
  have g46 : af.tmps[46]? = some (.pointer (some ⟨p, 0, none⟩)) := by rw [haf]; kernel_rfl
  have g47 : af.tmps[47]? = some (.pointer (some ⟨p, 0, none⟩)) := by rw [haf]; kernel_rfl
  have g48 : af.tmps[48]? = some (.pointer (some ⟨p, 1, none⟩)) := by rw [haf]; kernel_rfl
  have g49 : af.tmps[49]? = some (.slice (some ⟨b, 0, none⟩) m m) := by rw [haf]; kernel_rfl
  have g50 : af.tmps[50]? = some (.int .i64 (k : Int)) := by rw [haf]; kernel_rfl
  have g51 : af.tmps[51]? = some (.pointer (some ⟨b, k, none⟩)) := by rw [haf]; kernel_rfl
  have g52 : af.tmps[52]? = some (v) := by rw [haf]; kernel_rfl
  have g54 : af.tmps[54]? = some (.int .i64 (x : Int)) := by rw [haf]; kernel_rfl
  refine wp_region_last2 (by simp) (fun W => Below w1.heap.size w1 W) (by kernel_rfl) (by kernel_rfl) ?_
  refine takes (idx := [0, 1, 2, 3, 4, 6, 7, 8, 9, 10, 11, 12, 14]) (af := af) (fuel := 5) (by kernel_rfl) (fun _ _ d _ _ h => by cases d <;> exact h) HS _ _ (by kernel_rfl) (by rw [haf]; kernel_rfl) ?_ ?_
  · refine ⟨⟨_, 40, _, rfl, rfl, g40, ?_⟩, ⟨_, 41, _, rfl, rfl, g41, ?_⟩, ⟨_, 42, _, rfl, rfl, g42, ?_⟩, ⟨_, 43, _, rfl, rfl, g43, ?_⟩, ⟨_, 44, _, rfl, rfl, g44, ?_⟩, ⟨_, 46, _, rfl, rfl, g46, ?_⟩, ⟨_, 47, _, rfl, rfl, g47, ?_⟩, ⟨_, 48, _, rfl, rfl, g48, ?_⟩, ⟨_, 49, _, rfl, rfl, g49, ?_⟩, ⟨_, 50, _, rfl, rfl, g50, ?_⟩, ⟨_, 51, _, rfl, rfl, g51, ?_⟩, ⟨_, 52, _, rfl, rfl, g52, ?_⟩, ⟨_, 54, _, rfl, rfl, g54, ?_⟩, trivial⟩
    all_goals (intro W hW; obtain ⟨e1, e2⟩ := cells.out _ hW; clear haf; go_simp)
  have hsz : af.tmps.size = 58 := by rw [haf]; kernel_rfl
  refine tail_snoc (iA := 5) (iB := 13) (iC := 15) (iD := 16) (dA := 45) (dB := 53) (dC := 55) (dD := 56) (dv := 52) (dx := 54) (fuel := 1) (x := x) (r := R k) (v := v) (w0 := w1) rfl rfl rfl rfl rfl rfl rfl rfl rfl rfl rfl rfl rfl rfl rfl rfl
    (by kernel_rfl) (by kernel_rfl) (by kernel_rfl) (by kernel_rfl) (by kernel_rfl) (by kernel_rfl) (by kernel_rfl) (by decide) (by decide) (by rw [hsz]; decide) g52 g54 HV.out (by omega) HS ?_
  intro vA vB vC vD W hW hD
  obtain ⟨ad, l, c, rfl⟩ := own_form hD
  have hr2 := HR.out.below hW
  obtain ⟨hset, hbut⟩ := HR.out.set hW hk hD (by simp; omega)
  refine fin_store (ad := ad) (l := l) (c := c) (iM := 17) (dl := 43) (dk := 44) (dM := 57) (dD := 56) (fuel := 0) (b := b) (m := m) (k := k) rfl (by kernel_rfl) (by kernel_rfl) rfl rfl rfl rfl rfl ?_ ?_ hk ?_ (cells.out W hW).2 (hr2.fz k) (by decide) ?_ hW ?_
  · rw [put_ne (by decide), put_ne (by decide), put_ne (by decide), put_ne (by decide)]; exact g43
  · rw [put_ne (by decide), put_ne (by decide), put_ne (by decide), put_ne (by decide)]; exact g44
  · exact put_at (by rw [put_sz, put_sz, put_sz, hsz]; decide)
  · rw [put_sz, put_sz, put_sz, put_sz, hsz]; decide
  have HF : Hid (Rx (W.setCell ⟨b, k, none⟩ (.slice ad l c)) p b B n m (upd R k (R k ++ [x])) ∧ But (fun y => y = b) w1 (W.setCell ⟨b, k, none⟩ (.slice ad l c))) := ⟨hset, hbut⟩
  generalize W.setCell ⟨b, k, none⟩ (.slice ad l c) = W2 at *
  rw [haf]
  simp only [Act.put, List.setIfInBounds_toArray, List.set_cons_zero, List.set_cons_succ]
  clear haf hD hset hbut hr2 cells
  go_wp2_with fail
  go_ret
  exact ⟨rfl, HF.out.1, HF.out.2⟩

end Go.Proofs.Ytiaacjollcccaaa
