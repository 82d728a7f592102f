/- A node goes out of its list. -/
import Derived.Test.YtiaacjollcccaaaKEnter
namespace Go.Proofs.Ytiaacjollcccaaa
open Go.RowKit

set_option maxHeartbeats 2000000 in
theorem leave_k (o : Pl) (s : Sx) (x : Nat) (w : World) (h : Kx w o s) (hx : x < s.n + s.m) (ha : s.ah x < s.n + s.m) (hb : s.bh x < s.n + s.m) (hg : s.bg x < s.m + 1) (hw : s.ow (s.bg x) < s.m) (hl : 1 ≤ s.ls (s.ow (s.bg x)) ∧ s.ls (s.ow (s.bg x)) ≤ 70000) :
    Calls Try.prog 44 #[o.ptr, .int .i64 (x : Int)] w fun e w' => e = .returned (.tuple #[]) ∧ Kx w' o (s.leave x) ∧ But o.has w w' := by
  have HK : Hid (Kx w o s) := h
  have h2 := h.c2
  have h5 := h.l0 x hx
  have h6 := h.l1 x hx
  have h7 := h.l2 x hx
  obtain ⟨l1, l2⟩ := hl
  clear h
  go_enter Try.func44, Try.ntmps44
  go_wp2_with fail
  have HA : Hid (Kx (w.alloc (.cells #[.int .i64 (s.ah x : Int), .int .i64 (s.bh x : Int), .int .i64 (s.bg x : Int)] 72)) o s) := HK.out.alloc _
  have hB : ¬ o.has w.heap.size := fun ho => Nat.lt_irrefl _ (HK.out.lt _ ho)
  have hx2 : (w.alloc (.cells #[.int .i64 (s.ah x : Int), .int .i64 (s.bh x : Int), .int .i64 (s.bg x : Int)] 72)).cell? ⟨w.heap.size, 2, none⟩ = some (.int .i64 (s.bg x : Int)) := by
    rw [cell_of_row _ _ 2 _ 72 (0, 0) (World.alloc_heap_new w _)]; rfl
  have HB1 : Hid (But o.has w (w.alloc (.cells #[.int .i64 (s.ah x : Int), .int .i64 (s.bh x : Int), .int .i64 (s.bg x : Int)] 72))) := (But.refl _ w).alloc _
  refine (join_k o s (s.ah x) (s.bh x) _ HA.out ha hb).mono ?_
  rintro e w1 ⟨rfl, hk1, hb1⟩
  have HK1 : Hid (Kx w1 o _) := hk1
  have HB2 : Hid (But o.has w w1) := HB1.out.trans hb1
  replace hx2 := hb1.cell hx2 hB
  clear hk1 hb1 HA HB1 h2 h5 h6 h7
  go_wp2_with fail
  have g3 : w1.cell? ⟨o.p, 3, none⟩ = some (.slice (some ⟨o.b2, 0, none⟩) s.m s.m) := HK1.out.c3
  have g4 : w1.cell? ⟨o.p, 4, none⟩ = some (.slice (some ⟨o.b3, 0, none⟩) (s.m + 1) (s.m + 1)) := HK1.out.c4
  have g5 : w1.cell? ⟨o.b3, s.bg x, none⟩ = some (.int .i64 (s.ow (s.bg x) : Int)) := HK1.out.w0 (s.bg x) hg
  have g6 : w1.cell? ⟨o.b2, s.ow (s.bg x) * 2 + 1, none⟩ = some (.int .i64 (s.ls (s.ow (s.bg x)) : Int)) := HK1.out.f1 _ hw
  have g7 := HK1.out.fz o.b2 (s.ow (s.bg x) * 2 + 1) (.inr (.inr (.inl rfl)))
  have HE : Hid (Kx (w1.setCell ⟨o.b2, s.ow (s.bg x) * 2 + 1, none⟩ (.int .i64 ((s.ls (s.ow (s.bg x)) - 1 : Nat) : Int))) o _) := HK1.out.setLs hw (s.ls (s.ow (s.bg x)) - 1)
  rw [show ((s.ls (s.ow (s.bg x)) - 1 : Nat) : Int) = (s.ls (s.ow (s.bg x)) : Int) - 1 by omega] at HE
  have HB3 : Hid (But o.has w (w1.setCell ⟨o.b2, s.ow (s.bg x) * 2 + 1, none⟩ (.int .i64 ((s.ls (s.ow (s.bg x)) : Int) - 1)))) := HB2.out.setCell (.inr (.inr (.inl rfl))) _
  have i1 : (0 : Int) ≤ (s.bg x : Int) := by omega
  have i2 : (s.bg x : Int) < (s.m : Int) + 1 := by omega
  have i3 : (0 : Int) ≤ (s.ow (s.bg x) : Int) := by omega
  have i4 : (s.ow (s.bg x) : Int) < (s.m : Int) := by omega
  obtain ⟨n1, n2, n3, n4, n5, n6⟩ := HK.out.ne
  have n9 := Ne.symm n2
  have n8 : o.b2 ≠ w.heap.size := by rintro e; exact hB (.inr (.inr (.inl e.symm)))
  have n10 := Ne.symm n6
  have n11 := Ne.symm n8
  go_region
  have HE2 : Hid (Kx (w1.setCell ⟨o.b2, s.ow (s.bg x) * 2 + 1, none⟩ (.int .i64 ((s.ls (s.ow (s.bg x)) : Int) - 1))).drew o _) := HE.out.drew
  have HB4 : Hid (But o.has w (w1.setCell ⟨o.b2, s.ow (s.bg x) * 2 + 1, none⟩ (.int .i64 ((s.ls (s.ow (s.bg x)) : Int) - 1))).drew) := HB3.out.drew
  clear g3 g4 g5 g6 g7 HE HB3 hx2
  generalize (w1.setCell ⟨o.b2, s.ow (s.bg x) * 2 + 1, none⟩ (.int .i64 ((s.ls (s.ow (s.bg x)) : Int) - 1))).drew = w2 at *
  have g2 : w2.cell? ⟨o.p, 2, none⟩ = some (.slice (some ⟨o.b1, 0, none⟩) (s.n + s.m) (s.n + s.m)) := HE2.out.c2
  have h5 := HE2.out.l0 x hx
  have h6 := HE2.out.l1 x hx
  have h7 := HE2.out.l2 x hx
  have z0 := HE2.out.fz o.b1 (x * 3) (.inr (.inl rfl))
  have z1 := HE2.out.fz o.b1 (x * 3 + 1) (.inr (.inl rfl))
  have z2 := HE2.out.fz o.b1 (x * 3 + 2) (.inr (.inl rfl))
  have HP : Hid (Kx (((w2.setCell ⟨o.b1, x * 3, none⟩ (.int .i64 0)).setCell ⟨o.b1, x * 3 + 1, none⟩ (.int .i64 0)).setCell ⟨o.b1, x * 3 + 2, none⟩ (.int .i64 0)) o (s.leave x)) := HE2.out.setPut hx 0
  have HB5 : Hid (But o.has w2 (((w2.setCell ⟨o.b1, x * 3, none⟩ (.int .i64 0)).setCell ⟨o.b1, x * 3 + 1, none⟩ (.int .i64 0)).setCell ⟨o.b1, x * 3 + 2, none⟩ (.int .i64 0))) := but_put o w2 x 0
  go_wp2_with fail
  refine bodyPost_end (results_none rfl _ _ _) rfl ?_
  exact ⟨rfl, HP.out, HB4.out.trans HB5.out⟩

end Go.Proofs.Ytiaacjollcccaaa
