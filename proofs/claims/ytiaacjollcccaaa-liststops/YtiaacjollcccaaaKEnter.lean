/- A node goes into a list, and out of it. -/
import Derived.Test.YtiaacjollcccaaaKLeaf
import Derived.Deep.RegionHeld3
import Derived.BigRegion
namespace Go.Proofs.Ytiaacjollcccaaa
open Go.RowKit

theorem Kx.setPut {w : World} {o : Pl} {s : Sx} (h : Kx w o s) {x : Nat} (hx : x < s.n + s.m) (g : Nat) :
    Kx (((w.setCell ⟨o.b1, x * 3, none⟩ (.int .i64 0)).setCell ⟨o.b1, x * 3 + 1, none⟩ (.int .i64 0)).setCell ⟨o.b1, x * 3 + 2, none⟩ (.int .i64 (g : Int))) o (s.put x g) :=
  ((h.setAh hx 0).setBh (a := x) hx 0).setBg (a := x) hx g
theorem but_put (o : Pl) (w : World) (x : Nat) (g : Int) :
    But o.has w (((w.setCell ⟨o.b1, x * 3, none⟩ (.int .i64 0)).setCell ⟨o.b1, x * 3 + 1, none⟩ (.int .i64 0)).setCell ⟨o.b1, x * 3 + 2, none⟩ (.int .i64 g)) :=
  (((But.refl _ w).setCell (.inr (.inl rfl)) _).setCell (.inr (.inl rfl)) _).setCell (.inr (.inl rfl)) _

set_option maxHeartbeats 2000000 in
theorem enterLast_k (o : Pl) (s : Sx) (k x : Nat) (w : World) (h : Kx w o s) (hk : k < s.m) (hx : x < s.n) (hf : s.free x = true) (ha : s.ah (s.n + k) < s.n + s.m) (hb : s.bh (s.ah (s.n + k)) < s.n + s.m) (hl : s.ls k ≤ 70000) :
    Calls Try.prog 47 #[o.ptr, .int .i64 (k : Int), .int .i64 (x : Int), .func (.func 48) #[o.ptr] #[]] w fun e w' => e = .returned (.int .i64 0) ∧ Kx w' o (s.enter k x (s.ah (s.n + k))) ∧ But o.has w w' := by
  have HK : Hid (Kx w o s) := h
  have hm : mayE s.n s.m (k : Int) (x : Int) = 0 := by simp [mayE, inR, hk, hx]
  have hd := h.bd
  clear h
  go_enter Try.func47, Try.ntmps47
  go_wp2_with fail
  refine (may_k o s k x _ HK.out).mono ?_
  rintro e w1 ⟨rfl, e1⟩
  subst e1
  rw [hm]
  go_wp2_with fail
  refine (out_k o s x _ HK.out (by omega)).mono ?_
  rintro e w1 ⟨rfl, e1⟩
  subst e1
  rw [hf]
  go_wp2_with fail
  refine (head_k o s k _ HK.out (by omega)).mono ?_
  rintro e w1 ⟨rfl, e1⟩
  subst e1
  go_wp2_with fail
  refine (ahead_k o s (s.n + k) _ HK.out (by omega)).mono ?_
  rintro e w1 ⟨rfl, e1⟩
  subst e1
  go_wp2_with fail
  refine (behind_k o s (s.ah (s.n + k)) _ HK.out ha).mono ?_
  rintro e w1 ⟨rfl, e1⟩
  subst e1
  go_wp2_with fail
  have h2 := HK.out.c2
  have h3 := HK.out.c3
  have h4 := HK.out.f0 k hk
  have h5 := HK.out.l0 x (by omega)
  have h6 := HK.out.l1 x (by omega)
  have h7 := HK.out.l2 x (by omega)
  have z0 := HK.out.fz o.b1 (x * 3) (.inr (.inl rfl))
  have z1 := HK.out.fz o.b1 (x * 3 + 1) (.inr (.inl rfl))
  have z2 := HK.out.fz o.b1 (x * 3 + 2) (.inr (.inl rfl))
  have i1 : (0 : Int) ≤ (x : Int) := by omega
  have i2 : (x : Int) < (s.n : Int) + (s.m : Int) := by omega
  have i3 : (0 : Int) ≤ (k : Int) := by omega
  have i4 : (k : Int) < (s.m : Int) := by omega
  obtain ⟨n1, n2, n3, n4, n5, n6⟩ := HK.out.ne
  have n7 := Ne.symm n4
  have n8 := Ne.symm n1
  have n9 := Ne.symm n2
  go_region_held3 (fun W => W.cell? ⟨o.p, 2, none⟩ = some (.slice (some ⟨o.b1, 0, none⟩) (s.n + s.m) (s.n + s.m)) ∧ W.cell? ⟨o.p, 3, none⟩ = some (.slice (some ⟨o.b2, 0, none⟩) s.m s.m) ∧ W.cell? ⟨o.b2, k * 2, none⟩ = some (.int .i64 (s.lb k : Int))) (go_keep) (fail)
  have HP : Hid (Kx _ o (s.put x (s.lb k))) := (HK.out.setPut (by omega) (s.lb k)).drew
  have HB : Hid (But o.has w1 _) := (but_put o w1 x (s.lb k)).drew
  clear h2 h3 h4 h5 h6 h7 z0 z1 z2
  generalize (((w1.setCell ⟨o.b1, x * 3, none⟩ (.int .i64 0)).setCell ⟨o.b1, x * 3 + 1, none⟩ (.int .i64 0)).setCell ⟨o.b1, x * 3 + 2, none⟩ (.int .i64 (s.lb k : Int))).drew = w2 at *
  go_wp2_with fail
  refine (join_k o (s.put x (s.lb k)) (s.ah (s.n + k)) x _ HP.out ha (by show x < s.n + s.m; omega)).mono ?_
  rintro e w3 ⟨rfl, hk3, hb3⟩
  have HK3 : Hid (Kx w3 o _) := hk3
  clear hk3
  go_wp2_with fail
  refine (join_k o ((s.put x (s.lb k)).join (s.ah (s.n + k)) x) x (s.bh (s.ah (s.n + k))) _ HK3.out (by show x < s.n + s.m; omega) hb).mono ?_
  rintro e w4 ⟨rfl, hk4, hb4⟩
  have HK4 : Hid (Kx w4 o _) := hk4
  clear hk4
  have g1 := HK4.out.c3
  have g2 : w4.cell? ⟨o.b2, k * 2 + 1, none⟩ = some (.int .i64 (s.ls k : Int)) := HK4.out.f1 k hk
  have g3 := HK4.out.fz o.b2 (k * 2 + 1) (.inr (.inr (.inl rfl)))
  have HE : Hid (Kx (w4.setCell ⟨o.b2, k * 2 + 1, none⟩ (.int .i64 ((s.ls k : Int) + 1))) o (s.enter k x (s.ah (s.n + k)))) := HK4.out.setLs hk (s.ls k + 1)
  go_wp2_with fail
  go_ret
  exact ⟨rfl, HE.out, (((HB.out.trans hb3).trans hb4).setCell (.inr (.inr (.inl rfl))) _)⟩

set_option maxHeartbeats 2000000 in
theorem enterFirst_k (o : Pl) (s : Sx) (k x : Nat) (w : World) (h : Kx w o s) (hk : k < s.m) (hx : x < s.n) (hf : s.free x = true) (hb : s.bh (s.n + k) < s.n + s.m) (hl : s.ls k ≤ 70000) :
    Calls Try.prog 47 #[o.ptr, .int .i64 (k : Int), .int .i64 (x : Int), .func (.func 49) #[] #[]] w fun e w' => e = .returned (.int .i64 0) ∧ Kx w' o (s.enter k x (s.n + k)) ∧ But o.has w w' := by
  have HK : Hid (Kx w o s) := h
  have hm : mayE s.n s.m (k : Int) (x : Int) = 0 := by simp [mayE, inR, hk, hx]
  have hd := h.bd
  clear h
  go_enter Try.func47, Try.ntmps47
  go_wp2_with fail
  refine (may_k o s k x _ HK.out).mono ?_
  rintro e w1 ⟨rfl, e1⟩
  subst e1
  rw [hm]
  go_wp2_with fail
  refine (out_k o s x _ HK.out (by omega)).mono ?_
  rintro e w1 ⟨rfl, e1⟩
  subst e1
  rw [hf]
  go_wp2_with fail
  refine (head_k o s k _ HK.out (by omega)).mono ?_
  rintro e w1 ⟨rfl, e1⟩
  subst e1
  go_wp2_with fail
  refine (itself_k _ _).mono ?_
  rintro e w1 ⟨rfl, e1⟩
  subst e1
  go_wp2_with fail
  refine (behind_k o s (s.n + k) _ HK.out (by omega)).mono ?_
  rintro e w1 ⟨rfl, e1⟩
  subst e1
  go_wp2_with fail
  have h2 := HK.out.c2
  have h3 := HK.out.c3
  have h4 := HK.out.f0 k hk
  have h5 := HK.out.l0 x (by omega)
  have h6 := HK.out.l1 x (by omega)
  have h7 := HK.out.l2 x (by omega)
  have z0 := HK.out.fz o.b1 (x * 3) (.inr (.inl rfl))
  have z1 := HK.out.fz o.b1 (x * 3 + 1) (.inr (.inl rfl))
  have z2 := HK.out.fz o.b1 (x * 3 + 2) (.inr (.inl rfl))
  have i1 : (0 : Int) ≤ (x : Int) := by omega
  have i2 : (x : Int) < (s.n : Int) + (s.m : Int) := by omega
  have i3 : (0 : Int) ≤ (k : Int) := by omega
  have i4 : (k : Int) < (s.m : Int) := by omega
  obtain ⟨n1, n2, n3, n4, n5, n6⟩ := HK.out.ne
  have n7 := Ne.symm n4
  have n8 := Ne.symm n1
  have n9 := Ne.symm n2
  go_region_held3 (fun W => W.cell? ⟨o.p, 2, none⟩ = some (.slice (some ⟨o.b1, 0, none⟩) (s.n + s.m) (s.n + s.m)) ∧ W.cell? ⟨o.p, 3, none⟩ = some (.slice (some ⟨o.b2, 0, none⟩) s.m s.m) ∧ W.cell? ⟨o.b2, k * 2, none⟩ = some (.int .i64 (s.lb k : Int))) (go_keep) (fail)
  have HP : Hid (Kx _ o (s.put x (s.lb k))) := (HK.out.setPut (by omega) (s.lb k)).drew
  have HB : Hid (But o.has w1 _) := (but_put o w1 x (s.lb k)).drew
  clear h2 h3 h4 h5 h6 h7 z0 z1 z2
  generalize (((w1.setCell ⟨o.b1, x * 3, none⟩ (.int .i64 0)).setCell ⟨o.b1, x * 3 + 1, none⟩ (.int .i64 0)).setCell ⟨o.b1, x * 3 + 2, none⟩ (.int .i64 (s.lb k : Int))).drew = w2 at *
  go_wp2_with fail
  refine (join_k o (s.put x (s.lb k)) (s.n + k) x _ HP.out (by show s.n + k < s.n + s.m; omega) (by show x < s.n + s.m; omega)).mono ?_
  rintro e w3 ⟨rfl, hk3, hb3⟩
  have HK3 : Hid (Kx w3 o _) := hk3
  clear hk3
  go_wp2_with fail
  refine (join_k o ((s.put x (s.lb k)).join (s.n + k) x) x (s.bh (s.n + k)) _ HK3.out (by show x < s.n + s.m; omega) hb).mono ?_
  rintro e w4 ⟨rfl, hk4, hb4⟩
  have HK4 : Hid (Kx w4 o _) := hk4
  clear hk4
  have g1 := HK4.out.c3
  have g2 : w4.cell? ⟨o.b2, k * 2 + 1, none⟩ = some (.int .i64 (s.ls k : Int)) := HK4.out.f1 k hk
  have g3 := HK4.out.fz o.b2 (k * 2 + 1) (.inr (.inr (.inl rfl)))
  have HE : Hid (Kx (w4.setCell ⟨o.b2, k * 2 + 1, none⟩ (.int .i64 ((s.ls k : Int) + 1))) o (s.enter k x (s.n + k))) := HK4.out.setLs hk (s.ls k + 1)
  go_wp2_with fail
  go_ret
  exact ⟨rfl, HE.out, (((HB.out.trans hb3).trans hb4).setCell (.inr (.inr (.inl rfl))) _)⟩

set_option maxHeartbeats 2000000 in
theorem enter_bad (o : Pl) (s : Sx) (i x : Int) (v : Value) (w : World) (h : Kx w o s) (hm : mayE s.n s.m i x = 5) :
    Calls Try.prog 47 #[o.ptr, .int .i64 i, .int .i64 x, v] w fun e w' => e = .returned (.int .i64 5) ∧ w' = w := by
  have HK : Hid (Kx w o s) := h
  clear h
  go_enter Try.func47, Try.ntmps47
  go_wp2_with fail
  refine (may_k o s i x _ HK.out).mono ?_
  rintro e w1 ⟨rfl, e1⟩
  subst e1
  rw [hm]
  go_wp2_with fail
  go_ret
  exact ⟨rfl, rfl⟩

set_option maxHeartbeats 2000000 in
theorem enter_in (o : Pl) (s : Sx) (k x : Nat) (v : Value) (w : World) (h : Kx w o s) (hk : k < s.m) (hx : x < s.n) (hf : s.free x = false) :
    Calls Try.prog 47 #[o.ptr, .int .i64 (k : Int), .int .i64 (x : Int), v] w fun e w' => e = .returned (.int .i64 50) ∧ w' = w := by
  have HK : Hid (Kx w o s) := h
  have hm : mayE s.n s.m (k : Int) (x : Int) = 0 := by simp [mayE, inR, hk, hx]
  clear h
  go_enter Try.func47, Try.ntmps47
  go_wp2_with fail
  refine (may_k o s k x _ HK.out).mono ?_
  rintro e w1 ⟨rfl, e1⟩
  subst e1
  rw [hm]
  go_wp2_with fail
  refine (out_k o s x _ HK.out (by omega)).mono ?_
  rintro e w1 ⟨rfl, e1⟩
  subst e1
  rw [hf]
  go_wp2_with fail
  go_ret
  exact ⟨rfl, rfl⟩

end Go.Proofs.Ytiaacjollcccaaa
