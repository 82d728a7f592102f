/- The small functions of package slotlist. -/
import Derived.Test.YtiaacjollcccaaaKMem
namespace Go.Proofs.Ytiaacjollcccaaa
open Go.RowKit

set_option maxHeartbeats 1000000 in
theorem join_k (o : Pl) (s : Sx) (a b : Nat) (w : World) (h : Kx w o s) (ha : a < s.n + s.m) (hb : b < s.n + s.m) :
    Calls Try.prog 52 #[o.ptr, .int .i64 (a : Int), .int .i64 (b : Int)] w fun e w' => e = .returned (.tuple #[]) ∧ Kx w' o (s.join a b) ∧ But o.has w w' := by
  have H : Hid (Kx w o s) := h
  have H1 := (H.out.setBh ha b).setAh (a := b) hb a
  have h2 := h.c2
  have h3 := h.l1 a ha
  have h4 := h.fz o.b1 (a * 3 + 1) (.inr (.inl rfl))
  have h5 := (H.out.setBh ha b).c2
  have h6 := (H.out.setBh ha b).l0 b hb
  have h7 := (H.out.setBh ha b).fz o.b1 (b * 3) (.inr (.inl rfl))
  have HK : Hid (Kx _ o (s.join a b)) := H1
  clear h H1
  go_enter Try.func52, Try.ntmps52
  go_wp2_with fail
  refine bodyPost_end (results_none rfl _ _ _) rfl ?_
  exact ⟨rfl, HK.out, ((But.refl _ w).setCell (.inr (.inl rfl)) _).setCell (.inr (.inl rfl)) _⟩

/-- from 0 to n - 1 -/
def inR (n : Nat) (x : Int) : Bool := decide (0 ≤ x) && decide (x < n)
theorem inR_iff {n : Nat} {x : Int} : inR n x = true ↔ 0 ≤ x ∧ x < n := by simp [inR]
theorem inR_nat {n : Nat} {x : Int} (h : inR n x = true) : ∃ j : Nat, x = (j : Int) ∧ j < n := by
  rw [inR_iff] at h
  exact ⟨x.toNat, by omega, by omega⟩

set_option maxHeartbeats 1000000 in
theorem kbelow_any (x : Int) (n : Nat) (w : World) :
    Calls Try.prog 28 #[.int .i64 x, .int .i64 (n : Int)] w fun e w' => e = .returned (.bool (inR n x)) ∧ w' = w := by
  by_cases h : 0 ≤ x
  · have e : inR n x = decide (x < n) := by simp [inR, h]
    rw [e]
    go_enter Try.func28, Try.ntmps28
    go_wp2_with fail
    go_ret
    exact ⟨rfl, rfl⟩
  · have e : inR n x = false := by simp [inR, h]
    rw [e]
    go_enter Try.func28, Try.ntmps28
    go_wp2_with fail
    go_ret
    exact ⟨rfl, rfl⟩

set_option maxHeartbeats 1000000 in
theorem is_k (o : Pl) (s : Sx) (w : World) (h : Kx w o s) :
    Calls Try.prog 41 #[o.ptr] w fun e w' => e = .returned (.bool true) ∧ w' = w := by
  have h0 := h.c0
  clear h
  go_enter Try.func41, Try.ntmps41
  go_wp2_with fail
  go_ret
  exact ⟨rfl, rfl⟩

set_option maxHeartbeats 1000000 in
theorem head_k (o : Pl) (s : Sx) (k : Nat) (w : World) (h : Kx w o s) (hk : k ≤ 65536) :
    Calls Try.prog 46 #[o.ptr, .int .i64 (k : Int)] w fun e w' => e = .returned (.int .i64 ((s.n + k : Nat) : Int)) ∧ w' = w := by
  have h0 := h.c1
  have h1 := h.bd.1
  clear h
  go_enter Try.func46, Try.ntmps46
  go_wp2_with fail
  go_ret
  exact ⟨ret_int (by omega), rfl⟩

set_option maxHeartbeats 1000000 in
theorem ahead_k (o : Pl) (s : Sx) (a : Nat) (w : World) (h : Kx w o s) (ha : a < s.n + s.m) :
    Calls Try.prog 48 #[o.ptr, .int .i64 (a : Int)] w fun e w' => e = .returned (.int .i64 (s.ah a : Int)) ∧ w' = w := by
  have h0 := h.c2
  have h1 := h.l0 a ha
  clear h
  go_enter Try.func48, Try.ntmps48
  go_wp2_with fail
  go_ret
  exact ⟨rfl, rfl⟩

set_option maxHeartbeats 1000000 in
theorem behind_k (o : Pl) (s : Sx) (a : Nat) (w : World) (h : Kx w o s) (ha : a < s.n + s.m) :
    Calls Try.prog 40 #[o.ptr, .int .i64 (a : Int)] w fun e w' => e = .returned (.int .i64 (s.bh a : Int)) ∧ w' = w := by
  have h0 := h.c2
  have h1 := h.l1 a ha
  clear h
  go_enter Try.func40, Try.ntmps40
  go_wp2_with fail
  go_ret
  exact ⟨rfl, rfl⟩

set_option maxHeartbeats 1000000 in
theorem itself_k (a : Int) (w : World) :
    Calls Try.prog 49 #[.int .i64 a] w fun e w' => e = .returned (.int .i64 a) ∧ w' = w := by
  go_enter Try.func49, Try.ntmps49
  go_wp2_with fail
  go_ret
  exact ⟨rfl, rfl⟩

/-- a node that is in none -/
def Sx.free (s : Sx) (x : Nat) : Bool := s.ah x == 0 && s.bh x == 0 && s.bg x == 0

set_option maxHeartbeats 1000000 in
theorem out_k (o : Pl) (s : Sx) (a : Nat) (w : World) (h : Kx w o s) (ha : a < s.n + s.m) :
    Calls Try.prog 43 #[o.ptr, .int .i64 (a : Int)] w fun e w' => e = .returned (.bool (s.free a)) ∧ w' = w := by
  have h0 := h.c2
  have h1 := h.l0 a ha
  have h2 := h.l1 a ha
  have h3 := h.l2 a ha
  clear h
  go_enter Try.func43, Try.ntmps43
  go_wp2_with fail
  all_goals go_ret
  all_goals exact ⟨ret_bool (by simp [Sx.free, *]), rfl⟩

set_option maxHeartbeats 1000000 in
theorem hasNode_k (o : Pl) (s : Sx) (x : Int) (w : World) (h : Kx w o s) :
    Calls Try.prog 42 #[o.ptr, .int .i64 x] w fun e w' => e = .returned (.bool (inR s.n x)) ∧ w' = w := by
  have h0 := h.c1
  have HK : Hid (Kx w o s) := h
  clear h
  go_enter Try.func42, Try.ntmps42
  go_wp2_with fail
  refine (is_k o s _ HK.out).mono ?_
  rintro e w1 ⟨rfl, e1⟩
  subst e1
  go_wp2_with fail
  refine (kbelow_any x s.n _).mono ?_
  rintro e w2 ⟨rfl, e2⟩
  subst e2
  go_wp2_with fail
  go_ret
  exact ⟨rfl, rfl⟩

set_option maxHeartbeats 1000000 in
theorem hasList_k (o : Pl) (s : Sx) (x : Int) (w : World) (h : Kx w o s) :
    Calls Try.prog 45 #[o.ptr, .int .i64 x] w fun e w' => e = .returned (.bool (inR s.m x)) ∧ w' = w := by
  have h0 := h.c3
  have HK : Hid (Kx w o s) := h
  clear h
  go_enter Try.func45, Try.ntmps45
  go_wp2_with fail
  refine (is_k o s _ HK.out).mono ?_
  rintro e w1 ⟨rfl, e1⟩
  subst e1
  go_wp2_with fail
  refine (kbelow_any x s.m _).mono ?_
  rintro e w2 ⟨rfl, e2⟩
  subst e2
  go_wp2_with fail
  go_ret
  exact ⟨rfl, rfl⟩

/-- 0, or 5: there is no such list, or no such node -/
def mayE (n m : Nat) (i x : Int) : Int := if inR m i && inR n x then 0 else 5

set_option maxHeartbeats 1000000 in
theorem may_k (o : Pl) (s : Sx) (i x : Int) (w : World) (h : Kx w o s) :
    Calls Try.prog 50 #[o.ptr, .int .i64 i, .int .i64 x] w fun e w' => e = .returned (.int .i64 (mayE s.n s.m i x)) ∧ w' = w := by
  have HK : Hid (Kx w o s) := h
  clear h
  go_enter Try.func50, Try.ntmps50
  go_wp2_with fail
  refine (is_k o s _ HK.out).mono ?_
  rintro e w1 ⟨rfl, e1⟩
  subst e1
  go_wp2_with fail
  refine (hasList_k o s i _ HK.out).mono ?_
  rintro e w2 ⟨rfl, e2⟩
  subst e2
  cases hi : inR s.m i
  · go_wp2_with fail
    go_ret
    exact ⟨ret_int (by simp [mayE, hi]), rfl⟩
  · go_wp2_with fail
    refine (hasNode_k o s x _ HK.out).mono ?_
    rintro e w3 ⟨rfl, e3⟩
    subst e3
    cases hx : inR s.n x <;> (go_wp2_with fail; go_ret; exact ⟨ret_int (by simp [mayE, hi, hx]), rfl⟩)

/-- how many a list has -/
def lenI (s : Sx) (i : Int) : Int := if inR s.m i then (s.ls i.toNat : Int) else 0

set_option maxHeartbeats 1000000 in
theorem len_k (o : Pl) (s : Sx) (i : Int) (w : World) (h : Kx w o s) :
    Calls Try.prog 18 #[o.ptr, .int .i64 i] w fun e w' => e = .returned (.int .i64 (lenI s i)) ∧ w' = w := by
  have HK : Hid (Kx w o s) := h
  have h0 := h.c3
  clear h
  unfold lenI
  cases hi : inR s.m i
  · go_enter Try.func18, Try.ntmps18
    go_wp2_with fail
    refine (hasList_k o s i _ HK.out).mono ?_
    rintro e w2 ⟨rfl, e2⟩
    subst e2
    rw [hi]
    go_wp2_with fail
    go_ret
    exact ⟨rfl, rfl⟩
  · have hi' := hi
    obtain ⟨k, rfl, hk⟩ := inR_nat hi
    have h1 := HK.out.f1 k hk
    clear hi
    go_enter Try.func18, Try.ntmps18
    go_wp2_with fail
    refine (hasList_k o s k _ HK.out).mono ?_
    rintro e w2 ⟨rfl, e2⟩
    subst e2
    rw [hi']
    go_wp2_with fail
    go_ret
    exact ⟨rfl, rfl⟩

set_option maxHeartbeats 1000000 in
theorem empty_k (o : Pl) (s : Sx) (k : Nat) (w : World) (h : Kx w o s) (hk : k < s.m) :
    Calls Try.prog 29 #[o.ptr, .int .i64 (k : Int)] w fun e w' => e = .returned (.tuple #[]) ∧ Kx w' o (s.empty k) ∧ But o.has w w' := by
  have h0 := h.c3
  have h1 := h.f1 k hk
  have h2 := h.fz o.b2 (k * 2 + 1) (.inr (.inr (.inl rfl)))
  have h3 := h.bd.2
  have HK : Hid (Kx (w.setCell ⟨o.b2, k * 2 + 1, none⟩ (.int .i64 0)) o (s.size k 0)) := h.setLs hk 0
  have HB : Hid (But o.has w (w.setCell ⟨o.b2, k * 2 + 1, none⟩ (.int .i64 0))) := (But.refl _ w).setCell (.inr (.inr (.inl rfl))) _
  clear h
  go_enter Try.func29, Try.ntmps29
  go_wp2_with fail
  refine (head_k o (s.size k 0) k _ HK.out (by omega)).mono ?_
  rintro e w1 ⟨rfl, e1⟩
  subst e1
  go_wp2_with fail
  refine (head_k o (s.size k 0) k _ HK.out (by omega)).mono ?_
  rintro e w1 ⟨rfl, e1⟩
  subst e1
  go_wp2_with fail
  refine (join_k o (s.size k 0) (s.n + k) (s.n + k) _ HK.out (by show s.n + k < s.n + s.m; omega) (by show s.n + k < s.n + s.m; omega)).mono ?_
  rintro e w1 ⟨rfl, hk1, hb1⟩
  go_wp2_with fail
  refine bodyPost_end (results_none rfl _ _ _) rfl ?_
  exact ⟨rfl, hk1, HB.out.trans hb1⟩

set_option maxHeartbeats 1000000 in
theorem wear_k (o : Pl) (s : Sx) (k b : Nat) (w : World) (h : Kx w o s) (hk : k < s.m) (hb : b < s.m + 1) :
    Calls Try.prog 30 #[o.ptr, .int .i64 (k : Int), .int .i64 (b : Int)] w fun e w' => e = .returned (.tuple #[]) ∧ Kx w' o (s.wear k b) ∧ But o.has w w' := by
  have H : Hid (Kx w o s) := h
  have H1 := (H.out.setLb hk b).setOw (a := b) hb k
  have h2 := h.c3
  have h3 := h.f0 k hk
  have h4 := h.fz o.b2 (k * 2) (.inr (.inr (.inl rfl)))
  have h5 := (H.out.setLb hk b).c4
  have h6 := (H.out.setLb hk b).w0 b hb
  have h7 := (H.out.setLb hk b).fz o.b3 b (.inr (.inr (.inr rfl)))
  have HK : Hid (Kx _ o (s.wear k b)) := H1
  clear h H1
  go_enter Try.func30, Try.ntmps30
  go_wp2_with fail
  refine bodyPost_end (results_none rfl _ _ _) rfl ?_
  exact ⟨rfl, HK.out, ((But.refl _ w).setCell (.inr (.inr (.inl rfl))) _).setCell (.inr (.inr (.inr rfl))) _⟩

end Go.Proofs.Ytiaacjollcccaaa
