/- The small functions of an agenda's row. -/
import Derived.Test.YtafcgbahdfaiiaaEMem
import Derived.Lib.QuietBelow
import Derived.BigRegion
import Derived.Deep.RegionHeld3
namespace Go.Proofs.Ytafcgbahdfaiiaa
open Go.RowKit Go.Sort
set_option maxRecDepth 100000

set_option maxHeartbeats 1000000 in
theorem ehas (o : Ro) (A : Ar) (p : Int) (w : World) (x : Rx w o A) :
    Calls Try.prog 51 #[ptr o.r, .int .i64 p] w fun e w' => e = .returned (.bool (decide (p < (A.n : Int)))) ∧ w' = w := by
  obtain ⟨a, cap, hv, _⟩ := x.sl
  have h1 := x.rb.cell (i := 1) rfl
  rw [hv] at h1
  clear x hv
  go_enter Try.func51, Try.ntmps51
  go_wp2_with fail
  go_ret
  exact ⟨rfl, rfl⟩

set_option maxHeartbeats 1000000 in
theorem elen (o : Ro) (A : Ar) (w : World) (x : Rx w o A) :
    Calls Try.prog 32 #[ptr o.r] w fun e w' => e = .returned (.int .i64 (A.n : Int)) ∧ w' = w := by
  obtain ⟨a, cap, hv, _⟩ := x.sl
  have h1 := x.rb.cell (i := 1) rfl
  rw [hv] at h1
  clear x hv
  go_enter Try.func32, Try.ntmps32
  go_wp2_with fail
  go_ret
  exact ⟨rfl, rfl⟩

set_option maxHeartbeats 1000000 in
theorem efirst (o : Ro) (A : Ar) (w : World) (x : Rx w o A) (h0 : 0 < A.n) :
    Calls Try.prog 34 #[ptr o.r] w fun e w' => e = .returned (ptr (o.bl (A.f 0).n)) ∧ w' = w := by
  obtain ⟨g, cap, hv, _⟩ := x.sl1 h0
  have h1 := x.rb.cell (i := 1) rfl
  rw [hv] at h1
  have h2 := x.pt hv h0
  clear x hv
  go_enter Try.func34, Try.ntmps34
  go_wp2_with fail
  go_ret
  exact ⟨rfl, rfl⟩

set_option maxHeartbeats 2000000 in
theorem eless (g : Nat) (cs : Array Value) (J : Nat → World → Prop) (c : Nat) (X : Nat → Prop) (Ord : Prop) (L : Ls g cs J X Ord) (o : Ro) (A : Ar) (i j : Nat) (hi : i < A.n) (hj : j < A.n) (w : World) (x : Rx w o A) (hJ : J (c + 1) w) (hlv : o.lv = .func (.func g) #[] cs) (hX : ∀ b, X b → ¬ o.has A b) :
    Calls Try.prog 73 #[ptr o.r, .int .i64 (i : Int), .int .i64 (j : Int)] w fun e w' => ∃ t : Bool, e = .returned (.bool t) ∧ (Ord → t = befB (A.f i) (A.f j)) ∧ But X w w' ∧ J c w' := by
  obtain ⟨b, cap, hv, _⟩ := x.sl1 (by omega)
  have h0 := x.rb.cell (i := 0) rfl
  have h1 := x.rb.cell (i := 1) rfl
  rw [hv] at h1
  rw [hlv] at h0
  have p1 := x.pt hv hi
  have p2 := x.pt hv hj
  have a0 := (x.en i hi).cell (i := 0) rfl
  have a1 := (x.en i hi).cell (i := 1) rfl
  have a2 := (x.en i hi).cell (i := 2) rfl
  have b0 := (x.en j hj).cell (i := 0) rfl
  have b1 := (x.en j hj).cell (i := 1) rfl
  have b2 := (x.en j hj).cell (i := 2) rfl
  have c1 := ehas o A i w x
  have c2 := ehas o A j w x
  rw [show decide ((i : Int) < (A.n : Int)) = true by simpa using hi] at c1
  rw [show decide ((j : Int) < (A.n : Int)) = true by simpa using hj] at c2
  have en := L.en
  have hJ3 : J (c + 1) w.drew.drew.drew := L.st _ _ _ hJ (((But.refl _ w).drew).drew).drew
  have l1 : Calls Try.prog g (#[thV (A.f i).k (A.f i).m, thV (A.f j).k (A.f j).m] ++ cs) w.drew.drew.drew fun e W' => ∃ t : Bool, e = .returned (.bool t) ∧ (Ord → t = decide ((A.f i).k < (A.f j).k)) ∧ But X w W' ∧ J c W' := (L.call c w.drew.drew.drew (A.f i).k (A.f i).m (A.f j).k (A.f j).m hJ3).mono fun _ W' ⟨t, h1, h2, h3, h4⟩ => ⟨t, h1, h2, (((But.refl _ w).drew).drew).drew.trans h3, h4⟩
  have l2 : Calls Try.prog g (#[thV (A.f j).k (A.f j).m, thV (A.f i).k (A.f i).m] ++ cs) w.drew.drew.drew fun e W' => ∃ t : Bool, e = .returned (.bool t) ∧ (Ord → t = decide ((A.f j).k < (A.f i).k)) ∧ But X w W' ∧ J c W' := (L.call c w.drew.drew.drew (A.f j).k (A.f j).m (A.f i).k (A.f i).m hJ3).mono fun _ W' ⟨t, h1, h2, h3, h4⟩ => ⟨t, h1, h2, (((But.refl _ w).drew).drew).drew.trans h3, h4⟩
  have toS : ∀ W, But X w W → W.cell? ⟨o.r, 0, none⟩ = some (.func (.func g) #[] cs) ∧ W.cell? ⟨o.bl (A.f i).n, 0, none⟩ = some (.int .i8 (A.f i).k) ∧ W.cell? ⟨o.bl (A.f i).n, 1, none⟩ = some (.int .i64 (A.f i).m) ∧ W.cell? ⟨o.bl (A.f j).n, 0, none⟩ = some (.int .i8 (A.f j).k) ∧ W.cell? ⟨o.bl (A.f j).n, 1, none⟩ = some (.int .i64 (A.f j).m) := fun W h =>
    ⟨h.cell h0 (fun h' => hX _ h' (.inl rfl)), h.cell a0 (fun h' => hX _ h' (.inr (.inr (.inr ⟨i, hi, rfl⟩)))), h.cell a1 (fun h' => hX _ h' (.inr (.inr (.inr ⟨i, hi, rfl⟩)))), h.cell b0 (fun h' => hX _ h' (.inr (.inr (.inr ⟨j, hj, rfl⟩)))), h.cell b1 (fun h' => hX _ h' (.inr (.inr (.inr ⟨j, hj, rfl⟩))))⟩
  have E : Hid (befB (A.f i) (A.f j) = if (A.f i).n < (A.f j).n then !decide ((A.f j).k < (A.f i).k) else decide ((A.f i).k < (A.f j).k)) := rfl
  clear x hv hlv
  generalize befB (A.f i) (A.f j) = bt at *
  generalize o.bl (A.f i).n = bi at *
  generalize o.bl (A.f j).n = bj at *
  generalize A.f i = ei at *
  generalize A.f j = ej at *
  obtain ⟨ki, mi, ni⟩ := ei
  obtain ⟨kj, mj, nj⟩ := ej
  simp only at a0 a1 a2 b0 b1 b2 l1 l2 E toS
  go_enter Try.func73, Try.ntmps73
  go_wp2_with fail
  refine c1.mono ?_
  rintro e w' ⟨rfl, hw'⟩
  subst hw'
  go_wp2_with fail
  refine c2.mono ?_
  rintro e w' ⟨rfl, hw'⟩
  subst hw'
  clear c1 c2
  by_cases hn : ni < nj
  · have E' := E.out
    rw [if_pos hn] at E'
    clear E hJ hJ3
    go_wp2_with fail
    go_region
    go_wp2_with fail
    go_region
    go_wp2_with fail
    go_region_held3 (fun W => W.cell? ⟨o.r, 0, none⟩ = some (.func (.func g) #[] cs) ∧ W.cell? ⟨bi, 0, none⟩ = some (.int .i8 ki) ∧ W.cell? ⟨bi, 1, none⟩ = some (.int .i64 mi) ∧ W.cell? ⟨bj, 0, none⟩ = some (.int .i8 kj) ∧ W.cell? ⟨bj, 1, none⟩ = some (.int .i64 mj)) (first | assumption | exact toS _ (by assumption) | exact toS _ ((But.refl _ _).drew.drew.drew)) (first | ((with_reducible refine l2.mono ?_); rintro v w5 ⟨t, rfl, ht, hb5, hJ5⟩))
    go_wp2_with fail
    go_ret
    exact ⟨_, rfl, fun h => by rw [ht h, E'], hb5, hJ5⟩
  · have E' := E.out
    rw [if_neg hn] at E'
    clear E hJ hJ3
    go_wp2_with fail
    go_region
    go_wp2_with fail
    go_region
    go_wp2_with fail
    go_region_held3 (fun W => W.cell? ⟨o.r, 0, none⟩ = some (.func (.func g) #[] cs) ∧ W.cell? ⟨bi, 0, none⟩ = some (.int .i8 ki) ∧ W.cell? ⟨bi, 1, none⟩ = some (.int .i64 mi) ∧ W.cell? ⟨bj, 0, none⟩ = some (.int .i8 kj) ∧ W.cell? ⟨bj, 1, none⟩ = some (.int .i64 mj)) (first | assumption | exact toS _ (by assumption) | exact toS _ ((But.refl _ _).drew.drew.drew)) (first | ((with_reducible refine l1.mono ?_); rintro v w5 ⟨t, rfl, ht, hb5, hJ5⟩))
    go_wp2_with fail
    go_ret
    exact ⟨_, rfl, fun h => by rw [ht h, E'], hb5, hJ5⟩
end Go.Proofs.Ytafcgbahdfaiiaa
