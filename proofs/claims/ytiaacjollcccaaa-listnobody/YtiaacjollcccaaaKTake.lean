/- Take: all nodes of a list go behind those of another one. -/
import Derived.Test.YtiaacjollcccaaaKShare
import Derived.BigRegion
namespace Go.Proofs.Ytiaacjollcccaaa
open Go.RowKit

def takeE (m : Nat) (i j : Int) : Int := if inR m i && inR m j then 0 else 5
def takeR (m : Nat) (R : Nat → List Nat) (i j : Int) : Nat → List Nat :=
  if inR m i && inR m j && !decide (i = j) then upd (upd R i.toNat (R i.toNat ++ R j.toNat)) j.toNat [] else R
theorem takeR_nil {R : Nat → List Nat} {t f : Nat} (h : R f = []) : upd (upd R t (R t ++ R f)) f [] = R := by
  rw [h, List.append_nil]
  funext j
  by_cases h1 : j = f
  · subst h1; rw [upd_at, h]
  · rw [upd_ne h1]
    by_cases h2 : j = t
    · subst h2; rw [upd_at]
    · rw [upd_ne h2]

set_option maxHeartbeats 1000000 in
theorem take_long (o : Pl) (s : Sx) (R : Nat → List Nat) (t f : Nat) (w : World) (h : Kx w o s) (hi : Inv s R) (ht : t < s.m) (hf : f < s.m) (hne : t ≠ f) (hnil : R f ≠ []) :
    Calls Try.prog 25 #[o.ptr, .int .i64 (t : Int), .int .i64 (f : Int)] w fun e w' => e = .returned (.int .i64 0) ∧ Kv w' o s.n s.m (upd (upd R t (R t ++ R f)) f []) ∧ But o.has w w' := by
  have it : inR s.m (t : Int) = true := inR_iff.2 (by omega)
  have jf : inR s.m (f : Int) = true := inR_iff.2 (by omega)
  have h1 := is_k o s w h
  have h2 := hasList_k o s (t : Int) w h
  have h3 := hasList_k o s (f : Int) w h
  have h4 := len_k o s (f : Int) w h
  have hpos : 0 < s.ls f := by rw [hi.ls f hf]; exact List.length_pos_iff.2 hnil
  rw [it] at h2
  rw [jf] at h3
  rw [show lenI s (f : Int) = (s.ls f : Int) by simp [lenI, jf]] at h4
  have h5 := share_k o s R t f w h hi ht hf hne
  have hneI : ((t : Int) == (f : Int)) = false := by simp; omega
  have hne0 : ((s.ls f : Int) == 0) = false := by simp; omega
  obtain ⟨i0, ib1, ib2⟩ := hi.share ht hf hne
  have sn : (s.share R t f).n = s.n := by unfold Sx.share; split <;> rfl
  have sm : (s.share R t f).m = s.m := by unfold Sx.share; split <;> rfl
  have HI2 : Hid (Inv ((s.share R t f).splice t f) (upd (upd R t (R t ++ R f)) f [])) := i0.splice (by omega) (by omega) hne hnil (fun k hk => ib1 k (by omega)) ib2
  have hd := h.bd
  have m1 := i0.mem (k := t) (by omega) (.inr rfl)
  have m2 := i0.mem (k := f) (by omega) (.inr rfl)
  have z1 := i0.size (k := t) (by omega)
  have z2 := i0.size (k := f) (by omega)
  clear h hi it jf i0 ib1 ib2
  generalize s.share R t f = s2 at *
  have HS : Hid (s2.n = s.n ∧ s2.m = s.m) := ⟨sn, sm⟩
  have ht2 : t < s2.m := by omega
  have hf2 : f < s2.m := by omega
  have hn2 : s2.n ≤ 65536 := by omega
  have hm2 : s2.m ≤ 65536 := by omega
  clear sn sm
  go_enter Try.func25, Try.ntmps25
  go_wp2_with fail
  refine h1.mono ?_
  rintro e w1 ⟨rfl, e1⟩
  subst e1
  go_wp2_with fail
  refine h2.mono ?_
  rintro e w1 ⟨rfl, e1⟩
  subst e1
  go_wp2_with fail
  refine h3.mono ?_
  rintro e w1 ⟨rfl, e1⟩
  subst e1
  go_wp2_with fail
  refine h4.mono ?_
  rintro e w1 ⟨rfl, e1⟩
  subst e1
  go_wp2_with fail
  refine h5.mono ?_
  rintro e w2 ⟨rfl, hk2, hb2⟩
  have HK2 : Hid (Kx w2 o s2) := hk2
  have HB2 : Hid (But o.has w1 w2) := hb2
  clear hk2 hb2 h1 h2 h3 h4 h5
  have q1 := head_k o s2 f w2 HK2.out (by omega)
  have q2 := behind_k o s2 (s2.n + f) w2 HK2.out (by omega)
  have q3 := ahead_k o s2 (s2.n + f) w2 HK2.out (by omega)
  have q4 := head_k o s2 t w2 HK2.out (by omega)
  have q5 := ahead_k o s2 (s2.n + t) w2 HK2.out (by omega)
  have q6 := join_k o s2 (s2.ah (s2.n + t)) (s2.bh (s2.n + f)) w2 HK2.out m1.1 m2.2
  go_wp2_with fail
  refine q1.mono ?_
  rintro e w3 ⟨rfl, e1⟩
  subst e1
  go_wp2_with fail
  refine q2.mono ?_
  rintro e w3 ⟨rfl, e1⟩
  subst e1
  go_wp2_with fail
  refine q1.mono ?_
  rintro e w3 ⟨rfl, e1⟩
  subst e1
  go_wp2_with fail
  refine q3.mono ?_
  rintro e w3 ⟨rfl, e1⟩
  subst e1
  go_wp2_with fail
  refine q4.mono ?_
  rintro e w3 ⟨rfl, e1⟩
  subst e1
  go_wp2_with fail
  refine q5.mono ?_
  rintro e w3 ⟨rfl, e1⟩
  subst e1
  go_wp2_with fail
  refine q6.mono ?_
  rintro e w4 ⟨rfl, hk4, hb4⟩
  have HK4 : Hid (Kx w4 o _) := hk4
  have HB4 : Hid (But o.has w1 w4) := HB2.out.trans hb4
  clear hk4 hb4 q1 q2 q3 q4 q5 q6 HK2 HB2
  have q7 := head_k o _ t w4 HK4.out (by omega)
  have q8 := join_k o _ (s2.ah (s2.n + f)) (s2.n + t) w4 HK4.out m2.1 (by show s2.n + t < s2.n + s2.m; omega)
  go_wp2_with fail
  refine q7.mono ?_
  rintro e w5 ⟨rfl, e1⟩
  subst e1
  go_wp2_with fail
  refine q8.mono ?_
  rintro e w6 ⟨rfl, hk6, hb6⟩
  have HK6 : Hid (Kx w6 o _) := hk6
  have HB6 : Hid (But o.has w1 w6) := HB4.out.trans hb6
  clear hk6 hb6 q7 q8 HK4 HB4
  have c3 : w6.cell? ⟨o.p, 3, none⟩ = some (.slice (some ⟨o.b2, 0, none⟩) s2.m s2.m) := HK6.out.c3
  have c4 : w6.cell? ⟨o.b2, t * 2 + 1, none⟩ = some (.int .i64 (s2.ls t : Int)) := HK6.out.f1 t (by show t < s2.m; omega)
  have c5 : w6.cell? ⟨o.b2, f * 2 + 1, none⟩ = some (.int .i64 (s2.ls f : Int)) := HK6.out.f1 f (by show f < s2.m; omega)
  have c6 := HK6.out.fz o.b2 (t * 2 + 1) (.inr (.inr (.inl rfl)))
  have i1 : (t : Int) < (s2.m : Int) := by omega
  have i2 : (f : Int) < (s2.m : Int) := by omega
  have HE : Hid (Kx (w6.setCell ⟨o.b2, t * 2 + 1, none⟩ (.int .i64 ((s2.ls t + s2.ls f : Nat) : Int))) o _) := HK6.out.setLs (a := t) (by show t < s2.m; omega) (s2.ls t + s2.ls f)
  rw [show ((s2.ls t + s2.ls f : Nat) : Int) = (s2.ls t : Int) + (s2.ls f : Int) by omega] at HE
  go_wp2_with fail
  go_region
  have HE2 : Hid (Kx (w6.setCell ⟨o.b2, t * 2 + 1, none⟩ (.int .i64 ((s2.ls t : Int) + (s2.ls f : Int)))).drew o _) := HE.out.drew
  have HB7 : Hid (But o.has w1 (w6.setCell ⟨o.b2, t * 2 + 1, none⟩ (.int .i64 ((s2.ls t : Int) + (s2.ls f : Int)))).drew) := (HB6.out.setCell (.inr (.inr (.inl rfl))) _).drew
  clear c3 c4 c5 c6 HE HK6 HB6
  generalize (w6.setCell ⟨o.b2, t * 2 + 1, none⟩ (.int .i64 ((s2.ls t : Int) + (s2.ls f : Int)))).drew = w7 at *
  have q9 := empty_k o _ f w7 HE2.out (by show f < s2.m; omega)
  go_wp2_with fail
  refine q9.mono ?_
  rintro e w8 ⟨rfl, hk8, hb8⟩
  go_wp2_with fail
  go_ret
  exact ⟨rfl, ⟨s2.splice t f, HS.out.1, HS.out.2, hk8, HI2.out⟩, HB7.out.trans hb8⟩

set_option maxHeartbeats 1000000 in
theorem take_k (o : Pl) (n m : Nat) (R : Nat → List Nat) (i j : Int) (w : World) (h : Kv w o n m R) :
    Calls Try.prog 25 #[o.ptr, .int .i64 i, .int .i64 j] w fun e w' => e = .returned (.int .i64 (takeE m i j)) ∧ Kv w' o n m (takeR m R i j) ∧ But o.has w w' := by
  obtain ⟨s, rfl, rfl, hk, hi⟩ := h
  have HK : Hid (Kx w o s) := hk
  have HI : Hid (Inv s R) := hi
  have h1 := is_k o s w hk
  have h2 := hasList_k o s i w hk
  have h3 := hasList_k o s j w hk
  have h4 := len_k o s j w hk
  clear hk hi
  cases hr1 : inR s.m i
  · have hE : takeE s.m i j = 5 := by simp [takeE, hr1]
    have hR : takeR s.m R i j = R := by simp [takeR, hr1]
    rw [hr1] at h2
    rw [hE, hR]
    go_enter Try.func25, Try.ntmps25
    go_wp2_with fail
    refine h1.mono ?_
    rintro e w1 ⟨rfl, e1⟩
    subst e1
    go_wp2_with fail
    refine h2.mono ?_
    rintro e w1 ⟨rfl, e1⟩
    subst e1
    go_wp2_with fail
    go_ret
    exact ⟨rfl, ⟨_, rfl, rfl, HK.out, HI.out⟩, But.refl _ _⟩
  · cases hr2 : inR s.m j
    · have hE : takeE s.m i j = 5 := by simp [takeE, hr2]
      have hR : takeR s.m R i j = R := by simp [takeR, hr2]
      rw [hr1] at h2
      rw [hr2] at h3
      rw [hE, hR]
      go_enter Try.func25, Try.ntmps25
      go_wp2_with fail
      refine h1.mono ?_
      rintro e w1 ⟨rfl, e1⟩
      subst e1
      go_wp2_with fail
      refine h2.mono ?_
      rintro e w1 ⟨rfl, e1⟩
      subst e1
      go_wp2_with fail
      refine h3.mono ?_
      rintro e w1 ⟨rfl, e1⟩
      subst e1
      go_wp2_with fail
      go_ret
      exact ⟨rfl, ⟨_, rfl, rfl, HK.out, HI.out⟩, But.refl _ _⟩
    · have hE : takeE s.m i j = 0 := by simp [takeE, hr1, hr2]
      have hr1' := hr1
      have hr2' := hr2
      rw [hr1] at h2
      rw [hr2] at h3
      obtain ⟨t, rfl, ht⟩ := inR_nat hr1
      obtain ⟨f, rfl, hf⟩ := inR_nat hr2
      rw [show lenI s (f : Int) = (s.ls f : Int) by simp [lenI, hr2']] at h4
      rw [hE]
      by_cases htf : t = f
      · subst htf
        have hR : takeR s.m R t t = R := by simp [takeR]
        rw [hR]
        go_enter Try.func25, Try.ntmps25
        go_wp2_with fail
        refine h1.mono ?_
        rintro e w1 ⟨rfl, e1⟩
        subst e1
        go_wp2_with fail
        refine h2.mono ?_
        rintro e w1 ⟨rfl, e1⟩
        subst e1
        go_wp2_with fail
        refine h3.mono ?_
        rintro e w1 ⟨rfl, e1⟩
        subst e1
        go_wp2_with fail
        go_ret
        exact ⟨rfl, ⟨_, rfl, rfl, HK.out, HI.out⟩, But.refl _ _⟩
      · have hR : takeR s.m R t f = upd (upd R t (R t ++ R f)) f [] := by
          have : ¬ (t : Int) = (f : Int) := by omega
          simp [takeR, hr1', hr2', this]
        rw [hR]
        by_cases hnil : R f = []
        · rw [takeR_nil hnil]
          have hz : (s.ls f : Int) = 0 := by rw [HI.out.ls f hf, hnil]; rfl
          have hneI : ¬ (t : Int) = (f : Int) := by omega
          rw [hz] at h4
          go_enter Try.func25, Try.ntmps25
          go_wp2_with fail
          refine h1.mono ?_
          rintro e w1 ⟨rfl, e1⟩
          subst e1
          go_wp2_with fail
          refine h2.mono ?_
          rintro e w1 ⟨rfl, e1⟩
          subst e1
          go_wp2_with fail
          refine h3.mono ?_
          rintro e w1 ⟨rfl, e1⟩
          subst e1
          go_wp2_with fail
          refine h4.mono ?_
          rintro e w1 ⟨rfl, e1⟩
          subst e1
          go_wp2_with fail
          go_ret
          exact ⟨rfl, ⟨_, rfl, rfl, HK.out, HI.out⟩, But.refl _ _⟩
        · exact take_long o s R t f w HK.out HI.out ht hf htf hnil

end Go.Proofs.Ytiaacjollcccaaa
