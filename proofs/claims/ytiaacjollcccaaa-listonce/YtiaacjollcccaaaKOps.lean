/- Push, PushFront, Pop, Drop, Move, Of, Len. -/
import Derived.Test.YtiaacjollcccaaaKActs
namespace Go.Proofs.Ytiaacjollcccaaa
open Go.RowKit

theorem kv_of {w : World} {o : Pl} {n m : Nat} {R : Nat → List Nat} {s : Sx} (hk : Kx w o s) (hi : Inv s R) (en : s.n = n) (em : s.m = m) : Kv w o n m R := ⟨s, en, em, hk, hi⟩

set_option maxHeartbeats 2000000 in
theorem push_k (o : Pl) (n m : Nat) (R : Nat → List Nat) (i x : Int) (w : World) (h : Kv w o n m R) :
    Calls Try.prog 22 #[o.ptr, .int .i64 i, .int .i64 x] w fun e w' => e = .returned (.int .i64 (pushE n m R i x)) ∧ Kv w' o n m (pushR n m R false i x) ∧ But o.has w w' := by
  obtain ⟨s, rfl, rfl, hk, hi⟩ := h
  by_cases hr : (inR s.m i && inR s.n x) = true
  · rw [Bool.and_eq_true] at hr
    obtain ⟨k, rfl, hkm⟩ := inR_nat hr.1
    obtain ⟨y, rfl, hyn⟩ := inR_nat hr.2
    cases hw : whr R s.m y with
    | none =>
      have hE : pushE s.n s.m R k y = 0 := by simp [pushE, hr.1, hr.2, hw]
      have hf : s.free y = true := by rw [hi.free hyn, hw]; rfl
      have ha := hi.toInv0.mem hkm (.inr rfl)
      have hlast := (hi.ring k hkm).last
      have hb : s.bh (s.ah (s.n + k)) < s.n + s.m := by
        have := lst_mem (s.n + k) (R k)
        rw [← hlast] at this
        exact (hi.toInv0.mem hkm (by rcases List.mem_cons.1 this with e | e; exact .inr e; exact .inl e)).2
      have hs := hi.toInv0.size hkm
      have hI : Inv (s.enter k y (s.ah (s.n + k))) (pushR s.n s.m R false k y) := by
        have := hi.enter (l1 := R k) (l2 := []) hkm hyn (whr_none hw) (by simp) hlast
        simpa [pushR, hE] using this
      rw [hE]
      have hd := hk.bd
      have HK : Hid (Kx w o s) := hk
      clear hk
      go_enter Try.func22, Try.ntmps22
      go_wp2_with fail
      refine (enterLast_k o s k y _ HK.out hkm hyn hf ha.1 hb (by omega)).mono ?_
      rintro e w1 ⟨rfl, hk1, hb1⟩
      go_wp2_with fail
      go_ret
      exact ⟨rfl, kv_of hk1 hI rfl rfl, hb1⟩
    | some j =>
      have hE : pushE s.n s.m R k y = 50 := by simp [pushE, hr.1, hr.2, hw]
      have hf : s.free y = false := by rw [hi.free hyn, hw]; rfl
      have hR : pushR s.n s.m R false k y = R := by simp [pushR, hE]
      rw [hE, hR]
      have HK : Hid (Kx w o s) := hk
      clear hk
      go_enter Try.func22, Try.ntmps22
      go_wp2_with fail
      refine (enter_in o s k y _ _ HK.out hkm hyn hf).mono ?_
      rintro e w1 ⟨rfl, e1⟩
      subst e1
      go_wp2_with fail
      go_ret
      exact ⟨rfl, ⟨_, rfl, rfl, HK.out, hi⟩, But.refl _ _⟩
  · have hE : pushE s.n s.m R i x = 5 := by simp [pushE, hr]
    have hR : pushR s.n s.m R false i x = R := by simp [pushR, hE]
    have hm : mayE s.n s.m i x = 5 := by simp [mayE, hr]
    rw [hE, hR]
    have HK : Hid (Kx w o s) := hk
    clear hk hr
    go_enter Try.func22, Try.ntmps22
    go_wp2_with fail
    refine (enter_bad o s i x _ _ HK.out hm).mono ?_
    rintro e w1 ⟨rfl, e1⟩
    subst e1
    go_wp2_with fail
    go_ret
    exact ⟨rfl, ⟨_, rfl, rfl, HK.out, hi⟩, But.refl _ _⟩

set_option maxHeartbeats 2000000 in
theorem pushFront_k (o : Pl) (n m : Nat) (R : Nat → List Nat) (i x : Int) (w : World) (h : Kv w o n m R) :
    Calls Try.prog 23 #[o.ptr, .int .i64 i, .int .i64 x] w fun e w' => e = .returned (.int .i64 (pushE n m R i x)) ∧ Kv w' o n m (pushR n m R true i x) ∧ But o.has w w' := by
  obtain ⟨s, rfl, rfl, hk, hi⟩ := h
  by_cases hr : (inR s.m i && inR s.n x) = true
  · rw [Bool.and_eq_true] at hr
    obtain ⟨k, rfl, hkm⟩ := inR_nat hr.1
    obtain ⟨y, rfl, hyn⟩ := inR_nat hr.2
    cases hw : whr R s.m y with
    | none =>
      have hE : pushE s.n s.m R k y = 0 := by simp [pushE, hr.1, hr.2, hw]
      have hf : s.free y = true := by rw [hi.free hyn, hw]; rfl
      have ha := hi.toInv0.mem hkm (.inr rfl)
      have hs := hi.toInv0.size hkm
      have hI : Inv (s.enter k y (s.n + k)) (pushR s.n s.m R true k y) := by
        have := hi.enter (l1 := []) (l2 := R k) hkm hyn (whr_none hw) (by simp) rfl
        simpa [pushR, hE, lst] using this
      rw [hE]
      have hd := hk.bd
      have HK : Hid (Kx w o s) := hk
      clear hk
      go_enter Try.func23, Try.ntmps23
      go_wp2_with fail
      refine (enterFirst_k o s k y _ HK.out hkm hyn hf ha.2 (by omega)).mono ?_
      rintro e w1 ⟨rfl, hk1, hb1⟩
      go_wp2_with fail
      go_ret
      exact ⟨rfl, kv_of hk1 hI rfl rfl, hb1⟩
    | some j =>
      have hE : pushE s.n s.m R k y = 50 := by simp [pushE, hr.1, hr.2, hw]
      have hf : s.free y = false := by rw [hi.free hyn, hw]; rfl
      have hR : pushR s.n s.m R true k y = R := by simp [pushR, hE]
      rw [hE, hR]
      have HK : Hid (Kx w o s) := hk
      clear hk
      go_enter Try.func23, Try.ntmps23
      go_wp2_with fail
      refine (enter_in o s k y _ _ HK.out hkm hyn hf).mono ?_
      rintro e w1 ⟨rfl, e1⟩
      subst e1
      go_wp2_with fail
      go_ret
      exact ⟨rfl, ⟨_, rfl, rfl, HK.out, hi⟩, But.refl _ _⟩
  · have hE : pushE s.n s.m R i x = 5 := by simp [pushE, hr]
    have hR : pushR s.n s.m R true i x = R := by simp [pushR, hE]
    have hm : mayE s.n s.m i x = 5 := by simp [mayE, hr]
    rw [hE, hR]
    have HK : Hid (Kx w o s) := hk
    clear hk hr
    go_enter Try.func23, Try.ntmps23
    go_wp2_with fail
    refine (enter_bad o s i x _ _ HK.out hm).mono ?_
    rintro e w1 ⟨rfl, e1⟩
    subst e1
    go_wp2_with fail
    go_ret
    exact ⟨rfl, ⟨_, rfl, rfl, HK.out, hi⟩, But.refl _ _⟩

theorem lenI_lenR {s : Sx} {R : Nat → List Nat} (hi : Inv s R) (i : Int) : lenI s i = lenR s.m R i := by
  unfold lenI lenR
  cases hh : inR s.m i
  · rfl
  · obtain ⟨k, rfl, hk⟩ := inR_nat hh
    simp [hi.ls k hk]
theorem klen_k (o : Pl) (n m : Nat) (R : Nat → List Nat) (i : Int) (w : World) (h : Kv w o n m R) :
    Calls Try.prog 18 #[o.ptr, .int .i64 i] w fun e w' => e = .returned (.int .i64 (lenR m R i)) ∧ w' = w := by
  obtain ⟨s, rfl, rfl, hk, hi⟩ := h
  rw [← lenI_lenR hi]
  exact len_k o s i w hk

set_option maxHeartbeats 2000000 in
theorem pop_k (o : Pl) (n m : Nat) (R : Nat → List Nat) (i : Int) (w : World) (h : Kv w o n m R) :
    Calls Try.prog 21 #[o.ptr, .int .i64 i] w fun e w' => e = .returned (.tuple #[.int .i64 (popI m R i), .bool (popB m R i)]) ∧ Kv w' o n m (popR m R i) ∧ But o.has w w' := by
  have hl := klen_k o n m R i w h
  obtain ⟨s, rfl, rfl, hk, hi⟩ := h
  have HK : Hid (Kx w o s) := hk
  have hd := hk.bd
  clear hk
  cases hp : popB s.m R i
  · have h0 : lenR s.m R i = 0 := by
      unfold popB at hp; unfold lenR
      cases hh : inR s.m i
      · rfl
      · rw [hh] at hp; simp at hp; simp [hp]
    have hI : popI s.m R i = 0 := by simp [popI, hp]
    have hR : popR s.m R i = R := by simp [popR, hp]
    rw [h0] at hl
    rw [hI, hR]
    go_enter Try.func21, Try.ntmps21
    go_wp2_with fail
    refine hl.mono ?_
    rintro e w1 ⟨rfl, e1⟩
    subst e1
    go_wp2_with fail
    go_ret2
    exact ⟨rfl, ⟨_, rfl, rfl, HK.out, hi⟩, But.refl _ _⟩
  · have hp' := hp
    unfold popB at hp'
    rw [Bool.and_eq_true] at hp'
    obtain ⟨k, rfl, hkm⟩ := inR_nat hp'.1
    obtain ⟨x, l, e⟩ : ∃ x l, R k = x :: l := by
      cases hh : R k with
      | nil => rw [show ((k : Int)).toNat = k by omega, hh] at hp'; simp at hp'
      | cons x l => exact ⟨x, l, rfl⟩
    have hx : x ∈ R k := by rw [e]; simp
    have h0 : lenR s.m R k = ((l.length : Int) + 1) := by simp [lenR, hp'.1, e]
    have hI : popI s.m R k = (x : Int) := by simp [popI, hp, e]
    have hR : popR s.m R k = upd R k l := by simp [popR, hp, e]
    have hfirst : s.bh (s.n + k) = x := by rw [(hi.ring k hkm).first, e]; rfl
    obtain ⟨⟨q1, q2⟩, q3, q4, q5⟩ := hi.leaves hkm hx
    have hxn := hi.rng k hkm x hx
    have hL : Inv (s.leave x) (upd R k l) := hi.leave (l1 := []) (l2 := l) hkm e
    have hne : ((l.length : Int) + 1 == 0) = false := by simp; omega
    rw [h0] at hl
    rw [hI, hR]
    go_enter Try.func21, Try.ntmps21
    go_wp2_with fail
    refine hl.mono ?_
    rintro e w1 ⟨rfl, e1⟩
    subst e1
    go_wp2_with fail
    refine (head_k o s k _ HK.out (by omega)).mono ?_
    rintro e w1 ⟨rfl, e1⟩
    subst e1
    go_wp2_with fail
    refine (behind_k o s (s.n + k) _ HK.out (by omega)).mono ?_
    rintro e w1 ⟨rfl, e1⟩
    subst e1
    rw [hfirst]
    go_wp2_with fail
    refine (leave_k o s x _ HK.out (by omega) q1 q2 q3 q4 ⟨q5.1, by omega⟩).mono ?_
    rintro e w2 ⟨rfl, hk2, hb2⟩
    go_wp2_with fail
    go_ret2
    exact ⟨rfl, kv_of hk2 hL rfl rfl, hb2⟩

set_option maxHeartbeats 2000000 in
theorem drop_k (o : Pl) (n m : Nat) (R : Nat → List Nat) (x : Int) (w : World) (h : Kv w o n m R) :
    Calls Try.prog 16 #[o.ptr, .int .i64 x] w fun e w' => e = .returned (.int .i64 (dropE n m R x)) ∧ Kv w' o n m (dropR n m R x) ∧ But o.has w w' := by
  obtain ⟨s, rfl, rfl, hk, hi⟩ := h
  have HK : Hid (Kx w o s) := hk
  have hd := hk.bd
  clear hk
  have hn := hasNode_k o s x w HK.out
  cases hr : inR s.n x
  · have hE : dropE s.n s.m R x = 5 := by simp [dropE, hr]
    have hR : dropR s.n s.m R x = R := by simp [dropR, hr]
    rw [hE, hR]
    rw [hr] at hn
    go_enter Try.func16, Try.ntmps16
    go_wp2_with fail
    refine (is_k o s _ HK.out).mono ?_
    rintro e w1 ⟨rfl, e1⟩
    subst e1
    go_wp2_with fail
    refine hn.mono ?_
    rintro e w1 ⟨rfl, e1⟩
    subst e1
    go_wp2_with fail
    go_ret
    exact ⟨rfl, ⟨_, rfl, rfl, HK.out, hi⟩, But.refl _ _⟩
  · rw [hr] at hn
    have hr' := hr
    obtain ⟨y, rfl, hyn⟩ := inR_nat hr
    have ho := out_k o s y w HK.out (by omega)
    rw [hi.free hyn] at ho
    cases hw : whr R s.m y with
    | none =>
      rw [hw] at ho
      have hE : dropE s.n s.m R y = 51 := by simp [dropE, hr', hw]
      have hR : dropR s.n s.m R y = R := by simp [dropR, hr', outR, hw]
      rw [hE, hR]
      simp only [Option.isNone_none] at ho
      go_enter Try.func16, Try.ntmps16
      go_wp2_with fail
      refine (is_k o s _ HK.out).mono ?_
      rintro e w1 ⟨rfl, e1⟩
      subst e1
      go_wp2_with fail
      refine hn.mono ?_
      rintro e w1 ⟨rfl, e1⟩
      subst e1
      go_wp2_with fail
      refine ho.mono ?_
      rintro e w1 ⟨rfl, e1⟩
      subst e1
      go_wp2_with fail
      go_ret
      exact ⟨rfl, ⟨_, rfl, rfl, HK.out, hi⟩, But.refl _ _⟩
    | some k =>
      rw [hw] at ho
      obtain ⟨hkm, hx⟩ := whr_some hw
      have hE : dropE s.n s.m R y = 0 := by simp [dropE, hr', hw]
      have hR : Inv (s.leave y) (dropR s.n s.m R y) := by
        have := hi.outs hw
        simpa [dropR, hr'] using this
      obtain ⟨⟨q1, q2⟩, q3, q4, q5⟩ := hi.leaves hkm hx
      rw [hE]
      simp only [Option.isNone_some] at ho
      go_enter Try.func16, Try.ntmps16
      go_wp2_with fail
      refine (is_k o s _ HK.out).mono ?_
      rintro e w1 ⟨rfl, e1⟩
      subst e1
      go_wp2_with fail
      refine hn.mono ?_
      rintro e w1 ⟨rfl, e1⟩
      subst e1
      go_wp2_with fail
      refine ho.mono ?_
      rintro e w1 ⟨rfl, e1⟩
      subst e1
      go_wp2_with fail
      refine (leave_k o s y _ HK.out (by omega) q1 q2 q3 q4 ⟨q5.1, by omega⟩).mono ?_
      rintro e w2 ⟨rfl, hk2, hb2⟩
      go_wp2_with fail
      go_ret
      exact ⟨rfl, kv_of hk2 hR rfl rfl, hb2⟩

theorem mayE_in {n m : Nat} {i x : Int} (h1 : inR m i = true) (h2 : inR n x = true) : mayE n m i x = 0 := by simp [mayE, h1, h2]

set_option maxHeartbeats 2000000 in
theorem move_k (o : Pl) (n m : Nat) (R : Nat → List Nat) (i x : Int) (w : World) (h : Kv w o n m R) :
    Calls Try.prog 24 #[o.ptr, .int .i64 i, .int .i64 x] w fun e w' => e = .returned (.int .i64 (mayE n m i x)) ∧ Kv w' o n m (moveR n m R i x) ∧ But o.has w w' := by
  obtain ⟨s, rfl, rfl, hk, hi⟩ := h
  have HK : Hid (Kx w o s) := hk
  have hd := hk.bd
  clear hk
  have hma := may_k o s i x w HK.out
  by_cases hr : (inR s.m i && inR s.n x) = true
  · rw [Bool.and_eq_true] at hr
    obtain ⟨hr1, hr2⟩ := hr
    have hm := mayE_in hr1 hr2
    rw [hm] at hma ⊢
    have hmv : moveR s.n s.m R i x = upd (outR R s.m x.toNat) i.toNat (outR R s.m x.toNat i.toNat ++ [x.toNat]) := by simp [moveR, hr1, hr2]
    rw [hmv]
    clear hmv
    obtain ⟨k, rfl, hkm⟩ := inR_nat hr1
    obtain ⟨y, rfl, hyn⟩ := inR_nat hr2
    have ho := out_k o s y w HK.out (by omega)
    rw [hi.free hyn] at ho
    rw [show ((k : Int)).toNat = k by omega, show ((y : Int)).toNat = y by omega]
    /- entering at the end, once it is in none -/
    have hent : ∀ (s' : Sx) (R' : Nat → List Nat) (w' : World), s'.n = s.n → s'.m = s.m → Kx w' o s' → Inv s' R' → (∀ j, j < s.m → y ∉ R' j) →
        Calls Try.prog 47 #[o.ptr, .int .i64 (k : Int), .int .i64 (y : Int), .func (.func 48) #[o.ptr] #[]] w' fun e w'' => e = .returned (.int .i64 0) ∧ Kv w'' o s.n s.m (upd R' k (R' k ++ [y])) ∧ But o.has w' w'' := by
      intro s' R' w' en em hk' hi' hno
      rw [← em] at hkm hno
      rw [← en] at hyn
      have hwn := whr_none_of hno
      have hf : s'.free y = true := by rw [hi'.free hyn, hwn]; rfl
      have ha := hi'.toInv0.mem hkm (.inr rfl)
      have hlast := (hi'.ring k hkm).last
      have hb : s'.bh (s'.ah (s'.n + k)) < s'.n + s'.m := by
        have := lst_mem (s'.n + k) (R' k)
        rw [← hlast] at this
        exact (hi'.toInv0.mem hkm (by rcases List.mem_cons.1 this with e | e; exact .inr e; exact .inl e)).2
      have hs := hi'.toInv0.size hkm
      have hI : Inv (s'.enter k y (s'.ah (s'.n + k))) (upd R' k (R' k ++ [y])) := hi'.enter (l1 := R' k) (l2 := []) hkm hyn hno (by simp) hlast
      refine (enterLast_k o s' k y _ hk' hkm hyn hf ha.1 hb (by omega)).mono ?_
      rintro e w1 ⟨rfl, hk1, hb1⟩
      exact ⟨rfl, kv_of hk1 hI en em, hb1⟩
    cases hw : whr R s.m y with
    | none =>
      rw [hw] at ho
      have hR : outR R s.m y = R := by simp [outR, hw]
      rw [hR]
      simp only [Option.isNone_none] at ho
      have hgo := hent s R w rfl rfl HK.out hi (whr_none hw)
      clear hent
      go_enter Try.func24, Try.ntmps24
      go_wp2_with fail
      refine hma.mono ?_
      rintro e w1 ⟨rfl, e1⟩
      subst e1
      go_wp2_with fail
      refine ho.mono ?_
      rintro e w1 ⟨rfl, e1⟩
      subst e1
      go_wp2_with fail
      refine hgo.mono ?_
      rintro e w1 ⟨rfl, hk1, hb1⟩
      go_wp2_with fail
      go_ret
      exact ⟨rfl, hk1, hb1⟩
    | some j =>
      rw [hw] at ho
      obtain ⟨hjm, hx⟩ := whr_some hw
      obtain ⟨⟨q1, q2⟩, q3, q4, q5⟩ := hi.leaves hjm hx
      simp only [Option.isNone_some] at ho
      have hI := hi.outs hw
      have hno := outR_none hi.toInv0 y
      generalize outR R s.m y = R2 at *
      go_enter Try.func24, Try.ntmps24
      go_wp2_with fail
      refine hma.mono ?_
      rintro e w1 ⟨rfl, e1⟩
      subst e1
      go_wp2_with fail
      refine ho.mono ?_
      rintro e w1 ⟨rfl, e1⟩
      subst e1
      go_wp2_with fail
      refine (leave_k o s y _ HK.out (by omega) q1 q2 q3 q4 ⟨q5.1, by omega⟩).mono ?_
      rintro e w2 ⟨rfl, hk2, hb2⟩
      go_wp2_with fail
      refine (hent (s.leave y) R2 w2 rfl rfl hk2 hI hno).mono ?_
      rintro e w3 ⟨rfl, hk3, hb3⟩
      go_wp2_with fail
      go_ret
      exact ⟨rfl, hk3, hb2.trans hb3⟩
  · have hE : mayE s.n s.m i x = 5 := by simp [mayE, hr]
    have hR : moveR s.n s.m R i x = R := by simp [moveR, hr]
    rw [hE] at hma ⊢
    rw [hR]
    clear hr
    go_enter Try.func24, Try.ntmps24
    go_wp2_with fail
    refine hma.mono ?_
    rintro e w1 ⟨rfl, e1⟩
    subst e1
    go_wp2_with fail
    go_ret
    exact ⟨rfl, ⟨_, rfl, rfl, HK.out, hi⟩, But.refl _ _⟩

set_option maxHeartbeats 2000000 in
theorem of_k (o : Pl) (n m : Nat) (R : Nat → List Nat) (x : Int) (w : World) (h : Kv w o n m R) :
    Calls Try.prog 20 #[o.ptr, .int .i64 x] w fun e w' => e = .returned (.tuple #[.int .i64 (ofI n m R x), .bool (ofB n m R x)]) ∧ But (fun _ => False) w w' := by
  obtain ⟨s, rfl, rfl, hk, hi⟩ := h
  have HK : Hid (Kx w o s) := hk
  have hd := hk.bd
  clear hk
  have hn := hasNode_k o s x w HK.out
  cases hr : inR s.n x
  · have hE : ofI s.n s.m R x = 0 := by simp [ofI, hr]
    have hR : ofB s.n s.m R x = false := by simp [ofB, hr]
    rw [hE, hR]
    rw [hr] at hn
    go_enter Try.func20, Try.ntmps20
    go_wp2_with fail
    refine hn.mono ?_
    rintro e w1 ⟨rfl, e1⟩
    subst e1
    go_wp2_with fail
    go_ret2
    exact ⟨rfl, But.refl _ _⟩
  · rw [hr] at hn
    have hr' := hr
    obtain ⟨y, rfl, hyn⟩ := inR_nat hr
    have ho := out_k o s y w HK.out (by omega)
    rw [hi.free hyn] at ho
    cases hw : whr R s.m y with
    | none =>
      rw [hw] at ho
      have hE : ofI s.n s.m R y = 0 := by simp [ofI, hr', hw]
      have hR : ofB s.n s.m R y = false := by simp [ofB, hw]
      rw [hE, hR]
      simp only [Option.isNone_none] at ho
      go_enter Try.func20, Try.ntmps20
      go_wp2_with fail
      refine hn.mono ?_
      rintro e w1 ⟨rfl, e1⟩
      subst e1
      go_wp2_with fail
      refine ho.mono ?_
      rintro e w1 ⟨rfl, e1⟩
      subst e1
      go_wp2_with fail
      go_ret2
      exact ⟨rfl, But.refl _ _⟩
    | some k =>
      rw [hw] at ho
      obtain ⟨hkm, hx⟩ := whr_some hw
      have hE : ofI s.n s.m R y = (k : Int) := by simp [ofI, hr', hw]
      have hR : ofB s.n s.m R y = true := by simp [ofB, hr', hw]
      obtain ⟨⟨q1, q2⟩, q3, q4, q5⟩ := hi.leaves hkm hx
      have hok : s.ow (s.bg y) = k := by rw [hi.bg k hkm y hx]; exact (hi.lb k hkm).2.2
      have g2 := HK.out.c2
      have g4 := HK.out.c4
      have g5 := HK.out.l2 y (by omega)
      have g6 := HK.out.w0 (s.bg y) q3
      rw [hok] at g6
      rw [hE, hR]
      simp only [Option.isNone_some] at ho
      go_enter Try.func20, Try.ntmps20
      go_wp2_with fail
      refine hn.mono ?_
      rintro e w1 ⟨rfl, e1⟩
      subst e1
      go_wp2_with fail
      refine ho.mono ?_
      rintro e w1 ⟨rfl, e1⟩
      subst e1
      go_wp2_with fail
      go_region
      go_wp2_with fail
      go_ret2
      exact ⟨rfl, (But.refl _ _).drew⟩

end Go.Proofs.Ytiaacjollcccaaa
