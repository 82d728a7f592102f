/- ListStops: its own yield, and a list told to it, as far as it asks. -/
import Derived.Test.YtiaacjollcccaaaKDo
import Derived.Test.YtiaacjollcccaaaKAlive
namespace Go.Proofs.Ytiaacjollcccaaa
open Go.RowKit Go.Shelf
attribute [local go_sem] Oper.semAt_some

/-- the first of a list is dropped -/
theorem dropR_head {w : World} {o : Pl} {n m : Nat} {R : Nat → List Nat} (h : Kv w o n m R) {k : Nat} (hk : k < m) {x : Nat} {l : List Nat} (e : R k = x :: l) : dropR n m R (x : Int) k = l := by
  obtain ⟨s, rfl, rfl, hx, hi⟩ := h
  have hm : x ∈ R k := by rw [e]; simp
  have hw := whr_at hi.toInv0 hk hm
  have hlt := hi.rng k hk x hm
  have hn := hi.nod k hk
  rw [e] at hn
  have hin : inR s.n (x : Int) = true := inR_iff.2 (by omega)
  have e1 : dropR s.n s.m R (x : Int) = outR R s.m x := by simp [dropR, hin]
  have e2 : outR R s.m x = upd R k ((R k).filter fun y => !decide (y = x)) := by unfold outR; rw [hw]
  rw [e1, e2]
  have e3 : (l.filter fun y => !decide (y = x)) = l := by
    apply List.filter_eq_self.2
    intro y hy
    have : y ≠ x := by rintro rfl; exact (List.nodup_cons.1 hn).1 hy
    simp [this]
  simp [upd, e, e3]

/-- where the statement's four boxes lie -/
structure Bxs (W : World) (C B5 B7 B4 : Nat) (d : Bool) (mo : Int) (o : Pl) (base : Nat) : Prop where
  b5 : Boxed W B5 4 (.bool d)
  b7 : Boxed W B7 23 o.ptr
  b4 : Boxed W B4 3 (.int .i64 mo)
  n5 : B5 ≠ C ∧ ¬ o.has B5 ∧ B5 < base
  n7 : B7 ≠ C ∧ ¬ o.has B7 ∧ B7 < base
  n4 : B4 ≠ C ∧ ¬ o.has B4 ∧ B4 < base
  nC : ¬ o.has C ∧ C < base
  no : ∀ b, o.has b → b < base
theorem Bxs.but {W W' : World} {C B5 B7 B4 : Nat} {d : Bool} {mo : Int} {o : Pl} {base : Nat} (h : Bxs W C B5 B7 B4 d mo o base) (hb : But (fun b => b = C ∨ o.has b ∨ base ≤ b) W W') : Bxs W' C B5 B7 B4 d mo o base := by
  refine ⟨(hb.block _ h.b5.lt ?_).trans h.b5, (hb.block _ h.b7.lt ?_).trans h.b7, (hb.block _ h.b4.lt ?_).trans h.b4, h.n5, h.n7, h.n4, h.nC, h.no⟩
  · rintro (e | e | e); exact h.n5.1 e; exact h.n5.2.1 e; exact absurd h.n5.2.2 (by omega)
  · rintro (e | e | e); exact h.n7.1 e; exact h.n7.2.1 e; exact absurd h.n7.2.2 (by omega)
  · rintro (e | e | e); exact h.n4.1 e; exact h.n4.2.1 e; exact absurd h.n4.2.2 (by omega)

set_option maxHeartbeats 4000000 in
theorem stops1_t (C B5 B7 B4 : Nat) (mo : Int) (o : Pl) (n m : Nat) (R : Nat → List Nat) (x : Int) (v : Value) (j : Nat) (xs : List Value) (base : Nat) (W : World) (hv : Boxed W C 36 v) (hrow : W.ownsRow base 3 1 v j xs) (hbase : base ≤ W.heap.size) (hj : j ≤ 100000)
    (hB : Bxs W C B5 B7 B4 true mo o base) (hK : Kv W o n m R) :
    Calls Try.prog 15 #[.int .i64 x, .pointer (some ⟨C, 0, none⟩), .pointer (some ⟨B5, 0, none⟩), .pointer (some ⟨B7, 0, none⟩), .pointer (some ⟨B4, 0, none⟩)] W fun e W' => e = .returned (.bool (decide ((j : Int) + 1 < mo))) ∧ ∃ v', Boxed W' C 36 v' ∧ W'.ownsRow base 3 1 v' (j + 1) (xs ++ [.int .i64 x]) ∧ Kv W' o n m (dropR n m R x) ∧ But (fun b => b = C ∨ o.has b ∨ base ≤ b) W W' := by
  obtain ⟨i0, hi, hz0, hz1, hz2⟩ := info_parts Try.info3
  have hc := hv.cell
  have HB : Hid (Bxs W C B5 B7 B4 true mo o base) := hB
  have HK : Hid (Kv W o n m R) := hK
  clear hB hK
  go_enter Try.func15, Try.ntmps15
  go_wp2_with (at_builtin; refine wpList_append_own _ rfl _ _ 36 rfl base 3 i0 (.int .i64 0) 1 8 Try.underlying36 hi hz0 hz1 hz2 rfl (by decide) _ _ _ rfl (hrow.alloc _) ⟨W.heap.size, 0, none⟩ 1 1 [.int .i64 x] rfl rfl (cell_one_new _ _ _) (by simp [Value.oneCell']) (by unfold maxLen; omega) (by omega) (by simp; omega) ?_; intro v' w3 hown' hgrow _; obtain ⟨g', cap', rfl⟩ := ownsRow_succ hown'; have hv1 := (hv.alloc _).kept hgrow (hv.not_row (by decide) hrow); have hc1 := hv1.cell; have hf1 := hv1.frozen; have hv2 := hv1.set (.slice (some ⟨g', 0, none⟩) (j + 1) cap'); have hr2 := hown'.kept (grownBy_setCell' w3 C (.slice (some ⟨g', 0, none⟩) (j + 1) cap')) (.inr (hv1.not_row (by decide) hown').symm); have hbut : But (fun b => b = C ∨ o.has b ∨ base ≤ b) W (w3.setCell ⟨C, 0, none⟩ (.slice (some ⟨g', 0, none⟩) (j + 1) cap')) := (((But.refl _ W).alloc _).grown hgrow (fun k e => .inl (.inr (.inr (own_ge hrow k e))))).setCell (.inl rfl) _; have hkb : But (fun b => b = C ∨ base ≤ b) W (w3.setCell ⟨C, 0, none⟩ (.slice (some ⟨g', 0, none⟩) (j + 1) cap')) := (((But.refl _ W).alloc _).grown hgrow (fun k e => .inl (.inr (own_ge hrow k e)))).setCell (.inl rfl) _; have k5 := (HB.out.but hbut).b5.cell; have k7 := (HB.out.but hbut).b7.cell; have HK2 : Hid (Kv (w3.setCell ⟨C, 0, none⟩ (.slice (some ⟨g', 0, none⟩) (j + 1) cap')) o n m R) := HK.out.but hkb (fun b hb => by rintro (rfl | hbb); exact HB.out.nC.1 hb; have := HB.out.no b hb; omega))
  refine (drop_k o n m R x _ HK2.out).mono ?_
  rintro e w4 ⟨rfl, hk4, hb4⟩
  have hv4 : Boxed w4 C 36 _ := (hb4.block _ hv2.lt HB.out.nC.1).trans hv2
  have hr4 := own_but hr2 hb4 HB.out.no
  have hbut4 : But (fun b => b = C ∨ o.has b ∨ base ≤ b) W w4 := hbut.onto hb4 (fun i h => .inl (.inr (.inl h)))
  have k4 := (HB.out.but hbut4).b4.cell
  have kc := hv4.cell
  have HE : Hid (Kv w4 o n m (dropR n m R x)) := hk4
  clear hk4 hb4 k5 k7 hv2 hr2 hc
  go_wp2_with fail
  go_ret
  exact ⟨rfl, _, hv4, hr4, HE.out, hbut4⟩

set_option maxHeartbeats 4000000 in
theorem stops1_f (C B5 B7 B4 : Nat) (mo : Int) (o : Pl) (n m : Nat) (R : Nat → List Nat) (x : Int) (v : Value) (j : Nat) (xs : List Value) (base : Nat) (W : World) (hv : Boxed W C 36 v) (hrow : W.ownsRow base 3 1 v j xs) (hbase : base ≤ W.heap.size) (hj : j ≤ 100000)
    (hB : Bxs W C B5 B7 B4 false mo o base) (hK : Kv W o n m R) :
    Calls Try.prog 15 #[.int .i64 x, .pointer (some ⟨C, 0, none⟩), .pointer (some ⟨B5, 0, none⟩), .pointer (some ⟨B7, 0, none⟩), .pointer (some ⟨B4, 0, none⟩)] W fun e W' => e = .returned (.bool (decide ((j : Int) + 1 < mo))) ∧ ∃ v', Boxed W' C 36 v' ∧ W'.ownsRow base 3 1 v' (j + 1) (xs ++ [.int .i64 x]) ∧ Kv W' o n m R ∧ But (fun b => b = C ∨ o.has b ∨ base ≤ b) W W' := by
  obtain ⟨i0, hi, hz0, hz1, hz2⟩ := info_parts Try.info3
  have hc := hv.cell
  have HB : Hid (Bxs W C B5 B7 B4 false mo o base) := hB
  have HK : Hid (Kv W o n m R) := hK
  clear hB hK
  go_enter Try.func15, Try.ntmps15
  go_wp2_with (at_builtin; refine wpList_append_own _ rfl _ _ 36 rfl base 3 i0 (.int .i64 0) 1 8 Try.underlying36 hi hz0 hz1 hz2 rfl (by decide) _ _ _ rfl (hrow.alloc _) ⟨W.heap.size, 0, none⟩ 1 1 [.int .i64 x] rfl rfl (cell_one_new _ _ _) (by simp [Value.oneCell']) (by unfold maxLen; omega) (by omega) (by simp; omega) ?_; intro v' w3 hown' hgrow _; obtain ⟨g', cap', rfl⟩ := ownsRow_succ hown'; have hv1 := (hv.alloc _).kept hgrow (hv.not_row (by decide) hrow); have hc1 := hv1.cell; have hf1 := hv1.frozen; have hv2 := hv1.set (.slice (some ⟨g', 0, none⟩) (j + 1) cap'); have hr2 := hown'.kept (grownBy_setCell' w3 C (.slice (some ⟨g', 0, none⟩) (j + 1) cap')) (.inr (hv1.not_row (by decide) hown').symm); have hbut : But (fun b => b = C ∨ o.has b ∨ base ≤ b) W (w3.setCell ⟨C, 0, none⟩ (.slice (some ⟨g', 0, none⟩) (j + 1) cap')) := (((But.refl _ W).alloc _).grown hgrow (fun k e => .inl (.inr (.inr (own_ge hrow k e))))).setCell (.inl rfl) _; have hkb : But (fun b => b = C ∨ base ≤ b) W (w3.setCell ⟨C, 0, none⟩ (.slice (some ⟨g', 0, none⟩) (j + 1) cap')) := (((But.refl _ W).alloc _).grown hgrow (fun k e => .inl (.inr (own_ge hrow k e)))).setCell (.inl rfl) _; have k5 := (HB.out.but hbut).b5.cell; have k4 := (HB.out.but hbut).b4.cell; have hc2 := hv2.cell; have HK2 : Hid (Kv (w3.setCell ⟨C, 0, none⟩ (.slice (some ⟨g', 0, none⟩) (j + 1) cap')) o n m R) := HK.out.but hkb (fun b hb => by rintro (rfl | hbb); exact HB.out.nC.1 hb; have := HB.out.no b hb; omega))
  go_ret
  exact ⟨rfl, _, hv2, hr2, HK2.out, hbut⟩

end Go.Proofs.Ytiaacjollcccaaa
