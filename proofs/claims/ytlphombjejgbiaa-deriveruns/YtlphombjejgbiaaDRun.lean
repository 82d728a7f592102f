/- A forest and the document's, side by side: the law's step, same. -/
import Derived.Test.YtlphombjejgbiaaDRefE
import Derived.Test.YtlphombjejgbiaaDMade
import Derived.Deep.RegionHeld3
import Derived.Lib.QuietBelow
namespace Go.Proofs.Ytlphombjejgbiaa
open Go.RowKit Go.Sort Go.Shelf
set_option maxRecDepth 100000

structure Dd (w0 w : World) (a : Fp) (r : Nat) (rv : Value) (N : Nat) (L M : List Fe) : Prop where
  fo : Fo w a N L
  rf : Rf w r rv N M
  ha : ∀ b, a.has b → w0.heap.size ≤ b
  hr : w0.heap.size ≤ r
  hv : ∀ b, rv.ownBlock = some b → w0.heap.size ≤ b
  nr : ¬ a.has r
  nv : ∀ b, rv.ownBlock = some b → ¬ a.has b
  bel : Below w0.heap.size w0 w
section
variable {w0 w w' : World} {a : Fp} {r : Nat} {rv : Value} {N : Nat} {L L' M M' : List Fe}
theorem Dd.prog (h : Dd w0 w a r rv N L M) (hf : Fo w' a N L') (hb : But a.has w w') : Dd w0 w' a r rv N L' M :=
  ⟨hf, h.rf.but hb h.nr h.nv, h.ha, h.hr, h.hv, h.nr, h.nv, h.bel.trans (hb.below h.bel.size h.ha)⟩
theorem Dd.doc (h : Dd w0 w a r rv N L M) (hg : RfGo w r rv w' N M') : ∃ rv', Dd w0 w' a r rv' N L M' := by
  obtain ⟨rv', h1, h2, h3⟩ := hg
  refine ⟨rv', ?_, h1, h.ha, h.hr, fun b hb => ?_, h.nr, fun b hb hh => ?_, h.bel.trans (h2.below h.bel.size fun b e => by have e' : b = r := e; rw [e']; exact h.hr)⟩
  · obtain ⟨z, hz⟩ := h.fo
    exact ⟨z, hz.but h2 fun b hb e => h.nr (by have e' : b = r := e; rw [← e']; exact hb)⟩
  · rcases h3 b hb with h4 | h4
    · exact h.hv b h4
    · exact Nat.le_trans h.bel.size h4
  · rcases h3 b hb with h4 | h4
    · exact h.nv b h4 hh
    · have := h.fo.lt b hh; omega
theorem rfgo_but (hg : RfGo w r rv w' N M') : But (fun b => b = r) w w' := by
  obtain ⟨_, _, h, _⟩ := hg
  exact h
theorem Dd.below (h : Dd w0 w a r rv N L M) (hb : Below w.heap.size w w') : Dd w0 w' a r rv N L M :=
  ⟨h.fo.below hb, h.rf.below hb, h.ha, h.hr, h.hv, h.nr, h.nv, Below.onto h.bel hb⟩
/-- what the step leaves -/
def DdX (w0 w : World) (a : Fp) (r : Nat) (N : Nat) : Prop := ∃ rv L, Dd w0 w a r rv N L L
end
theorem bx_but {W W' : World} {B : Nat} {vs : List Value} {S : Nat → Prop} (h : Bx W B vs) (hb : But S W W') (hS : ¬ S B) : Bx W' B vs := fun i v e => (hb.cell (h i v e) hS)
section
variable {w0 w : World} {a : Fp} {r : Nat} {rv : Value} {N : Nat} {L : List Fe}
set_option maxHeartbeats 4000000 in
theorem dstep_root (h : Dd w0 w a r rv N L L) (x y : Int) : Calls Try.prog 8 #[a.ptr, .pointer (some ⟨r, 0, none⟩), .agg #[.int .i64 1, .int .i64 x, .int .i64 y]] w fun e w' => e = .returned (.bool true) ∧ DdX w0 w' a r N := by
  have hb1 : Below w.heap.size w (w.alloc (.cells #[.int .i64 1, .int .i64 x, .int .i64 y] 33)) := (Below.refl _ w).alloc (Nat.le_refl _) _
  have hx : Bx (w.alloc (.cells #[.int .i64 1, .int .i64 x, .int .i64 y] 33)) w.heap.size [.int .i64 1, .int .i64 x, .int .i64 y] := bx_new w [.int .i64 1, .int .i64 x, .int .i64 y] _
  have HD : Hid (Dd w0 (w.alloc (.cells #[.int .i64 1, .int .i64 x, .int .i64 y] 33)) a r rv N L L) := h.below hb1
  have no1 : ¬ a.has w.heap.size := fun ho => by have := h.fo.lt _ ho; omega
  have no2 : ¬ w.heap.size = r := fun e => by have := h.rf.lt; omega
  have hs1 : (w.alloc (.cells #[.int .i64 1, .int .i64 x, .int .i64 y] 33)).heap.size = w.heap.size + 1 := by simp
  clear h
  go_enter Try.func8, Try.ntmps8
  have k0 := hx 0 _ rfl
  go_wp2_with fail
  have HS1 : Hid (True = True ∧ Below w.heap.size w (w.alloc (.cells #[.int .i64 1, .int .i64 x, .int .i64 y] 33))) := ⟨rfl, hb1⟩
  generalize w.alloc (.cells #[.int .i64 1, .int .i64 x, .int .i64 y] 33) = w1 at *
  have HDd : Hid (Dd w0 w1.drew a r rv N L L) := HD.out.below (Below.refl _ _).drew
  have HC := root_k HDd.out.fo x
  have hxd : Bx w1.drew w.heap.size [.int .i64 1, .int .i64 x, .int .i64 y] := hx
  have c1 := hxd 1 _ rfl
  have c2 := hxd 2 _ rfl
  go_region_held3 (fun W => W.cell? ⟨w.heap.size, 1, none⟩ = some (.int .i64 x)) (first | assumption | exact ⟨c1, c2⟩ | exact ⟨d1, d2⟩ | exact ⟨f1, f2⟩) (first
    | (go_at_call 20; (with_reducible refine HC.mono ?_); rintro e w3 ⟨rfl, hf3, hb3⟩; have hx3 := bx_but hxd hb3 no1; have d1 := hx3 1 _ rfl; have d2 := hx3 2 _ rfl; have H3 := HDd.out.prog hf3 hb3; have hcall := rroot12 H3.rf x)
    | (go_at_call 26; (with_reducible refine hcall.mono ?_); rintro e w4 ⟨rfl, hg4⟩; have hx4 := bx_but hx3 (rfgo_but hg4) no2; have f1 := hx4 1 _ rfl; have f2 := hx4 2 _ rfl))
  have HF : Hid (DdX w0 w4 a r N) := by
    obtain ⟨rv', h⟩ := H3.doc hg4
    exact ⟨rv', _, h⟩
  clear hf3 hb3 hg4 hcall d1 d2 f1 f2 c1 c2 k0 hx hx3 hx4 hxd HC H3
  go_wp2_with fail
  go_ret
  exact ⟨ret_bool (by simp), HF.out⟩
set_option maxHeartbeats 4000000 in
theorem dstep_der (h : Dd w0 w a r rv N L L) (x y : Int) : Calls Try.prog 8 #[a.ptr, .pointer (some ⟨r, 0, none⟩), .agg #[.int .i64 2, .int .i64 x, .int .i64 y]] w fun e w' => e = .returned (.bool true) ∧ DdX w0 w' a r N := by
  have hb1 : Below w.heap.size w (w.alloc (.cells #[.int .i64 2, .int .i64 x, .int .i64 y] 33)) := (Below.refl _ w).alloc (Nat.le_refl _) _
  have hx : Bx (w.alloc (.cells #[.int .i64 2, .int .i64 x, .int .i64 y] 33)) w.heap.size [.int .i64 2, .int .i64 x, .int .i64 y] := bx_new w [.int .i64 2, .int .i64 x, .int .i64 y] _
  have HD : Hid (Dd w0 (w.alloc (.cells #[.int .i64 2, .int .i64 x, .int .i64 y] 33)) a r rv N L L) := h.below hb1
  have no1 : ¬ a.has w.heap.size := fun ho => by have := h.fo.lt _ ho; omega
  have no2 : ¬ w.heap.size = r := fun e => by have := h.rf.lt; omega
  have hs1 : (w.alloc (.cells #[.int .i64 2, .int .i64 x, .int .i64 y] 33)).heap.size = w.heap.size + 1 := by simp
  clear h
  go_enter Try.func8, Try.ntmps8
  have k0 := hx 0 _ rfl
  go_wp2_with fail
  have HS1 : Hid (True = True ∧ Below w.heap.size w (w.alloc (.cells #[.int .i64 2, .int .i64 x, .int .i64 y] 33))) := ⟨rfl, hb1⟩
  generalize w.alloc (.cells #[.int .i64 2, .int .i64 x, .int .i64 y] 33) = w1 at *
  have HDd : Hid (Dd w0 w1.drew a r rv N L L) := HD.out.below (Below.refl _ _).drew
  have HC := derive_k HDd.out.fo x y
  have hxd : Bx w1.drew w.heap.size [.int .i64 2, .int .i64 x, .int .i64 y] := hx
  have c1 := hxd 1 _ rfl
  have c2 := hxd 2 _ rfl
  go_region_held3 (fun W => W.cell? ⟨w.heap.size, 1, none⟩ = some (.int .i64 x) ∧ W.cell? ⟨w.heap.size, 2, none⟩ = some (.int .i64 y)) (first | assumption | exact ⟨c1, c2⟩ | exact ⟨d1, d2⟩ | exact ⟨f1, f2⟩) (first
    | (go_at_call 21; (with_reducible refine HC.mono ?_); rintro e w3 ⟨rfl, hf3, hb3⟩; have hx3 := bx_but hxd hb3 no1; have d1 := hx3 1 _ rfl; have d2 := hx3 2 _ rfl; have H3 := HDd.out.prog hf3 hb3; have hcall := rder12 H3.rf x y)
    | (go_at_call 27; (with_reducible refine hcall.mono ?_); rintro e w4 ⟨rfl, hg4⟩; have hx4 := bx_but hx3 (rfgo_but hg4) no2; have f1 := hx4 1 _ rfl; have f2 := hx4 2 _ rfl))
  have HF : Hid (DdX w0 w4 a r N) := by
    obtain ⟨rv', h⟩ := H3.doc hg4
    exact ⟨rv', _, h⟩
  clear hf3 hb3 hg4 hcall d1 d2 f1 f2 c1 c2 k0 hx hx3 hx4 hxd HC H3
  go_wp2_with fail
  go_ret
  exact ⟨ret_bool (by simp), HF.out⟩
set_option maxHeartbeats 4000000 in
theorem dstep_cut (h : Dd w0 w a r rv N L L) (x y : Int) : Calls Try.prog 8 #[a.ptr, .pointer (some ⟨r, 0, none⟩), .agg #[.int .i64 3, .int .i64 x, .int .i64 y]] w fun e w' => e = .returned (.bool true) ∧ DdX w0 w' a r N := by
  have hb1 : Below w.heap.size w (w.alloc (.cells #[.int .i64 3, .int .i64 x, .int .i64 y] 33)) := (Below.refl _ w).alloc (Nat.le_refl _) _
  have hx : Bx (w.alloc (.cells #[.int .i64 3, .int .i64 x, .int .i64 y] 33)) w.heap.size [.int .i64 3, .int .i64 x, .int .i64 y] := bx_new w [.int .i64 3, .int .i64 x, .int .i64 y] _
  have HD : Hid (Dd w0 (w.alloc (.cells #[.int .i64 3, .int .i64 x, .int .i64 y] 33)) a r rv N L L) := h.below hb1
  have no1 : ¬ a.has w.heap.size := fun ho => by have := h.fo.lt _ ho; omega
  have no2 : ¬ w.heap.size = r := fun e => by have := h.rf.lt; omega
  have hs1 : (w.alloc (.cells #[.int .i64 3, .int .i64 x, .int .i64 y] 33)).heap.size = w.heap.size + 1 := by simp
  clear h
  have k1 := hx 1 _ rfl
  have hc := cut_k HD.out.fo x
  go_enter Try.func8, Try.ntmps8
  have k0 := hx 0 _ rfl
  go_wp2_with fail
  generalize w.alloc (.cells #[.int .i64 3, .int .i64 x, .int .i64 y] 33) = w1 at *
  refine hc.mono ?_
  rintro e w3 ⟨v1, rfl, hf3, ho3, hb3⟩
  have hx3 := bx_but hx hb3 no1
  have H3 := HD.out.prog hf3 hb3
  have l1 := hx3 1 _ rfl
  have hcall := rcut12 H3.rf x
  have hs3 := hb3.size
  have HO : Hid (w3.ownsRow w1.heap.size 3 1 v1 (cutT N L x).length (encL (cutT N L x))) := ho3
  have HD3 : Hid (Dd w0 w3 a r rv N (wout L (cutT N L x)) L ∧ r < w1.heap.size ∧ (cutT N L x).length ≤ 100000) := ⟨H3, HD.out.rf.lt, by
    have h1 := HD.out.rf.ok
    have h2 := HD.out.rf.hN
    have h3 := blw_len h1 x.toNat
    unfold cutT
    split
    · simp; omega
    · simp⟩
  clear k0 k1 hc hf3 ho3 hb3 hx H3
  go_wp2_with fail
  refine hcall.mono ?_
  rintro e w4 ⟨v2, rfl, ho4, hg4⟩
  have hx4 := bx_but hx3 (rfgo_but hg4) no2
  have hs := rsame12_own (rf_keep HO.out (rfgo_but hg4) HD3.out.2.1) ho4 HD3.out.2.2
  have HF : Hid (DdX w0 w4 a r N) := by
    obtain ⟨rv', h⟩ := HD3.out.1.doc hg4
    exact ⟨rv', _, h⟩
  clear hcall ho4 hg4 hx3 hx4 l1
  generalize askE N L x = ea at *
  go_wp2_with fail
  refine hs.mono ?_
  rintro e w5 ⟨rfl, hb5⟩
  have HG : Hid (DdX w0 w5 a r N) := by
    obtain ⟨rv', L', h⟩ := HF.out
    exact ⟨rv', L', h.below hb5⟩
  clear hs hb5
  go_wp2_with fail
  go_ret
  exact ⟨ret_bool (by simp), HG.out⟩
set_option maxHeartbeats 4000000 in
theorem dstep_pru (h : Dd w0 w a r rv N L L) (x y : Int) : Calls Try.prog 8 #[a.ptr, .pointer (some ⟨r, 0, none⟩), .agg #[.int .i64 4, .int .i64 x, .int .i64 y]] w fun e w' => e = .returned (.bool true) ∧ DdX w0 w' a r N := by
  have hb1 : Below w.heap.size w (w.alloc (.cells #[.int .i64 4, .int .i64 x, .int .i64 y] 33)) := (Below.refl _ w).alloc (Nat.le_refl _) _
  have hx : Bx (w.alloc (.cells #[.int .i64 4, .int .i64 x, .int .i64 y] 33)) w.heap.size [.int .i64 4, .int .i64 x, .int .i64 y] := bx_new w [.int .i64 4, .int .i64 x, .int .i64 y] _
  have HD : Hid (Dd w0 (w.alloc (.cells #[.int .i64 4, .int .i64 x, .int .i64 y] 33)) a r rv N L L) := h.below hb1
  have no1 : ¬ a.has w.heap.size := fun ho => by have := h.fo.lt _ ho; omega
  have no2 : ¬ w.heap.size = r := fun e => by have := h.rf.lt; omega
  have hs1 : (w.alloc (.cells #[.int .i64 4, .int .i64 x, .int .i64 y] 33)).heap.size = w.heap.size + 1 := by simp
  clear h
  have k1 := hx 1 _ rfl
  have hc := prune_k HD.out.fo x
  go_enter Try.func8, Try.ntmps8
  have k0 := hx 0 _ rfl
  go_wp2_with fail
  generalize w.alloc (.cells #[.int .i64 4, .int .i64 x, .int .i64 y] 33) = w1 at *
  refine hc.mono ?_
  rintro e w3 ⟨v1, rfl, hf3, ho3, hb3⟩
  have hx3 := bx_but hx hb3 no1
  have H3 := HD.out.prog hf3 hb3
  have l1 := hx3 1 _ rfl
  have hcall := rprune12 H3.rf x
  have hs3 := hb3.size
  have HO : Hid (w3.ownsRow w1.heap.size 3 1 v1 (pruT N L x).length (encL (pruT N L x))) := ho3
  have HD3 : Hid (Dd w0 w3 a r rv N (wout L (pruT N L x)) L ∧ r < w1.heap.size ∧ (pruT N L x).length ≤ 100000) := ⟨H3, HD.out.rf.lt, by
    have h1 := HD.out.rf.ok
    have h2 := HD.out.rf.hN
    have h3 := blw_len h1 x.toNat
    unfold pruT
    split
    · simp; omega
    · simp⟩
  clear k0 k1 hc hf3 ho3 hb3 hx H3
  go_wp2_with fail
  refine hcall.mono ?_
  rintro e w4 ⟨v2, rfl, ho4, hg4⟩
  have hx4 := bx_but hx3 (rfgo_but hg4) no2
  have hs := rsame12_own (rf_keep HO.out (rfgo_but hg4) HD3.out.2.1) ho4 HD3.out.2.2
  have HF : Hid (DdX w0 w4 a r N) := by
    obtain ⟨rv', h⟩ := HD3.out.1.doc hg4
    exact ⟨rv', _, h⟩
  clear hcall ho4 hg4 hx3 hx4 l1
  generalize askE N L x = ea at *
  go_wp2_with fail
  refine hs.mono ?_
  rintro e w5 ⟨rfl, hb5⟩
  have HG : Hid (DdX w0 w5 a r N) := by
    obtain ⟨rv', L', h⟩ := HF.out
    exact ⟨rv', L', h.below hb5⟩
  clear hs hb5
  go_wp2_with fail
  go_ret
  exact ⟨ret_bool (by simp), HG.out⟩
theorem dstep_none (h : Dd w0 w a r rv N L L) (k x y : Int) (h1 : (k == 1) = false) (h2 : (k == 2) = false) (h3 : (k == 3) = false) (h4 : (k == 4) = false) : Calls Try.prog 8 #[a.ptr, .pointer (some ⟨r, 0, none⟩), .agg #[.int .i64 k, .int .i64 x, .int .i64 y]] w fun e w' => e = .returned (.bool true) ∧ DdX w0 w' a r N := by
  have hb1 : Below w.heap.size w (w.alloc (.cells #[.int .i64 k, .int .i64 x, .int .i64 y] 33)) := (Below.refl _ w).alloc (Nat.le_refl _) _
  have hx : Bx (w.alloc (.cells #[.int .i64 k, .int .i64 x, .int .i64 y] 33)) w.heap.size [.int .i64 k, .int .i64 x, .int .i64 y] := bx_new w [.int .i64 k, .int .i64 x, .int .i64 y] _
  have HF : Hid (DdX w0 (w.alloc (.cells #[.int .i64 k, .int .i64 x, .int .i64 y] 33)) a r N) := ⟨rv, L, h.below hb1⟩
  clear h
  go_enter Try.func8, Try.ntmps8
  have k0 := hx 0 _ rfl
  go_wp2_with fail
  go_ret
  exact ⟨rfl, HF.out⟩
theorem dstep_any (h : Dd w0 w a r rv N L L) (o : DOp) : Calls Try.prog 8 #[a.ptr, .pointer (some ⟨r, 0, none⟩), .agg #[.int .i64 o.k, .int .i64 o.a, .int .i64 o.b]] w fun e w' => e = .returned (.bool true) ∧ DdX w0 w' a r N := by
  obtain ⟨k, x, y⟩ := o
  by_cases h1 : k = 1
  · subst h1; exact dstep_root h x y
  by_cases h2 : k = 2
  · subst h2; exact dstep_der h x y
  by_cases h3 : k = 3
  · subst h3; exact dstep_cut h x y
  by_cases h4 : k = 4
  · subst h4; exact dstep_pru h x y
  exact dstep_none h k x y (by simpa using h1) (by simpa using h2) (by simpa using h3) (by simpa using h4)
set_option maxHeartbeats 4000000 in
theorem dsame_any (h : Dd w0 w a r rv N L L) (x y : Int) : Calls Try.prog 9 #[a.ptr, .pointer (some ⟨r, 0, none⟩), .int .i64 x, .int .i64 y] w fun e w' => e = .returned (.bool true) ∧ Below w.heap.size w w' := by
  have HD : Hid (Dd w0 w a r rv N L L) := h
  have hp := parent_k h.fo x
  clear h
  go_enter Try.func9, Try.ntmps9
  go_wp2_with fail
  refine hp.mono ?_
  rintro e w1 ⟨rfl, hb1⟩
  have HB : Hid (Below w.heap.size w w1) := hb1
  have hq := rparent12 (HD.out.below hb1).rf x
  clear hp hb1
  go_wp2_with fail
  refine hq.mono ?_
  rintro e w2 ⟨rfl, rfl⟩
  have H2 : Hid (Dd w0 w2 a r rv N L L) := HD.out.below HB.out
  clear hq
  have c1 := regrown_call (w := w2) fun W hW => fhas_any (H2.out.below hW).fo.choose_spec x
  have c2 := regrown_call (w := w2) fun W hW => (rhas12 (H2.out.below hW).rf x).mono fun _ _ h => (⟨h.1, by rw [h.2]; exact Below.refl _ _⟩ : _ ∧ Below W.heap.size W _)
  have c3 := regrown_call (w := w2) fun W hW => depth_k (H2.out.below hW).fo x
  have c4 := regrown_call (w := w2) fun W hW => (rdepth12 (H2.out.below hW).rf x).mono fun _ _ h => (⟨h.1, by rw [h.2]; exact Below.refl _ _⟩ : _ ∧ Below W.heap.size W _)
  have c5 := regrown_call (w := w2) fun W hW => under_k (H2.out.below hW).fo x y
  have c6 := regrown_call (w := w2) fun W hW => runder12 (H2.out.below hW).rf x y
  have c7 := regrown_call (w := w2) fun W hW => (len_k12 (H2.out.below hW).fo).mono fun _ _ h => (⟨h.1, by rw [h.2]; exact Below.refl _ _⟩ : _ ∧ Below W.heap.size W _)
  obtain ⟨av, cv, hv⟩ := H2.out.rf.form
  have k1 := H2.out.rf.c1
  rw [hv] at k1
  have k1 := cell_regrown k1
  generalize hasF N L x = t1 at *
  generalize dptI N L x = t2 at *
  generalize undI N L x y = t3 at *
  generalize parI N L x = t4 at *
  generalize parB N L x = t5 at *
  generalize L.length = t6 at *
  go_wp2_with fail
  refine wp_region_quiet_below (by kernel_rfl) (by kernel_rfl) ?_
  repeat (go_big_quiet_step (first | with_reducible exact c1 _ _ | with_reducible exact c2 _ _ | with_reducible exact c3 _ _ | with_reducible exact c4 _ _ | with_reducible exact c5 _ _ | with_reducible exact c6 _ _ | with_reducible exact c7 _ _))
  refine wpQuiet_nil ?_
  intro _ hw'
  obtain ⟨⟨dq, osq⟩, hw''⟩ := hw'
  subst hw''
  have HB2 : Hid (Below w.heap.size w (grow (redrawn w2 dq) osq)) := Below.onto HB.out (below_regrown w2 dq osq)
  clear c1 c2 c3 c4 c5 c6 c7 k1
  generalize grow (redrawn w2 dq) osq = w3 at *
  go_wp2_with fail
  go_ret
  exact ⟨ret_bool (by simp), HB2.out⟩
end
end Go.Proofs.Ytlphombjejgbiaa
