/- DeriveRuns' walk. -/
import Derived.Test.YtlphombjejgbiaaDRefE
import Derived.Test.YtlphombjejgbiaaDMade
import Derived.Deep.RegionHeld3
import Derived.Lib.QuietBelow
import Derived.Test.YtlphombjejgbiaaDAlive
import Derived.Test.YtlphombjejgbiaaDTwo
namespace Go.Proofs.Ytlphombjejgbiaa
open Go.RowKit Go.Sort Go.Shelf
set_option maxRecDepth 100000

structure Dd (w0 w : World) (a : Fp) (r : Nat) (rv : Value) (N : Nat) (L M : List Fe) : Prop where
  fo : Fo w a N L
  rf : Rf w r rv N M
  ha : ∀ b, a.has b → w0.heap.size ≤ b
  hr : w0.heap.size ≤ r
  hv : ∀ b, rv.ownBlock = some b → w0.heap.size ≤ b
  nr : ¬ a.has r
  nv : ∀ b, rv.ownBlock = some b → ¬ a.has b
  bel : Below w0.heap.size w0 w
section
variable {w0 w w' : World} {a : Fp} {r : Nat} {rv : Value} {N : Nat} {L L' M M' : List Fe}
theorem Dd.prog (h : Dd w0 w a r rv N L M) (hf : Fo w' a N L') (hb : But a.has w w') : Dd w0 w' a r rv N L' M :=
  ⟨hf, h.rf.but hb h.nr h.nv, h.ha, h.hr, h.hv, h.nr, h.nv, h.bel.trans (hb.below h.bel.size h.ha)⟩
theorem Dd.doc (h : Dd w0 w a r rv N L M) (hg : RfGo w r rv w' N M') : ∃ rv', Dd w0 w' a r rv' N L M' := by
  obtain ⟨rv', h1, h2, h3⟩ := hg
  refine ⟨rv', ?_, h1, h.ha, h.hr, fun b hb => ?_, h.nr, fun b hb hh => ?_, h.bel.trans (h2.below h.bel.size fun b e => by have e' : b = r := e; rw [e']; exact h.hr)⟩
  · obtain ⟨z, hz⟩ := h.fo
    exact ⟨z, hz.but h2 fun b hb e => h.nr (by have e' : b = r := e; rw [← e']; exact hb)⟩
  · rcases h3 b hb with h4 | h4
    · exact h.hv b h4
    · exact Nat.le_trans h.bel.size h4
  · rcases h3 b hb with h4 | h4
    · exact h.nv b h4 hh
    · have := h.fo.lt b hh; omega
theorem rfgo_but (hg : RfGo w r rv w' N M') : But (fun b => b = r) w w' := by
  obtain ⟨_, _, h, _⟩ := hg
  exact h
theorem Dd.below (h : Dd w0 w a r rv N L M) (hb : Below w.heap.size w w') : Dd w0 w' a r rv N L M :=
  ⟨h.fo.below hb, h.rf.below hb, h.ha, h.hr, h.hv, h.nr, h.nv, Below.onto h.bel hb⟩
/-- what the step leaves -/
def DdX (w0 w : World) (a : Fp) (r : Nat) (N : Nat) : Prop := ∃ rv L, Dd w0 w a r rv N L L
end
theorem bx_but {W W' : World} {B : Nat} {vs : List Value} {S : Nat → Prop} (h : Bx W B vs) (hb : But S W W') (hS : ¬ S B) : Bx W' B vs := fun i v e => (hb.cell (h i v e) hS)
section
variable {w0 w : World} {a : Fp} {r : Nat} {rv : Value} {N : Nat} {L : List Fe}
set_option maxHeartbeats 4000000 in
theorem dstep_root (h : Dd w0 w a r rv N L L) (x y : Int) : Calls Try.prog 8 #[a.ptr, .pointer (some ⟨r, 0, none⟩), .agg #[.int .i64 1, .int .i64 x, .int .i64 y]] w fun e w' => e = .returned (.bool true) ∧ DdX w0 w' a r N := by
  have hb1 : Below w.heap.size w (w.alloc (.cells #[.int .i64 1, .int .i64 x, .int .i64 y] 33)) := (Below.refl _ w).alloc (Nat.le_refl _) _
  have hx : Bx (w.alloc (.cells #[.int .i64 1, .int .i64 x, .int .i64 y] 33)) w.heap.size [.int .i64 1, .int .i64 x, .int .i64 y] := bx_new w [.int .i64 1, .int .i64 x, .int .i64 y] _
  have HD : Hid (Dd w0 (w.alloc (.cells #[.int .i64 1, .int .i64 x, .int .i64 y] 33)) a r rv N L L) := h.below hb1
  have no1 : ¬ a.has w.heap.size := fun ho => by have := h.fo.lt _ ho; omega
  have no2 : ¬ w.heap.size = r := fun e => by have := h.rf.lt; omega
  have hs1 : (w.alloc (.cells #[.int .i64 1, .int .i64 x, .int .i64 y] 33)).heap.size = w.heap.size + 1 := by simp
  clear h
  go_enter Try.func8, Try.ntmps8
  have k0 := hx 0 _ rfl
  go_wp2_with fail
  have HS1 : Hid (True = True ∧ Below w.heap.size w (w.alloc (.cells #[.int .i64 1, .int .i64 x, .int .i64 y] 33))) := ⟨rfl, hb1⟩
  generalize w.alloc (.cells #[.int .i64 1, .int .i64 x, .int .i64 y] 33) = w1 at *
  have HDd : Hid (Dd w0 w1.drew a r rv N L L) := HD.out.below (Below.refl _ _).drew
  have HC := root_k HDd.out.fo x
  have hxd : Bx w1.drew w.heap.size [.int .i64 1, .int .i64 x, .int .i64 y] := hx
  have c1 := hxd 1 _ rfl
  have c2 := hxd 2 _ rfl
  go_region_held3 (fun W => W.cell? ⟨w.heap.size, 1, none⟩ = some (.int .i64 x)) (first | assumption | exact ⟨c1, c2⟩ | exact ⟨d1, d2⟩ | exact ⟨f1, f2⟩) (first
    | (go_at_call 20; (with_reducible refine HC.mono ?_); rintro e w3 ⟨rfl, hf3, hb3⟩; have hx3 := bx_but hxd hb3 no1; have d1 := hx3 1 _ rfl; have d2 := hx3 2 _ rfl; have H3 := HDd.out.prog hf3 hb3; have hcall := rroot12 H3.rf x)
    | (go_at_call 26; (with_reducible refine hcall.mono ?_); rintro e w4 ⟨rfl, hg4⟩; have hx4 := bx_but hx3 (rfgo_but hg4) no2; have f1 := hx4 1 _ rfl; have f2 := hx4 2 _ rfl))
  have HF : Hid (DdX w0 w4 a r N) := by
    obtain ⟨rv', h⟩ := H3.doc hg4
    exact ⟨rv', _, h⟩
  clear hf3 hb3 hg4 hcall d1 d2 f1 f2 c1 c2 k0 hx hx3 hx4 hxd HC H3
  go_wp2_with fail
  go_ret
  exact ⟨ret_bool (by simp), HF.out⟩
set_option maxHeartbeats 4000000 in
theorem dstep_der (h : Dd w0 w a r rv N L L) (x y : Int) : Calls Try.prog 8 #[a.ptr, .pointer (some ⟨r, 0, none⟩), .agg #[.int .i64 2, .int .i64 x, .int .i64 y]] w fun e w' => e = .returned (.bool true) ∧ DdX w0 w' a r N := by
  have hb1 : Below w.heap.size w (w.alloc (.cells #[.int .i64 2, .int .i64 x, .int .i64 y] 33)) := (Below.refl _ w).alloc (Nat.le_refl _) _
  have hx : Bx (w.alloc (.cells #[.int .i64 2, .int .i64 x, .int .i64 y] 33)) w.heap.size [.int .i64 2, .int .i64 x, .int .i64 y] := bx_new w [.int .i64 2, .int .i64 x, .int .i64 y] _
  have HD : Hid (Dd w0 (w.alloc (.cells #[.int .i64 2, .int .i64 x, .int .i64 y] 33)) a r rv N L L) := h.below hb1
  have no1 : ¬ a.has w.heap.size := fun ho => by have := h.fo.lt _ ho; omega
  have no2 : ¬ w.heap.size = r := fun e => by have := h.rf.lt; omega
  have hs1 : (w.alloc (.cells #[.int .i64 2, .int .i64 x, .int .i64 y] 33)).heap.size = w.heap.size + 1 := by simp
  clear h
  go_enter Try.func8, Try.ntmps8
  have k0 := hx 0 _ rfl
  go_wp2_with fail
  have HS1 : Hid (True = True ∧ Below w.heap.size w (w.alloc (.cells #[.int .i64 2, .int .i64 x, .int .i64 y] 33))) := ⟨rfl, hb1⟩
  generalize w.alloc (.cells #[.int .i64 2, .int .i64 x, .int .i64 y] 33) = w1 at *
  have HDd : Hid (Dd w0 w1.drew a r rv N L L) := HD.out.below (Below.refl _ _).drew
  have HC := derive_k HDd.out.fo x y
  have hxd : Bx w1.drew w.heap.size [.int .i64 2, .int .i64 x, .int .i64 y] := hx
  have c1 := hxd 1 _ rfl
  have c2 := hxd 2 _ rfl
  go_region_held3 (fun W => W.cell? ⟨w.heap.size, 1, none⟩ = some (.int .i64 x) ∧ W.cell? ⟨w.heap.size, 2, none⟩ = some (.int .i64 y)) (first | assumption | exact ⟨c1, c2⟩ | exact ⟨d1, d2⟩ | exact ⟨f1, f2⟩) (first
    | (go_at_call 21; (with_reducible refine HC.mono ?_); rintro e w3 ⟨rfl, hf3, hb3⟩; have hx3 := bx_but hxd hb3 no1; have d1 := hx3 1 _ rfl; have d2 := hx3 2 _ rfl; have H3 := HDd.out.prog hf3 hb3; have hcall := rder12 H3.rf x y)
    | (go_at_call 27; (with_reducible refine hcall.mono ?_); rintro e w4 ⟨rfl, hg4⟩; have hx4 := bx_but hx3 (rfgo_but hg4) no2; have f1 := hx4 1 _ rfl; have f2 := hx4 2 _ rfl))
  have HF : Hid (DdX w0 w4 a r N) := by
    obtain ⟨rv', h⟩ := H3.doc hg4
    exact ⟨rv', _, h⟩
  clear hf3 hb3 hg4 hcall d1 d2 f1 f2 c1 c2 k0 hx hx3 hx4 hxd HC H3
  go_wp2_with fail
  go_ret
  exact ⟨ret_bool (by simp), HF.out⟩
set_option maxHeartbeats 4000000 in
theorem dstep_cut (h : Dd w0 w a r rv N L L) (x y : Int) : Calls Try.prog 8 #[a.ptr, .pointer (some ⟨r, 0, none⟩), .agg #[.int .i64 3, .int .i64 x, .int .i64 y]] w fun e w' => e = .returned (.bool true) ∧ DdX w0 w' a r N := by
  have hb1 : Below w.heap.size w (w.alloc (.cells #[.int .i64 3, .int .i64 x, .int .i64 y] 33)) := (Below.refl _ w).alloc (Nat.le_refl _) _
  have hx : Bx (w.alloc (.cells #[.int .i64 3, .int .i64 x, .int .i64 y] 33)) w.heap.size [.int .i64 3, .int .i64 x, .int .i64 y] := bx_new w [.int .i64 3, .int .i64 x, .int .i64 y] _
  have HD : Hid (Dd w0 (w.alloc (.cells #[.int .i64 3, .int .i64 x, .int .i64 y] 33)) a r rv N L L) := h.below hb1
  have no1 : ¬ a.has w.heap.size := fun ho => by have := h.fo.lt _ ho; omega
  have no2 : ¬ w.heap.size = r := fun e => by have := h.rf.lt; omega
  have hs1 : (w.alloc (.cells #[.int .i64 3, .int .i64 x, .int .i64 y] 33)).heap.size = w.heap.size + 1 := by simp
  clear h
  have k1 := hx 1 _ rfl
  have hc := cut_k HD.out.fo x
  go_enter Try.func8, Try.ntmps8
  have k0 := hx 0 _ rfl
  go_wp2_with fail
  generalize w.alloc (.cells #[.int .i64 3, .int .i64 x, .int .i64 y] 33) = w1 at *
  refine hc.mono ?_
  rintro e w3 ⟨v1, rfl, hf3, ho3, hb3⟩
  have hx3 := bx_but hx hb3 no1
  have H3 := HD.out.prog hf3 hb3
  have l1 := hx3 1 _ rfl
  have hcall := rcut12 H3.rf x
  have hs3 := hb3.size
  have HO : Hid (w3.ownsRow w1.heap.size 3 1 v1 (cutT N L x).length (encL (cutT N L x))) := ho3
  have HD3 : Hid (Dd w0 w3 a r rv N (wout L (cutT N L x)) L ∧ r < w1.heap.size ∧ (cutT N L x).length ≤ 100000) := ⟨H3, HD.out.rf.lt, by
    have h1 := HD.out.rf.ok
    have h2 := HD.out.rf.hN
    have h3 := blw_len h1 x.toNat
    unfold cutT
    split
    · simp; omega
    · simp⟩
  clear k0 k1 hc hf3 ho3 hb3 hx H3
  go_wp2_with fail
  refine hcall.mono ?_
  rintro e w4 ⟨v2, rfl, ho4, hg4⟩
  have hx4 := bx_but hx3 (rfgo_but hg4) no2
  have hs := rsame12_own (rf_keep HO.out (rfgo_but hg4) HD3.out.2.1) ho4 HD3.out.2.2
  have HF : Hid (DdX w0 w4 a r N) := by
    obtain ⟨rv', h⟩ := HD3.out.1.doc hg4
    exact ⟨rv', _, h⟩
  clear hcall ho4 hg4 hx3 hx4 l1
  generalize askE N L x = ea at *
  go_wp2_with fail
  refine hs.mono ?_
  rintro e w5 ⟨rfl, hb5⟩
  have HG : Hid (DdX w0 w5 a r N) := by
    obtain ⟨rv', L', h⟩ := HF.out
    exact ⟨rv', L', h.below hb5⟩
  clear hs hb5
  go_wp2_with fail
  go_ret
  exact ⟨ret_bool (by simp), HG.out⟩
set_option maxHeartbeats 4000000 in
theorem dstep_pru (h : Dd w0 w a r rv N L L) (x y : Int) : Calls Try.prog 8 #[a.ptr, .pointer (some ⟨r, 0, none⟩), .agg #[.int .i64 4, .int .i64 x, .int .i64 y]] w fun e w' => e = .returned (.bool true) ∧ DdX w0 w' a r N := by
  have hb1 : Below w.heap.size w (w.alloc (.cells #[.int .i64 4, .int .i64 x, .int .i64 y] 33)) := (Below.refl _ w).alloc (Nat.le_refl _) _
  have hx : Bx (w.alloc (.cells #[.int .i64 4, .int .i64 x, .int .i64 y] 33)) w.heap.size [.int .i64 4, .int .i64 x, .int .i64 y] := bx_new w [.int .i64 4, .int .i64 x, .int .i64 y] _
  have HD : Hid (Dd w0 (w.alloc (.cells #[.int .i64 4, .int .i64 x, .int .i64 y] 33)) a r rv N L L) := h.below hb1
  have no1 : ¬ a.has w.heap.size := fun ho => by have := h.fo.lt _ ho; omega
  have no2 : ¬ w.heap.size = r := fun e => by have := h.rf.lt; omega
  have hs1 : (w.alloc (.cells #[.int .i64 4, .int .i64 x, .int .i64 y] 33)).heap.size = w.heap.size + 1 := by simp
  clear h
  have k1 := hx 1 _ rfl
  have hc := prune_k HD.out.fo x
  go_enter Try.func8, Try.ntmps8
  have k0 := hx 0 _ rfl
  go_wp2_with fail
  generalize w.alloc (.cells #[.int .i64 4, .int .i64 x, .int .i64 y] 33) = w1 at *
  refine hc.mono ?_
  rintro e w3 ⟨v1, rfl, hf3, ho3, hb3⟩
  have hx3 := bx_but hx hb3 no1
  have H3 := HD.out.prog hf3 hb3
  have l1 := hx3 1 _ rfl
  have hcall := rprune12 H3.rf x
  have hs3 := hb3.size
  have HO : Hid (w3.ownsRow w1.heap.size 3 1 v1 (pruT N L x).length (encL (pruT N L x))) := ho3
  have HD3 : Hid (Dd w0 w3 a r rv N (wout L (pruT N L x)) L ∧ r < w1.heap.size ∧ (pruT N L x).length ≤ 100000) := ⟨H3, HD.out.rf.lt, by
    have h1 := HD.out.rf.ok
    have h2 := HD.out.rf.hN
    have h3 := blw_len h1 x.toNat
    unfold pruT
    split
    · simp; omega
    · simp⟩
  clear k0 k1 hc hf3 ho3 hb3 hx H3
  go_wp2_with fail
  refine hcall.mono ?_
  rintro e w4 ⟨v2, rfl, ho4, hg4⟩
  have hx4 := bx_but hx3 (rfgo_but hg4) no2
  have hs := rsame12_own (rf_keep HO.out (rfgo_but hg4) HD3.out.2.1) ho4 HD3.out.2.2
  have HF : Hid (DdX w0 w4 a r N) := by
    obtain ⟨rv', h⟩ := HD3.out.1.doc hg4
    exact ⟨rv', _, h⟩
  clear hcall ho4 hg4 hx3 hx4 l1
  generalize askE N L x = ea at *
  go_wp2_with fail
  refine hs.mono ?_
  rintro e w5 ⟨rfl, hb5⟩
  have HG : Hid (DdX w0 w5 a r N) := by
    obtain ⟨rv', L', h⟩ := HF.out
    exact ⟨rv', L', h.below hb5⟩
  clear hs hb5
  go_wp2_with fail
  go_ret
  exact ⟨ret_bool (by simp), HG.out⟩
theorem dstep_none (h : Dd w0 w a r rv N L L) (k x y : Int) (h1 : (k == 1) = false) (h2 : (k == 2) = false) (h3 : (k == 3) = false) (h4 : (k == 4) = false) : Calls Try.prog 8 #[a.ptr, .pointer (some ⟨r, 0, none⟩), .agg #[.int .i64 k, .int .i64 x, .int .i64 y]] w fun e w' => e = .returned (.bool true) ∧ DdX w0 w' a r N := by
  have hb1 : Below w.heap.size w (w.alloc (.cells #[.int .i64 k, .int .i64 x, .int .i64 y] 33)) := (Below.refl _ w).alloc (Nat.le_refl _) _
  have hx : Bx (w.alloc (.cells #[.int .i64 k, .int .i64 x, .int .i64 y] 33)) w.heap.size [.int .i64 k, .int .i64 x, .int .i64 y] := bx_new w [.int .i64 k, .int .i64 x, .int .i64 y] _
  have HF : Hid (DdX w0 (w.alloc (.cells #[.int .i64 k, .int .i64 x, .int .i64 y] 33)) a r N) := ⟨rv, L, h.below hb1⟩
  clear h
  go_enter Try.func8, Try.ntmps8
  have k0 := hx 0 _ rfl
  go_wp2_with fail
  go_ret
  exact ⟨rfl, HF.out⟩
theorem dstep_any (h : Dd w0 w a r rv N L L) (o : DOp) : Calls Try.prog 8 #[a.ptr, .pointer (some ⟨r, 0, none⟩), .agg #[.int .i64 o.k, .int .i64 o.a, .int .i64 o.b]] w fun e w' => e = .returned (.bool true) ∧ DdX w0 w' a r N := by
  obtain ⟨k, x, y⟩ := o
  by_cases h1 : k = 1
  · subst h1; exact dstep_root h x y
  by_cases h2 : k = 2
  · subst h2; exact dstep_der h x y
  by_cases h3 : k = 3
  · subst h3; exact dstep_cut h x y
  by_cases h4 : k = 4
  · subst h4; exact dstep_pru h x y
  exact dstep_none h k x y (by simpa using h1) (by simpa using h2) (by simpa using h3) (by simpa using h4)
set_option maxHeartbeats 4000000 in
theorem dsame_any (h : Dd w0 w a r rv N L L) (x y : Int) : Calls Try.prog 9 #[a.ptr, .pointer (some ⟨r, 0, none⟩), .int .i64 x, .int .i64 y] w fun e w' => e = .returned (.bool true) ∧ Below w.heap.size w w' := by
  have HD : Hid (Dd w0 w a r rv N L L) := h
  have hp := parent_k h.fo x
  clear h
  go_enter Try.func9, Try.ntmps9
  go_wp2_with fail
  refine hp.mono ?_
  rintro e w1 ⟨rfl, hb1⟩
  have HB : Hid (Below w.heap.size w w1) := hb1
  have hq := rparent12 (HD.out.below hb1).rf x
  clear hp hb1
  go_wp2_with fail
  refine hq.mono ?_
  rintro e w2 ⟨rfl, rfl⟩
  have H2 : Hid (Dd w0 w2 a r rv N L L) := HD.out.below HB.out
  clear hq
  have c1 := regrown_call (w := w2) fun W hW => fhas_any (H2.out.below hW).fo.choose_spec x
  have c2 := regrown_call (w := w2) fun W hW => (rhas12 (H2.out.below hW).rf x).mono fun _ _ h => (⟨h.1, by rw [h.2]; exact Below.refl _ _⟩ : _ ∧ Below W.heap.size W _)
  have c3 := regrown_call (w := w2) fun W hW => depth_k (H2.out.below hW).fo x
  have c4 := regrown_call (w := w2) fun W hW => (rdepth12 (H2.out.below hW).rf x).mono fun _ _ h => (⟨h.1, by rw [h.2]; exact Below.refl _ _⟩ : _ ∧ Below W.heap.size W _)
  have c5 := regrown_call (w := w2) fun W hW => under_k (H2.out.below hW).fo x y
  have c6 := regrown_call (w := w2) fun W hW => runder12 (H2.out.below hW).rf x y
  have c7 := regrown_call (w := w2) fun W hW => (len_k12 (H2.out.below hW).fo).mono fun _ _ h => (⟨h.1, by rw [h.2]; exact Below.refl _ _⟩ : _ ∧ Below W.heap.size W _)
  obtain ⟨av, cv, hv⟩ := H2.out.rf.form
  have k1 := H2.out.rf.c1
  rw [hv] at k1
  have k1 := cell_regrown k1
  generalize hasF N L x = t1 at *
  generalize dptI N L x = t2 at *
  generalize undI N L x y = t3 at *
  generalize parI N L x = t4 at *
  generalize parB N L x = t5 at *
  generalize L.length = t6 at *
  go_wp2_with fail
  refine wp_region_quiet_below (by kernel_rfl) (by kernel_rfl) ?_
  repeat (go_big_quiet_step (first | with_reducible exact c1 _ _ | with_reducible exact c2 _ _ | with_reducible exact c3 _ _ | with_reducible exact c4 _ _ | with_reducible exact c5 _ _ | with_reducible exact c6 _ _ | with_reducible exact c7 _ _))
  refine wpQuiet_nil ?_
  intro _ hw'
  obtain ⟨⟨dq, osq⟩, hw''⟩ := hw'
  subst hw''
  have HB2 : Hid (Below w.heap.size w (grow (redrawn w2 dq) osq)) := Below.onto HB.out (below_regrown w2 dq osq)
  clear c1 c2 c3 c4 c5 c6 c7 k1
  generalize grow (redrawn w2 dq) osq = w3 at *
  go_wp2_with fail
  go_ret
  exact ⟨ret_bool (by simp), HB2.out⟩
end
end Go.Proofs.Ytlphombjejgbiaa
namespace Go.Proofs.Ytlphombjejgbiaa
open Go.RowKit Go.Sort Go.Shelf
set_option maxRecDepth 100000

theorem dd_new {w w1 w2 : World} {a : Fp} {n : Nat} (hf : Fo w1 a n []) (hb : Below w.heap.size w w1) (hge : ∀ b, a.has b → w.heap.size ≤ b) (hr : Rf w2 w1.heap.size (.slice none 0 0) n []) (hb2 : Below w1.heap.size w1 w2) : Dd w w2 a w1.heap.size (.slice none 0 0) n [] [] :=
  ⟨hf.below hb2, hr, hge, hb.size, by rintro b ⟨⟩, fun hh => by have := hf.lt _ hh; omega, by rintro b ⟨⟩, Below.onto hb hb2⟩
theorem fslice_head (a : Option Addr) (n q cap : Nat) (hq : q ≤ cap) (W : World) : (Instr.slice 35 (.slice a n cap) none (some (.int .i64 (q : Int))) none).run Try.prog W = .ok (.slice a q cap) W := by
  have hs : ∀ w, (sizeOf (Try.prog.elem 35)).run Try.prog w = .ok 1 w := fun w => by kernel_rfl
  rw [run_slice_h _ 35 a n cap (by kernel_rfl) .i64 q (by omega) (by omega), hs]
  cases a with
  | none => simp [sliced, Result.andThen]
  | some x => simp only [sliced, Result.andThen, Option.map_some, Nat.zero_mul, Nat.sub_zero, Int.toNat_natCast]; split <;> rfl
theorem druns_bad (x : Int) (h : x < 0 ∨ 1024 < x) (a : Option Addr) (len cap : Nat) (n q m : Int) (w : World) :
    Calls Try.prog 3 #[.int .i64 x, .slice a len cap, .int .i64 n, .int .i64 q, .int .i64 m] w fun e w' => e = .returned (.bool true) ∧ Below w.heap.size w w' := by
  have hA := dawake_k w
  have h1 := fun W => dnew_bad x h W
  have h2 := fun W => rnew12_bad x h W
  go_enter Try.func3, Try.ntmps3
  go_wp2_with fail
  refine hA.mono ?_
  rintro e w1 ⟨rfl, hb1⟩
  have HB : Hid (Below w.heap.size w w1) := hb1
  clear hA hb1 h
  go_wp2_with fail
  refine (h1 _).mono ?_
  rintro e w2 ⟨rfl, rfl⟩
  go_wp2_with fail
  refine (h2 _).mono ?_
  rintro e w3 ⟨rfl, rfl⟩
  go_wp2_with fail
  go_ret
  exact ⟨rfl, HB.out⟩
set_option maxHeartbeats 8000000 in
theorem druns_ok (N : Nat) (hN : N ≤ 1024) (a : Option Addr) (len cap : Nat) (g : Nat → DOp) (n q m : Int) (w : World) (hs : Rd w a len 3 (fun j => encD (g j))) (hlc : len ≤ 9223372036854775807) :
    Calls Try.prog 3 #[.int .i64 (N : Int), .slice a len cap, .int .i64 n, .int .i64 q, .int .i64 m] w fun e w' => e = .returned (.bool true) ∧ Below w.heap.size w w' := by
  have hA := dawake_k w
  have h1 := fun W => dnew_k N hN W
  have HS : Hid (Rd w a len 3 (fun j => encD (g j))) := hs
  clear hs
  go_enter Try.func3, Try.ntmps3
  go_wp2_with fail
  refine hA.mono ?_
  rintro e w1 ⟨rfl, hb1⟩
  have HB : Hid (Below w.heap.size w w1) := hb1
  have HS1 : Hid (Rd w1 a len 3 (fun j => encD (g j))) := HS.out.below hb1
  clear hA hb1 HS
  go_wp2_with fail
  refine (h1 _).mono ?_
  rintro e w2 ⟨f, rfl, hf, hb2, hge⟩
  have h2 := rnew12_ok N hN w2
  have HF2 : Hid (Fo w2 f N [] ∧ Below w1.heap.size w1 w2 ∧ ∀ b, f.has b → w1.heap.size ≤ b) := ⟨hf, hb2, hge⟩
  clear h1 hf hb2 hge
  go_wp2_with fail
  refine h2.mono ?_
  rintro e w3 ⟨rfl, hr, hb3⟩
  have HD : Hid (DdX w1 w3 f w2.heap.size N) := ⟨_, [], dd_new HF2.out.1 HF2.out.2.1 HF2.out.2.2 hr hb3⟩
  clear h2 hr hb3 HF2
  generalize w2.heap.size = r at *
  go_wp2_with fail
  go_loopw [15] (fun vi wr => ∃ i : Nat, vi = .int .i64 (i : Int) ∧ i ≤ 50 ∧ Hid (DdX w1 wr f r N)) (fun vi _ => 50 - (intOf vi).toNat)
  case atStart => exact ⟨0, rfl, by omega, HD.out⟩
  case round =>
    obtain ⟨i, rfl, hi, HR⟩ := hrel
    clear HD
    by_cases h50 : i < 50 ∧ i < len
    · obtain ⟨h50, hlt⟩ := h50
      obtain ⟨b, off, rfl, hcell⟩ := HS1.out i hlt
      have k0 : w1.cell? ⟨b, off + i * 3, none⟩ = some (.int .i64 (g i).k) := hcell 0 (by omega)
      have k1 : w1.cell? ⟨b, off + i * 3 + 1, none⟩ = some (.int .i64 (g i).a) := hcell 1 (by omega)
      have k2 : w1.cell? ⟨b, off + i * 3 + 2, none⟩ = some (.int .i64 (g i).b) := hcell 2 (by omega)
      have toS : Hid (∀ W, Below w1.heap.size w1 W → W.cell? ⟨b, off + i * 3, none⟩ = some (.int .i64 (g i).k) ∧ W.cell? ⟨b, off + i * 3 + 1, none⟩ = some (.int .i64 (g i).a) ∧ W.cell? ⟨b, off + i * 3 + 2, none⟩ = some (.int .i64 (g i).b)) := fun W h =>
        ⟨(h.cell (p := ⟨b, off + i * 3, none⟩) (cell_lt k0)).trans k0, (h.cell (p := ⟨b, off + i * 3 + 1, none⟩) (cell_lt k1)).trans k1, (h.cell (p := ⟨b, off + i * 3 + 2, none⟩) (cell_lt k2)).trans k2⟩
      obtain ⟨rv, L, hd⟩ := HR.out
      have hdd := hd.below (Below.refl _ wr).drew
      obtain ⟨z0, z1, z2⟩ := toS.out _ hdd.bel
      obtain ⟨z0', z1', z2'⟩ := toS.out _ hd.bel
      have cO := dstep_any hdd (g i)
      have hdrb := hdd.bel
      clear hcell k0 k1 k2 hd hdd
      generalize g i = o at *
      go_wp2_with fail
      have zz : Hid (Below w1.heap.size w1 wr.drew) := hdrb
      go_region_held3 (fun W => W.cell? ⟨b, off + i * 3, none⟩ = some (.int .i64 o.k) ∧ W.cell? ⟨b, off + i * 3 + 1, none⟩ = some (.int .i64 o.a) ∧ W.cell? ⟨b, off + i * 3 + 2, none⟩ = some (.int .i64 o.b)) (first | assumption | exact ⟨z0, z1, z2⟩ | exact ⟨y0, y1, y2⟩ | exact ⟨x0, x1, x2⟩) (first | (go_at_call 8; (with_reducible refine cO.mono ?_); rintro v w5 ⟨rfl, h5⟩; have H5 : Hid (DdX w1 w5 f r N) := h5; obtain ⟨rv5, L5, d5⟩ := h5; obtain ⟨y0, y1, y2⟩ := toS.out _ d5.bel; have cS := dsame_any d5 o.a o.b; have B5 : Hid (Below w1.heap.size w1 w5) := d5.bel; clear d5) | (go_at_call 9; (with_reducible refine cS.mono ?_); rintro v w6 ⟨rfl, hb6⟩; obtain ⟨x0, x1, x2⟩ := toS.out _ (Below.onto B5.out hb6)))
      have HR2 : Hid (DdX w1 w6 f r N) := by
        obtain ⟨rv6, L6, d6⟩ := H5.out
        exact ⟨rv6, L6, d6.below hb6⟩
      clear cO cS hb6 x0 x1 x2 y0 y1 y2 z0 z1 z2 z0' z1' z2' H5 HR hdrb zz toS
      go_wp2_with fail
      go_roundw
      case rel => exact ⟨i + 1, by go_num, by omega, HR2⟩
      case measure => simp [intOf]; omega
    · have hi2 : ¬ i < len ∨ (i < len ∧ i = 50) := by omega
      clear h50
      by_cases m1 : m < 1
      · rcases hi2 with hlt | ⟨hlt, rfl⟩
        · obtain ⟨rv, L, hd⟩ := HR.out
          have cB : Calls Try.prog 10 #[f.ptr, .int .i64 n, .int .i64 2000] wr fun e w' => ∃ v, e = .returned (.tuple #[v, .bool true]) ∧ w'.ownsRow wr.heap.size 3 1 v ((belT N L n).take 2000).length (encL ((belT N L n).take 2000)) ∧ Below wr.heap.size wr w' := lbelow_k hd.fo n 2000 (by omega)
          have HD2 : Hid (Dd w1 wr f r rv N L L) := hd
          clear hd HR HS1
          go_wp2_with fail
          refine cB.mono ?_
          rintro e w5 ⟨v1, rfl, ho1, hb5⟩
          have HO1 : Hid (w5.ownsRow wr.heap.size 3 1 v1 ((belT N L n).take 2000).length (encL ((belT N L n).take 2000)) ∧ Dd w1 w5 f r rv N L L) := ⟨ho1, HD2.out.below hb5⟩
          have cR := rbelow12 HO1.out.2.rf n
          clear cB ho1 hb5 HD2
          go_wp2_with fail
          refine cR.mono ?_
          rintro e w6 ⟨v2, rfl, ho2, hb6⟩
          obtain ⟨a2, cap2, rfl, hc2, _⟩ := own_sep ho2
          obtain ⟨a1, cap1, rfl, hc1, _⟩ := own_sep (down_stay HO1.out.1 hb6)
          obtain ⟨_, _, hx0, hx1, hx2⟩ := fown_form ho2
          injection hx0 with hx3 hx4 hx5
          subst hx3 hx5
          clear hx4 hx2
          have HD6 : Hid (Dd w1 w6 f r rv N L L) := HO1.out.2.below hb6
          have cS := dsame_any HD6.out n q
          have HC : Hid (Cells w6 .i64 a1 ((belT N L n).take 2000).length (atL ((belT N L n).take 2000)) ∧ Cells w6 .i64 a2 (belT N L n).length (atL (belT N L n))) := ⟨hc1, hc2⟩
          have hbl : (belT N L n).length ≤ 1024 := by
            have h1 := blw_len HD6.out.rf.ok n.toNat
            unfold belT
            split
            · omega
            · simp
          clear hc1 hc2 ho2 hb6 cR HO1
          obtain ⟨T, hT⟩ : ∃ T, belT N L n = T := ⟨_, rfl⟩
          rw [hT] at HC hbl hx1 ⊢
          clear hT
          obtain ⟨M, hM⟩ : ∃ M, T.length = M := ⟨_, rfl⟩
          obtain ⟨k, hk⟩ : ∃ k, k = min 2000 M := ⟨_, rfl⟩
          have e1 : (T.take 2000).length = k := by rw [List.length_take, hM, hk]
          rw [e1, hM] at HC
          rw [hM] at hbl hx1
          have HT : Hid (∀ j, j < k → atL (T.take 2000) j = atL T j) := fun j hj => by
            unfold atL
            rw [List.getD_eq_getElem?_getD, List.getD_eq_getElem?_getD, List.getElem?_take, if_pos (by omega)]
          have hkM : k ≤ M := by omega
          have hmi : (if (2000 : Int) < (M : Int) then (2000 : Int) else (M : Int)) = (k : Int) := by split <;> omega
          have hmi3 : ∀ W ts t, (Builtin.min_ ts t #[.int .i64 (M : Int), .int .i64 2000]).run Try.prog W = .ok (.int .i64 (k : Int)) W := fun W ts t => by rw [run_min_int2, hmi]
          have hsl := fslice_head a2 M k cap2 (by omega)
          rw [e1, hM]
          clear hmi e1 hM hk
          go_wp2_with fail
          refine cS.mono ?_
          rintro e w7 ⟨rfl, hb7⟩
          have HC7 : Hid (Cells w7 .i64 a1 k (atL (T.take 2000)) ∧ Cells w7 .i64 a2 k (atL T)) := ⟨HC.out.1.below hb7, (HC.out.2.mono hkM).below hb7⟩
          have HB7 : Hid (Below w.heap.size w w7) := Below.onto (Below.onto HB.out HD6.out.bel) hb7
          have cE := rsame12_true a1 a2 k cap1 cap2 _ _ w7 (by omega) HC7.out.1 HC7.out.2 HT.out
          clear cS hb7 HC
          go_wp2_with fail
          refine cE.mono ?_
          rintro e w8 ⟨rfl, hb8⟩
          have HB8 : Hid (Below w.heap.size w w8) := Below.onto HB7.out hb8
          clear cE hb8
          go_wp2_with fail
          go_ret
          exact ⟨ret_bool (by simp), HB8.out⟩
        · obtain ⟨rv, L, hd⟩ := HR.out
          have cB : Calls Try.prog 10 #[f.ptr, .int .i64 n, .int .i64 2000] wr fun e w' => ∃ v, e = .returned (.tuple #[v, .bool true]) ∧ w'.ownsRow wr.heap.size 3 1 v ((belT N L n).take 2000).length (encL ((belT N L n).take 2000)) ∧ Below wr.heap.size wr w' := lbelow_k hd.fo n 2000 (by omega)
          have HD2 : Hid (Dd w1 wr f r rv N L L) := hd
          clear hd HR HS1
          go_wp2_with fail
          refine cB.mono ?_
          rintro e w5 ⟨v1, rfl, ho1, hb5⟩
          have HO1 : Hid (w5.ownsRow wr.heap.size 3 1 v1 ((belT N L n).take 2000).length (encL ((belT N L n).take 2000)) ∧ Dd w1 w5 f r rv N L L) := ⟨ho1, HD2.out.below hb5⟩
          have cR := rbelow12 HO1.out.2.rf n
          clear cB ho1 hb5 HD2
          go_wp2_with fail
          refine cR.mono ?_
          rintro e w6 ⟨v2, rfl, ho2, hb6⟩
          obtain ⟨a2, cap2, rfl, hc2, _⟩ := own_sep ho2
          obtain ⟨a1, cap1, rfl, hc1, _⟩ := own_sep (down_stay HO1.out.1 hb6)
          obtain ⟨_, _, hx0, hx1, hx2⟩ := fown_form ho2
          injection hx0 with hx3 hx4 hx5
          subst hx3 hx5
          clear hx4 hx2
          have HD6 : Hid (Dd w1 w6 f r rv N L L) := HO1.out.2.below hb6
          have cS := dsame_any HD6.out n q
          have HC : Hid (Cells w6 .i64 a1 ((belT N L n).take 2000).length (atL ((belT N L n).take 2000)) ∧ Cells w6 .i64 a2 (belT N L n).length (atL (belT N L n))) := ⟨hc1, hc2⟩
          have hbl : (belT N L n).length ≤ 1024 := by
            have h1 := blw_len HD6.out.rf.ok n.toNat
            unfold belT
            split
            · omega
            · simp
          clear hc1 hc2 ho2 hb6 cR HO1
          obtain ⟨T, hT⟩ : ∃ T, belT N L n = T := ⟨_, rfl⟩
          rw [hT] at HC hbl hx1 ⊢
          clear hT
          obtain ⟨M, hM⟩ : ∃ M, T.length = M := ⟨_, rfl⟩
          obtain ⟨k, hk⟩ : ∃ k, k = min 2000 M := ⟨_, rfl⟩
          have e1 : (T.take 2000).length = k := by rw [List.length_take, hM, hk]
          rw [e1, hM] at HC
          rw [hM] at hbl hx1
          have HT : Hid (∀ j, j < k → atL (T.take 2000) j = atL T j) := fun j hj => by
            unfold atL
            rw [List.getD_eq_getElem?_getD, List.getD_eq_getElem?_getD, List.getElem?_take, if_pos (by omega)]
          have hkM : k ≤ M := by omega
          have hmi : (if (2000 : Int) < (M : Int) then (2000 : Int) else (M : Int)) = (k : Int) := by split <;> omega
          have hmi3 : ∀ W ts t, (Builtin.min_ ts t #[.int .i64 (M : Int), .int .i64 2000]).run Try.prog W = .ok (.int .i64 (k : Int)) W := fun W ts t => by rw [run_min_int2, hmi]
          have hsl := fslice_head a2 M k cap2 (by omega)
          rw [e1, hM]
          clear hmi e1 hM hk
          go_wp2_with fail
          refine cS.mono ?_
          rintro e w7 ⟨rfl, hb7⟩
          have HC7 : Hid (Cells w7 .i64 a1 k (atL (T.take 2000)) ∧ Cells w7 .i64 a2 k (atL T)) := ⟨HC.out.1.below hb7, (HC.out.2.mono hkM).below hb7⟩
          have HB7 : Hid (Below w.heap.size w w7) := Below.onto (Below.onto HB.out HD6.out.bel) hb7
          have cE := rsame12_true a1 a2 k cap1 cap2 _ _ w7 (by omega) HC7.out.1 HC7.out.2 HT.out
          clear cS hb7 HC
          go_wp2_with fail
          refine cE.mono ?_
          rintro e w8 ⟨rfl, hb8⟩
          have HB8 : Hid (Below w.heap.size w w8) := Below.onto HB7.out hb8
          clear cE hb8
          go_wp2_with fail
          go_ret
          exact ⟨ret_bool (by simp), HB8.out⟩
      · by_cases m2 : 2000 < m
        · rcases hi2 with hlt | ⟨hlt, rfl⟩
          · obtain ⟨rv, L, hd⟩ := HR.out
            have cB : Calls Try.prog 10 #[f.ptr, .int .i64 n, .int .i64 2000] wr fun e w' => ∃ v, e = .returned (.tuple #[v, .bool true]) ∧ w'.ownsRow wr.heap.size 3 1 v ((belT N L n).take 2000).length (encL ((belT N L n).take 2000)) ∧ Below wr.heap.size wr w' := lbelow_k hd.fo n 2000 (by omega)
            have HD2 : Hid (Dd w1 wr f r rv N L L) := hd
            clear hd HR HS1
            go_wp2_with fail
            refine cB.mono ?_
            rintro e w5 ⟨v1, rfl, ho1, hb5⟩
            have HO1 : Hid (w5.ownsRow wr.heap.size 3 1 v1 ((belT N L n).take 2000).length (encL ((belT N L n).take 2000)) ∧ Dd w1 w5 f r rv N L L) := ⟨ho1, HD2.out.below hb5⟩
            have cR := rbelow12 HO1.out.2.rf n
            clear cB ho1 hb5 HD2
            go_wp2_with fail
            refine cR.mono ?_
            rintro e w6 ⟨v2, rfl, ho2, hb6⟩
            obtain ⟨a2, cap2, rfl, hc2, _⟩ := own_sep ho2
            obtain ⟨a1, cap1, rfl, hc1, _⟩ := own_sep (down_stay HO1.out.1 hb6)
            obtain ⟨_, _, hx0, hx1, hx2⟩ := fown_form ho2
            injection hx0 with hx3 hx4 hx5
            subst hx3 hx5
            clear hx4 hx2
            have HD6 : Hid (Dd w1 w6 f r rv N L L) := HO1.out.2.below hb6
            have cS := dsame_any HD6.out n q
            have HC : Hid (Cells w6 .i64 a1 ((belT N L n).take 2000).length (atL ((belT N L n).take 2000)) ∧ Cells w6 .i64 a2 (belT N L n).length (atL (belT N L n))) := ⟨hc1, hc2⟩
            have hbl : (belT N L n).length ≤ 1024 := by
              have h1 := blw_len HD6.out.rf.ok n.toNat
              unfold belT
              split
              · omega
              · simp
            clear hc1 hc2 ho2 hb6 cR HO1
            obtain ⟨T, hT⟩ : ∃ T, belT N L n = T := ⟨_, rfl⟩
            rw [hT] at HC hbl hx1 ⊢
            clear hT
            obtain ⟨M, hM⟩ : ∃ M, T.length = M := ⟨_, rfl⟩
            obtain ⟨k, hk⟩ : ∃ k, k = min 2000 M := ⟨_, rfl⟩
            have e1 : (T.take 2000).length = k := by rw [List.length_take, hM, hk]
            rw [e1, hM] at HC
            rw [hM] at hbl hx1
            have HT : Hid (∀ j, j < k → atL (T.take 2000) j = atL T j) := fun j hj => by
              unfold atL
              rw [List.getD_eq_getElem?_getD, List.getD_eq_getElem?_getD, List.getElem?_take, if_pos (by omega)]
            have hkM : k ≤ M := by omega
            have hmi : (if (2000 : Int) < (M : Int) then (2000 : Int) else (M : Int)) = (k : Int) := by split <;> omega
            have hmi3 : ∀ W ts t, (Builtin.min_ ts t #[.int .i64 (M : Int), .int .i64 2000]).run Try.prog W = .ok (.int .i64 (k : Int)) W := fun W ts t => by rw [run_min_int2, hmi]
            have hsl := fslice_head a2 M k cap2 (by omega)
            rw [e1, hM]
            clear hmi e1 hM hk
            go_wp2_with fail
            refine cS.mono ?_
            rintro e w7 ⟨rfl, hb7⟩
            have HC7 : Hid (Cells w7 .i64 a1 k (atL (T.take 2000)) ∧ Cells w7 .i64 a2 k (atL T)) := ⟨HC.out.1.below hb7, (HC.out.2.mono hkM).below hb7⟩
            have HB7 : Hid (Below w.heap.size w w7) := Below.onto (Below.onto HB.out HD6.out.bel) hb7
            have cE := rsame12_true a1 a2 k cap1 cap2 _ _ w7 (by omega) HC7.out.1 HC7.out.2 HT.out
            clear cS hb7 HC
            go_wp2_with fail
            refine cE.mono ?_
            rintro e w8 ⟨rfl, hb8⟩
            have HB8 : Hid (Below w.heap.size w w8) := Below.onto HB7.out hb8
            clear cE hb8
            go_wp2_with fail
            go_ret
            exact ⟨ret_bool (by simp), HB8.out⟩
          · obtain ⟨rv, L, hd⟩ := HR.out
            have cB : Calls Try.prog 10 #[f.ptr, .int .i64 n, .int .i64 2000] wr fun e w' => ∃ v, e = .returned (.tuple #[v, .bool true]) ∧ w'.ownsRow wr.heap.size 3 1 v ((belT N L n).take 2000).length (encL ((belT N L n).take 2000)) ∧ Below wr.heap.size wr w' := lbelow_k hd.fo n 2000 (by omega)
            have HD2 : Hid (Dd w1 wr f r rv N L L) := hd
            clear hd HR HS1
            go_wp2_with fail
            refine cB.mono ?_
            rintro e w5 ⟨v1, rfl, ho1, hb5⟩
            have HO1 : Hid (w5.ownsRow wr.heap.size 3 1 v1 ((belT N L n).take 2000).length (encL ((belT N L n).take 2000)) ∧ Dd w1 w5 f r rv N L L) := ⟨ho1, HD2.out.below hb5⟩
            have cR := rbelow12 HO1.out.2.rf n
            clear cB ho1 hb5 HD2
            go_wp2_with fail
            refine cR.mono ?_
            rintro e w6 ⟨v2, rfl, ho2, hb6⟩
            obtain ⟨a2, cap2, rfl, hc2, _⟩ := own_sep ho2
            obtain ⟨a1, cap1, rfl, hc1, _⟩ := own_sep (down_stay HO1.out.1 hb6)
            obtain ⟨_, _, hx0, hx1, hx2⟩ := fown_form ho2
            injection hx0 with hx3 hx4 hx5
            subst hx3 hx5
            clear hx4 hx2
            have HD6 : Hid (Dd w1 w6 f r rv N L L) := HO1.out.2.below hb6
            have cS := dsame_any HD6.out n q
            have HC : Hid (Cells w6 .i64 a1 ((belT N L n).take 2000).length (atL ((belT N L n).take 2000)) ∧ Cells w6 .i64 a2 (belT N L n).length (atL (belT N L n))) := ⟨hc1, hc2⟩
            have hbl : (belT N L n).length ≤ 1024 := by
              have h1 := blw_len HD6.out.rf.ok n.toNat
              unfold belT
              split
              · omega
              · simp
            clear hc1 hc2 ho2 hb6 cR HO1
            obtain ⟨T, hT⟩ : ∃ T, belT N L n = T := ⟨_, rfl⟩
            rw [hT] at HC hbl hx1 ⊢
            clear hT
            obtain ⟨M, hM⟩ : ∃ M, T.length = M := ⟨_, rfl⟩
            obtain ⟨k, hk⟩ : ∃ k, k = min 2000 M := ⟨_, rfl⟩
            have e1 : (T.take 2000).length = k := by rw [List.length_take, hM, hk]
            rw [e1, hM] at HC
            rw [hM] at hbl hx1
            have HT : Hid (∀ j, j < k → atL (T.take 2000) j = atL T j) := fun j hj => by
              unfold atL
              rw [List.getD_eq_getElem?_getD, List.getD_eq_getElem?_getD, List.getElem?_take, if_pos (by omega)]
            have hkM : k ≤ M := by omega
            have hmi : (if (2000 : Int) < (M : Int) then (2000 : Int) else (M : Int)) = (k : Int) := by split <;> omega
            have hmi3 : ∀ W ts t, (Builtin.min_ ts t #[.int .i64 (M : Int), .int .i64 2000]).run Try.prog W = .ok (.int .i64 (k : Int)) W := fun W ts t => by rw [run_min_int2, hmi]
            have hsl := fslice_head a2 M k cap2 (by omega)
            rw [e1, hM]
            clear hmi e1 hM hk
            go_wp2_with fail
            refine cS.mono ?_
            rintro e w7 ⟨rfl, hb7⟩
            have HC7 : Hid (Cells w7 .i64 a1 k (atL (T.take 2000)) ∧ Cells w7 .i64 a2 k (atL T)) := ⟨HC.out.1.below hb7, (HC.out.2.mono hkM).below hb7⟩
            have HB7 : Hid (Below w.heap.size w w7) := Below.onto (Below.onto HB.out HD6.out.bel) hb7
            have cE := rsame12_true a1 a2 k cap1 cap2 _ _ w7 (by omega) HC7.out.1 HC7.out.2 HT.out
            clear cS hb7 HC
            go_wp2_with fail
            refine cE.mono ?_
            rintro e w8 ⟨rfl, hb8⟩
            have HB8 : Hid (Below w.heap.size w w8) := Below.onto HB7.out hb8
            clear cE hb8
            go_wp2_with fail
            go_ret
            exact ⟨ret_bool (by simp), HB8.out⟩
        · obtain ⟨mm, rfl⟩ : ∃ mm : Nat, m = (mm : Int) := ⟨m.toNat, by omega⟩
          rcases hi2 with hlt | ⟨hlt, rfl⟩
          · obtain ⟨rv, L, hd⟩ := HR.out
            have cB : Calls Try.prog 10 #[f.ptr, .int .i64 n, .int .i64 mm] wr fun e w' => ∃ v, e = .returned (.tuple #[v, .bool true]) ∧ w'.ownsRow wr.heap.size 3 1 v ((belT N L n).take mm).length (encL ((belT N L n).take mm)) ∧ Below wr.heap.size wr w' := lbelow_k hd.fo n mm (by omega)
            have HD2 : Hid (Dd w1 wr f r rv N L L) := hd
            clear hd HR HS1
            go_wp2_with fail
            refine cB.mono ?_
            rintro e w5 ⟨v1, rfl, ho1, hb5⟩
            have HO1 : Hid (w5.ownsRow wr.heap.size 3 1 v1 ((belT N L n).take mm).length (encL ((belT N L n).take mm)) ∧ Dd w1 w5 f r rv N L L) := ⟨ho1, HD2.out.below hb5⟩
            have cR := rbelow12 HO1.out.2.rf n
            clear cB ho1 hb5 HD2
            go_wp2_with fail
            refine cR.mono ?_
            rintro e w6 ⟨v2, rfl, ho2, hb6⟩
            obtain ⟨a2, cap2, rfl, hc2, _⟩ := own_sep ho2
            obtain ⟨a1, cap1, rfl, hc1, _⟩ := own_sep (down_stay HO1.out.1 hb6)
            obtain ⟨_, _, hx0, hx1, hx2⟩ := fown_form ho2
            injection hx0 with hx3 hx4 hx5
            subst hx3 hx5
            clear hx4 hx2
            have HD6 : Hid (Dd w1 w6 f r rv N L L) := HO1.out.2.below hb6
            have cS := dsame_any HD6.out n q
            have HC : Hid (Cells w6 .i64 a1 ((belT N L n).take mm).length (atL ((belT N L n).take mm)) ∧ Cells w6 .i64 a2 (belT N L n).length (atL (belT N L n))) := ⟨hc1, hc2⟩
            have hbl : (belT N L n).length ≤ 1024 := by
              have h1 := blw_len HD6.out.rf.ok n.toNat
              unfold belT
              split
              · omega
              · simp
            clear hc1 hc2 ho2 hb6 cR HO1
            obtain ⟨T, hT⟩ : ∃ T, belT N L n = T := ⟨_, rfl⟩
            rw [hT] at HC hbl hx1 ⊢
            clear hT
            obtain ⟨M, hM⟩ : ∃ M, T.length = M := ⟨_, rfl⟩
            obtain ⟨k, hk⟩ : ∃ k, k = min mm M := ⟨_, rfl⟩
            have e1 : (T.take mm).length = k := by rw [List.length_take, hM, hk]
            rw [e1, hM] at HC
            rw [hM] at hbl hx1
            have HT : Hid (∀ j, j < k → atL (T.take mm) j = atL T j) := fun j hj => by
              unfold atL
              rw [List.getD_eq_getElem?_getD, List.getD_eq_getElem?_getD, List.getElem?_take, if_pos (by omega)]
            have hkM : k ≤ M := by omega
            have hmi : (if (mm : Int) < (M : Int) then (mm : Int) else (M : Int)) = (k : Int) := by split <;> omega
            have hmi3 : ∀ W ts t, (Builtin.min_ ts t #[.int .i64 (M : Int), .int .i64 mm]).run Try.prog W = .ok (.int .i64 (k : Int)) W := fun W ts t => by rw [run_min_int2, hmi]
            have hsl := fslice_head a2 M k cap2 (by omega)
            rw [e1, hM]
            clear hmi e1 hM hk
            go_wp2_with fail
            refine cS.mono ?_
            rintro e w7 ⟨rfl, hb7⟩
            have HC7 : Hid (Cells w7 .i64 a1 k (atL (T.take mm)) ∧ Cells w7 .i64 a2 k (atL T)) := ⟨HC.out.1.below hb7, (HC.out.2.mono hkM).below hb7⟩
            have HB7 : Hid (Below w.heap.size w w7) := Below.onto (Below.onto HB.out HD6.out.bel) hb7
            have cE := rsame12_true a1 a2 k cap1 cap2 _ _ w7 (by omega) HC7.out.1 HC7.out.2 HT.out
            clear cS hb7 HC
            go_wp2_with fail
            refine cE.mono ?_
            rintro e w8 ⟨rfl, hb8⟩
            have HB8 : Hid (Below w.heap.size w w8) := Below.onto HB7.out hb8
            clear cE hb8
            go_wp2_with fail
            go_ret
            exact ⟨ret_bool (by simp), HB8.out⟩
          · obtain ⟨rv, L, hd⟩ := HR.out
            have cB : Calls Try.prog 10 #[f.ptr, .int .i64 n, .int .i64 mm] wr fun e w' => ∃ v, e = .returned (.tuple #[v, .bool true]) ∧ w'.ownsRow wr.heap.size 3 1 v ((belT N L n).take mm).length (encL ((belT N L n).take mm)) ∧ Below wr.heap.size wr w' := lbelow_k hd.fo n mm (by omega)
            have HD2 : Hid (Dd w1 wr f r rv N L L) := hd
            clear hd HR HS1
            go_wp2_with fail
            refine cB.mono ?_
            rintro e w5 ⟨v1, rfl, ho1, hb5⟩
            have HO1 : Hid (w5.ownsRow wr.heap.size 3 1 v1 ((belT N L n).take mm).length (encL ((belT N L n).take mm)) ∧ Dd w1 w5 f r rv N L L) := ⟨ho1, HD2.out.below hb5⟩
            have cR := rbelow12 HO1.out.2.rf n
            clear cB ho1 hb5 HD2
            go_wp2_with fail
            refine cR.mono ?_
            rintro e w6 ⟨v2, rfl, ho2, hb6⟩
            obtain ⟨a2, cap2, rfl, hc2, _⟩ := own_sep ho2
            obtain ⟨a1, cap1, rfl, hc1, _⟩ := own_sep (down_stay HO1.out.1 hb6)
            obtain ⟨_, _, hx0, hx1, hx2⟩ := fown_form ho2
            injection hx0 with hx3 hx4 hx5
            subst hx3 hx5
            clear hx4 hx2
            have HD6 : Hid (Dd w1 w6 f r rv N L L) := HO1.out.2.below hb6
            have cS := dsame_any HD6.out n q
            have HC : Hid (Cells w6 .i64 a1 ((belT N L n).take mm).length (atL ((belT N L n).take mm)) ∧ Cells w6 .i64 a2 (belT N L n).length (atL (belT N L n))) := ⟨hc1, hc2⟩
            have hbl : (belT N L n).length ≤ 1024 := by
              have h1 := blw_len HD6.out.rf.ok n.toNat
              unfold belT
              split
              · omega
              · simp
            clear hc1 hc2 ho2 hb6 cR HO1
            obtain ⟨T, hT⟩ : ∃ T, belT N L n = T := ⟨_, rfl⟩
            rw [hT] at HC hbl hx1 ⊢
            clear hT
            obtain ⟨M, hM⟩ : ∃ M, T.length = M := ⟨_, rfl⟩
            obtain ⟨k, hk⟩ : ∃ k, k = min mm M := ⟨_, rfl⟩
            have e1 : (T.take mm).length = k := by rw [List.length_take, hM, hk]
            rw [e1, hM] at HC
            rw [hM] at hbl hx1
            have HT : Hid (∀ j, j < k → atL (T.take mm) j = atL T j) := fun j hj => by
              unfold atL
              rw [List.getD_eq_getElem?_getD, List.getD_eq_getElem?_getD, List.getElem?_take, if_pos (by omega)]
            have hkM : k ≤ M := by omega
            have hmi : (if (mm : Int) < (M : Int) then (mm : Int) else (M : Int)) = (k : Int) := by split <;> omega
            have hmi3 : ∀ W ts t, (Builtin.min_ ts t #[.int .i64 (M : Int), .int .i64 mm]).run Try.prog W = .ok (.int .i64 (k : Int)) W := fun W ts t => by rw [run_min_int2, hmi]
            have hsl := fslice_head a2 M k cap2 (by omega)
            rw [e1, hM]
            clear hmi e1 hM hk
            go_wp2_with fail
            refine cS.mono ?_
            rintro e w7 ⟨rfl, hb7⟩
            have HC7 : Hid (Cells w7 .i64 a1 k (atL (T.take mm)) ∧ Cells w7 .i64 a2 k (atL T)) := ⟨HC.out.1.below hb7, (HC.out.2.mono hkM).below hb7⟩
            have HB7 : Hid (Below w.heap.size w w7) := Below.onto (Below.onto HB.out HD6.out.bel) hb7
            have cE := rsame12_true a1 a2 k cap1 cap2 _ _ w7 (by omega) HC7.out.1 HC7.out.2 HT.out
            clear cS hb7 HC
            go_wp2_with fail
            refine cE.mono ?_
            rintro e w8 ⟨rfl, hb8⟩
            have HB8 : Hid (Below w.heap.size w w8) := Below.onto HB7.out hb8
            clear cE hb8
            go_wp2_with fail
            go_ret
            exact ⟨ret_bool (by simp), HB8.out⟩
end Go.Proofs.Ytlphombjejgbiaa
