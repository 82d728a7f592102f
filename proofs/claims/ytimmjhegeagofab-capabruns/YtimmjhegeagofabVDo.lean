/- Program and document side by side; an act. -/
import Derived.Test.YtimmjhegeagofabVRef4
import Derived.Test.YtimmjhegeagofabVLive
import Derived.Deep.RegionHeld3
namespace Go.Proofs.Ytimmjhegeagofab
open Go.RowKit Go.Sort
set_option maxRecDepth 100000

/-- both tables -/
structure Pv (w : World) (p q b : Nat) (a : Option Addr) (cap : Nat) (T : Tb) : Prop where
  t : Tx w p T
  r : Rt w q b a cap T
  pq : p ≠ q
  pb : p ≠ b
/-- what an act may change -/
def B2 (n p b : Nat) (w w' : World) : Prop := But (fun y => y = p ∨ (y = b ∧ 0 < n)) w w'
section
variable {w w' w'' : World} {p q b cap n : Nat} {a : Option Addr} {T T' : Tb}
theorem B2.refl (w : World) : B2 n p b w w := But.refl _ _
theorem B2.trans (h : B2 n p b w w') (k : B2 n p b w' w'') : B2 n p b w w'' := But.trans h k
theorem B2.of (h : Below w.heap.size w w') : B2 n p b w w' := But.of h
theorem B2.drew (h : B2 n p b w w') : B2 n p b w w'.drew := But.drew h
theorem Pv.below (h : Pv w p q b a cap T) (hb : Below w.heap.size w w') : Pv w' p q b a cap T := ⟨h.t.below hb, h.r.below hb, h.pq, h.pb⟩
theorem Pv.one (h : Pv w p q b a cap T) (hb : Bt p w w') : Rt w' q b a cap T := h.r.but hb (fun e => h.pq e.symm) (fun _ e => h.pb e.symm)
theorem Bt.two (h : Bt p w w') : B2 n p b w w' := But.mono h fun _ e => .inl e
theorem Bn.two (h : Bn n b w w') : B2 n p b w w' := But.mono h fun _ e => .inr e
theorem tx_two (h : Tx w p T) (hb : Bn n b w w') (hp : p ≠ b) : Tx w' p T := h.same (hb.block p h.lt fun e => hp e.1)
theorem B2.cell {g i : Nat} {v : Value} (h : B2 n p b w w') (hc : w.cell? ⟨g, i, none⟩ = some v) (h1 : g ≠ p) (h2 : 0 < n → g ≠ b) : w'.cell? ⟨g, i, none⟩ = some v :=
  But.cell h hc fun e => e.elim h1 fun e => h2 e.2 e.1
end
theorem lvTo_rng {T : Tb} (ho : T.Ok) : ∀ k, k ≤ T.n → ∀ x ∈ lvTo T k, 0 ≤ x ∧ x < 4294967296
  | 0, _, x, hx => by simp [lvTo] at hx
  | k + 1, hk, x, hx => by
    unfold lvTo at hx
    rcases List.mem_append.1 hx with hx | hx
    · exact lvTo_rng ho k (by omega) x hx
    · split at hx
      · next ht =>
        obtain rfl : x = hdl T k := by simpa using hx
        have := hdl_parts ho (i := k) (by omega) (by simpa [takP] using ht)
        exact this.2.2
      · cases hx
theorem getD_mem {l : List Int} {k : Nat} (h : k < l.length) : l.getD k 0 ∈ l := by
  rw [List.getD_eq_getElem?_getD, List.getElem?_eq_getElem h]
  exact List.getElem_mem h
/-- an act's cells -/
abbrev opV (o : VOp) : Value := .agg #[.int .i64 o.k, .int .i64 o.c, .int .u8 o.r, .int .u32 o.h, .int .i64 o.j]
abbrev opL (o : VOp) : List Value := [.int .i64 o.k, .int .i64 o.c, .int .u8 o.r, .int .u32 o.h, .int .i64 o.j]
/-- what do comes to -/
def DoE (w : World) (p q b : Nat) (a : Option Addr) (cap n : Nat) (e : Ending) (w' : World) : Prop := ∃ (x : Int) (T' : Tb), e = .returned (.tuple #[.int .u32 x, .bool true]) ∧ 0 ≤ x ∧ x < 4294967296 ∧ T'.n = n ∧ Pv w' p q b a cap T' ∧ B2 n p b w w'
section
variable {p q b cap : Nat} {a : Option Addr} {T : Tb}
set_option maxHeartbeats 8000000 in
theorem do1 (o : VOp) (w : World) (h : Pv w p q b a cap T) (ho : o.Ok) (hk : o.k = 1) : Calls Try.prog 31 #[tbV p, rfV q, opV o] w (DoE w p q b a cap T.n) := by
  obtain ⟨g0, g1, g2, g3⟩ := ho
  have BX : Hid (Bx (w.alloc (.cells (opL o).toArray 76)) w.heap.size (opL o)) := bx_new w (opL o) _
  have B1 : Hid (Below w.heap.size w (w.alloc (.cells (opL o).toArray 76))) := below_new _ _
  have H1 : Hid (Pv (w.alloc (.cells (opL o).toArray 76)) p q b a cap T) := h.below (below_new _ _)
  have HL : Hid (w.heap.size ≠ p ∧ (0 < T.n → w.heap.size ≠ b)) := ⟨by have := h.t.lt; omega, fun hn => by have := h.r.blt hn; omega⟩
  have HMR : Hid (0 ≤ mtI T o.r ∧ mtI T o.r < 4294967296) := mtI_rng h.t.ok g0 g1
  have hM := fun W hW => tmint_any p o.c o.r T W hW g0 g1
  have hR := fun W (hW : Rt W q b a cap T) => rmint_any o.c o.r W hW g0 g1
  clear h
  have HE : Hid (mtE T o.r = mtE T o.r) := rfl
  generalize mtE T o.r = me at *
  generalize mtI T o.r = mi at *
  obtain ⟨z0, z1, z2, z3, z4⟩ := BX.out.five
  have zl := BX.out.lt
  obtain ⟨k, c, r, hh, j⟩ := o
  simp only at hk
  subst hk
  dsimp only at *
  go_enter Try.func31, Try.ntmps31
  go_wp2_with fail
  generalize w.alloc (.cells #[.int .i64 1, .int .i64 c, .int .u8 r, .int .u32 hh, .int .i64 j] 76) = w1 at *
  refine (hM _ H1.out.t).mono ?_
  rintro e w2 ⟨rfl, hx2, hb2⟩
  have T2 : Hid (Tx w2 p (mtT T c r)) := hx2
  have R2 : Hid (Rt w2 q b a cap T) := H1.out.one hb2
  have B2' : Hid (B2 T.n p b w w2) := (B2.of B1.out).trans hb2.two
  have X2 := hb2.bx BX.out HL.out.1
  clear z0 z1 z2 z3 z4 zl
  obtain ⟨z0, z1, z2, z3, z4⟩ := X2.five
  have zl := X2.lt
  clear X2 hx2 hb2 hM
  go_wp2_with fail
  refine (hR _ R2.out).mono ?_
  rintro e w3 ⟨rfl, hx3, hb3⟩
  have P3 : Hid (Pv w3 p q b a cap (mtT T c r)) := ⟨tx_two T2.out hb3 H1.out.pb, hx3, H1.out.pq, H1.out.pb⟩
  have B3 : Hid (B2 T.n p b w w3) := B2'.out.trans hb3.two
  clear hx3 hb3 hR z0 z1 z2 z3 z4 zl
  go_wp2_with fail
  go_ret2
  exact ⟨mi, mtT T c r, rfl, HMR.out.1, HMR.out.2, mtT_n _ _ _, P3.out, B3.out⟩
set_option maxHeartbeats 8000000 in
theorem do2 (o : VOp) (w : World) (h : Pv w p q b a cap T) (ho : o.Ok) (hk : o.k = 2) : Calls Try.prog 31 #[tbV p, rfV q, opV o] w (DoE w p q b a cap T.n) := by
  obtain ⟨g0, g1, g2, g3⟩ := ho
  have BX : Hid (Bx (w.alloc (.cells (opL o).toArray 76)) w.heap.size (opL o)) := bx_new w (opL o) _
  have B1 : Hid (Below w.heap.size w (w.alloc (.cells (opL o).toArray 76))) := below_new _ _
  have H1 : Hid (Pv (w.alloc (.cells (opL o).toArray 76)) p q b a cap T) := h.below (below_new _ _)
  have HL : Hid (w.heap.size ≠ p ∧ (0 < T.n → w.heap.size ≠ b)) := ⟨by have := h.t.lt; omega, fun hn => by have := h.r.blt hn; omega⟩
  clear h
  obtain ⟨k, c, r, hh, j⟩ := o
  simp only at hk
  subst hk
  dsimp only at *
  obtain ⟨w1, hw1⟩ : ∃ w1, w.alloc (.cells #[.int .i64 2, .int .i64 c, .int .u8 r, .int .u32 hh, .int .i64 j] 76) = w1 := ⟨_, rfl⟩
  replace BX : Hid (Bx w1 w.heap.size [.int .i64 2, .int .i64 c, .int .u8 r, .int .u32 hh, .int .i64 j]) := hw1 ▸ BX.out
  replace B1 : Hid (Below w.heap.size w w1) := hw1 ▸ B1.out
  replace H1 : Hid (Pv w1 p q b a cap T) := hw1 ▸ H1.out
  obtain ⟨z0, z1, z2, z3, z4⟩ := BX.out.five
  have zl := BX.out.lt
  have c1 := (tdrop_any p hh T w1.drew (H1.out.t.same rfl) g2 g3).mono fun _ w'' h => (⟨h.1, h.2.1, H1.out.one (show Bt p w1 w'' from (But.refl _ _).drew.trans h.2.2), (show Bt p w1 w'' from (But.refl _ _).drew.trans h.2.2).two⟩ : _ ∧ Tx w'' p (dpT T hh) ∧ Rt w'' q b a cap T ∧ B2 T.n p b w1 w'')
  have c2 := fun W (hT : Tx W p (dpT T hh)) (hR : Rt W q b a cap T) (hB : B2 T.n p b w1 W) => (rdrop_any hh W hR).mono fun _ w'' h => (⟨h.1, ⟨tx_two hT h.2.2 H1.out.pb, h.2.1, H1.out.pq, H1.out.pb⟩, hB.trans h.2.2.two⟩ : _ ∧ Pv w'' p q b a cap (dpT T hh) ∧ B2 T.n p b w1 w'')
  have toS : ∀ W, B2 T.n p b w1 W → W.cell? ⟨w.heap.size, 3, none⟩ = some (.int .u32 hh) := fun W h => h.cell (BX.out 3 _ rfl) HL.out.1 HL.out.2
  have to4 := toS _ (B2.refl _)
  generalize dpE T hh = er at *
  generalize hN : w.heap.size = N at *
  go_enter Try.func31, Try.ntmps31
  go_wp2_with fail
  clear hw1 z0 z1 z2 z3 z4 zl
  go_region_held3 (fun W => W.cell? ⟨N, 3, none⟩ = some (.int .u32 hh)) (first | assumption | exact toS _ (by assumption) | exact toS _ (B2.refl _).drew | exact toS _ (B2.refl _)) (first | (go_at_call 66; (with_reducible refine c1.mono ?_); rintro v w5 ⟨rfl, t5, r5, e5⟩; have hcall := c2 _ t5 r5 e5) | (go_at_call 68; (with_reducible refine hcall.mono ?_); rintro v w6 ⟨rfl, t6, e6⟩))
  go_wp2_with fail
  go_ret2
  exact ⟨hh, dpT T hh, rfl, g2, g3, dpT_n _ _, t6, (B2.of (hN ▸ B1.out)).trans e6⟩
set_option maxHeartbeats 8000000 in
theorem do0 (o : VOp) (w : World) (h : Pv w p q b a cap T) (h1 : o.k ≠ 1) (h2 : o.k ≠ 2) (h3 : o.k ≠ 3) : Calls Try.prog 31 #[tbV p, rfV q, opV o] w (DoE w p q b a cap T.n) := by
  have BX : Hid (Bx (w.alloc (.cells (opL o).toArray 76)) w.heap.size (opL o)) := bx_new w (opL o) _
  have B1 : Hid (Below w.heap.size w (w.alloc (.cells (opL o).toArray 76))) := below_new _ _
  have H1 : Hid (Pv (w.alloc (.cells (opL o).toArray 76)) p q b a cap T) := h.below (below_new _ _)
  obtain ⟨z0, z1, z2, z3, z4⟩ := BX.out.five
  have zl := BX.out.lt
  have k1 : (o.k == 1) = false := by simpa using h1
  have k2 : (o.k == 2) = false := by simpa using h2
  have k3 : (o.k == 3) = false := by simpa using h3
  clear h
  go_enter Try.func31, Try.ntmps31
  go_wp2_with fail
  go_ret2
  exact ⟨0, T, rfl, by omega, by omega, rfl, H1.out, B2.of B1.out⟩
set_option maxHeartbeats 8000000 in
theorem do3 (o : VOp) (w : World) (h : Pv w p q b a cap T) (hk : o.k = 3) : Calls Try.prog 31 #[tbV p, rfV q, opV o] w (DoE w p q b a cap T.n) := by
  have BX : Hid (Bx (w.alloc (.cells (opL o).toArray 76)) w.heap.size (opL o)) := bx_new w (opL o) _
  have B1 : Hid (Below w.heap.size w (w.alloc (.cells (opL o).toArray 76))) := below_new _ _
  have H1 : Hid (Pv (w.alloc (.cells (opL o).toArray 76)) p q b a cap T) := h.below (below_new _ _)
  have HL : Hid (w.heap.size ≠ p ∧ (0 < T.n → w.heap.size ≠ b)) := ⟨by have := h.t.lt; omega, fun hn => by have := h.r.blt hn; omega⟩
  have HG : Hid (p < w.heap.size ∧ (0 < T.n → b < w.heap.size)) := ⟨h.t.lt, h.r.blt⟩
  have HO : Hid T.Ok := h.t.ok
  clear h
  obtain ⟨k, c, r, hh, j⟩ := o
  simp only at hk
  subst hk
  obtain ⟨w1, hw1⟩ : ∃ w1, w.alloc (.cells #[.int .i64 3, .int .i64 c, .int .u8 r, .int .u32 hh, .int .i64 j] 76) = w1 := ⟨_, rfl⟩
  replace BX : Hid (Bx w1 w.heap.size [.int .i64 3, .int .i64 c, .int .u8 r, .int .u32 hh, .int .i64 j]) := hw1 ▸ BX.out
  replace B1 : Hid (Below w.heap.size w w1) := hw1 ▸ B1.out
  replace H1 : Hid (Pv w1 p q b a cap T) := hw1 ▸ H1.out
  obtain ⟨z0, z1, z2, z3, z4⟩ := BX.out.five
  have zl := BX.out.lt
  have hV := rlive_any w1 H1.out.r
  obtain ⟨l, hl⟩ : ∃ l, l = lvTo T T.n := ⟨_, rfl⟩
  have HLV : Hid (l = lvTo T T.n) := hl
  have hln : l.length ≤ 32 := by rw [hl]; have := lvTo_le T T.n; have := HO.out.n32; omega
  have HLR : Hid (∀ x ∈ l, 0 ≤ x ∧ x < 4294967296) := by rw [hl]; exact lvTo_rng HO.out T.n (Nat.le_refl _)
  rw [← hl] at hV
  clear hl
  generalize hN : w.heap.size = N at *
  go_enter Try.func31, Try.ntmps31
  go_wp2_with fail
  refine hV.mono ?_
  rintro e w2 ⟨v, rfl, hs2, hb2⟩
  obtain ⟨va, vc, rfl⟩ := vown_form hs2
  have HB2 : Hid (Below w1.heap.size w1 w2) := hb2
  have X2 : Hid (Bx w2 N [.int .i64 3, .int .i64 c, .int .u8 r, .int .u32 hh, .int .i64 j]) := BX.out.below hb2
  have P2 : Hid (Pv w2 p q b a cap T) := H1.out.below hb2
  have S2 : Hid (Hs w2 w1.heap.size (.slice va l.length vc) l) := hs2
  have BW : Hid (B2 T.n p b w w2) := (B2.of (by rw [hN]; exact B1.out)).trans (B2.of hb2)
  have NL : Hid (N < w1.heap.size) := BX.out.lt
  clear hV hs2 hb2 z0 z1 z2 z3 z4 zl
  obtain ⟨z0, z1, z2, z3, z4⟩ := X2.out.five
  have zl := X2.out.lt
  obtain ⟨n, hn⟩ : ∃ n, n = l.length := ⟨_, rfl⟩
  have HLN : Hid (n = l.length) := hn
  rw [← hn] at S2 hln ⊢
  clear hn
  by_cases hj : j < 0
  · go_wp2_with fail
    go_ret2
    exact ⟨0, T, rfl, by omega, by omega, rfl, P2.out, BW.out⟩
  · by_cases hjn : (n : Int) ≤ j
    · go_wp2_with fail
      go_ret2
      exact ⟨0, T, rfl, by omega, by omega, rfl, P2.out, BW.out⟩
    · obtain ⟨jj, rfl⟩ := Int.eq_ofNat_of_zero_le (show 0 ≤ j by omega)
      have hjl : jj < n := by omega
      obtain ⟨g, hg, hgc, y0⟩ := S2.out.at_ HLN.out hjl
      subst hg
      have hx := HLR.out (l.getD jj 0) (getD_mem (by rw [← HLN.out]; exact hjl))
      have hgb := vown_base S2.out (b := g) rfl
      have h0n : 0 < T.n := by
        rcases Nat.eq_zero_or_pos T.n with e | e
        · exfalso
          have h1 := HLV.out
          have h2 := lvTo_le T T.n
          rw [← h1, ← HLN.out] at h2
          omega
        · exact e
      have gp : g ≠ p := by have := HG.out.1; have := NL.out; omega
      have gb : 0 < T.n → g ≠ b := fun hn => by have := HG.out.2 hn; have := NL.out; omega
      generalize l.getD jj 0 = x at *
      have c1 := (tdrop_any p x T w2.drew (P2.out.t.same rfl) hx.1 hx.2).mono fun _ w'' h => (⟨h.1, h.2.1, P2.out.one (show Bt p w2 w'' from (But.refl _ _).drew.trans h.2.2), (show Bt p w2 w'' from (But.refl _ _).drew.trans h.2.2).two⟩ : _ ∧ Tx w'' p (dpT T x) ∧ Rt w'' q b a cap T ∧ B2 T.n p b w2 w'')
      have c2 := fun W (hT : Tx W p (dpT T x)) (hR : Rt W q b a cap T) (hB : B2 T.n p b w2 W) => (rdrop_any x W hR).mono fun _ w'' h => (⟨h.1, ⟨tx_two hT h.2.2 H1.out.pb, h.2.1, H1.out.pq, H1.out.pb⟩, hB.trans h.2.2.two⟩ : _ ∧ Pv w'' p q b a cap (dpT T x) ∧ B2 T.n p b w2 w'')
      have toS : ∀ W, B2 T.n p b w2 W → W.cell? ⟨N, 4, none⟩ = some (.int .i64 (jj : Int)) ∧ W.cell? ⟨g, jj, none⟩ = some (.int .u32 x) := fun W h => ⟨h.cell z4 HL.out.1 HL.out.2, h.cell y0 gp gb⟩
      have to4 := toS _ (B2.refl _)
      generalize dpE T x = er at *
      go_wp2_with fail
      clear hw1 z0 z1 z2 z3 z4 zl y0 hgb
      go_region_held3 (fun W => W.cell? ⟨N, 4, none⟩ = some (.int .i64 (jj : Int)) ∧ W.cell? ⟨g, jj, none⟩ = some (.int .u32 x)) (first | assumption | exact toS _ (by assumption) | exact toS _ (B2.refl _).drew | exact toS _ (B2.refl _)) (first | (go_at_call 66; (with_reducible refine c1.mono ?_); rintro v w5 ⟨rfl, t5, r5, e5⟩; have hcall := c2 _ t5 r5 e5) | (go_at_call 68; (with_reducible refine hcall.mono ?_); rintro v w6 ⟨rfl, t6, e6⟩))
      go_wp2_with fail
      go_ret2
      exact ⟨x, dpT T x, rfl, hx.1, hx.2, dpT_n _ _, t6, BW.out.trans e6⟩
theorem do_any (o : VOp) (w : World) (h : Pv w p q b a cap T) (ho : o.Ok) : Calls Try.prog 31 #[tbV p, rfV q, opV o] w (DoE w p q b a cap T.n) := by
  by_cases h1 : o.k = 1
  · exact do1 o w h ho h1
  by_cases h2 : o.k = 2
  · exact do2 o w h ho h2
  by_cases h3 : o.k = 3
  · exact do3 o w h h3
  exact do0 o w h h1 h2 h3
end
end Go.Proofs.Ytimmjhegeagofab
