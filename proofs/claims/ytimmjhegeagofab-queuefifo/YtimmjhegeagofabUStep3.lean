/- The law's step: a take. -/
import Derived.Test.YtimmjhegeagofabUStep1
import Derived.Test.YtimmjhegeagofabURefT
namespace Go.Proofs.Ytimmjhegeagofab
open Go.RowKit
set_option maxRecDepth 100000

theorem ms4_snoc {w : World} {base : Nat} {v : Value} {l : List PMs} {m : PMs} (h : w.ownsRow base 40 4 v (l.length + 1) (cellsL l.length 4 (encMs l) ++ [.int .i64 m.ln, .int .i64 m.ep, .int .i64 m.n, .int .u64 m.pay])) : Sl w 4 (l ++ [m]).length (encMs (l ++ [m])) v := by
  rw [show (l ++ [m]).length = l.length + 1 by simp]
  refine (sl_own h (snoc_cells (d := encM m) fun f hf => enc4 f hf)).congr fun j hj f hf => ?_
  unfold snocC encMs
  by_cases hl : j < l.length
  · rw [if_pos hl]
    have : atM (l ++ [m]) j = atM l j := by simp [atM, List.getElem?_append_left hl]
    rw [this]
  · obtain rfl : j = l.length := by omega
    rw [if_neg hl]
    have : atM (l ++ [m]) l.length = m := by simp [atM]
    rw [this]
theorem se_tail {w : World} {l : List Int} {k : Nat} {v : Value} (hl : l.length = k + 1) (h : Sl w 1 k (fun j => encU l (j + 1)) v) : Sl w 1 l.tail.length (encU l.tail) v := by
  rw [show l.tail.length = k by simp [hl]]
  refine h.congr fun j _ f _ => ?_
  unfold encU
  congr 1
  simp [atI]
theorem sl_cut0 {W : World} {s N cap b off : Nat} {c : Nat → Nat → Value} (hN : 1 ≤ N) (h : Sl W s N c (.slice (some ⟨b, off, none⟩) N cap)) : Sl W s (N - 1) (fun j => c (j + 1)) (.slice (some ⟨b, off + s, none⟩) (N - 1) (cap - 1)) := by
  obtain ⟨a, cap', e, h1, _, hr⟩ := h
  cases e
  refine ⟨_, _, rfl, by omega, (fun e => by cases e), fun j hj => ?_⟩
  obtain ⟨b', off', e', hc'⟩ := hr (j + 1) (by omega)
  cases e'
  refine ⟨b, off + s, rfl, fun f hf => ?_⟩
  have := hc' f hf
  rw [Nat.succ_mul] at this
  rw [show off + s + j * s + f = off + (j * s + s) + f by omega]
  exact this
set_option maxHeartbeats 8000000 in
theorem step3_any (ql qm vc vs vt : Value) (R : Rn) (V : Nat → Value) (l : List Int) (i : Nat) (ln n x : Int) (w : World) (hi : i ≤ 900) (hk : R.Ok l i) (hr : RIs w ql qm vc vs vt R V) : Calls Try.prog 25 #[runV ql qm vc vs vt, opV 3 ln n x] w fun e w' =>
    ∃ ql' qm' vc' vs' vt' R' V', e = .returned (runV ql' qm' vc' vs' vt') ∧ RIs w' ql' qm' vc' vs' vt' R' V' ∧ R'.Ok l (i + 1) ∧ Below w.heap.size w w' := by
  have HR : Hid (RIs w ql qm vc vs vt R V) := hr
  have HK : Hid (R.Ok l i) := hk
  have hcl := fun W h => take_any ql qm R.q V W (hk.okq hi) h
  have htn : R.tk.length ≤ 1000 := by have := hk.ntk; omega
  have hsl : R.se.length = R.q.ms.length := by rw [hk.se]; simp
  have HSL : Hid (R.se.length = R.q.ms.length) := hsl
  obtain ⟨la, lc, rfl, _⟩ := hr.q.l
  obtain ⟨ma, mc, rfl, _⟩ := hr.q.m
  obtain ⟨ca, cc, rfl, _⟩ := hr.c
  obtain ⟨sa, sc, rfl, hdead⟩ := hr.s
  clear hdead
  obtain ⟨ta, tc, rfl, _⟩ := hr.t
  obtain ⟨k1, k2, k3, b2, s2⟩ := alloc3 w [.slice la R.q.ls.length lc, .slice ma R.q.ms.length mc, .slice ca R.cl.length cc, .slice sa R.se.length sc, .slice ta R.tk.length tc, .bool true] 54 [.int .i64 3, .int .i64 ln, .int .u8 n, .int .u64 x] 57 [.slice none 0 0, .slice none 0 0, .slice none 0 0, .slice none 0 0, .slice none 0 0, .bool false] 54
  have K1 : Hid (Blk _ _ _ _) := k1
  have K2 : Hid (Blk _ _ _ _) := k2
  have K3 : Hid (Blk _ _ _ _) := k3
  have B2 : Hid (Below _ _ _) := b2
  clear k1 k2 k3 b2 s2 hr hk hsl
  go_enter Try.func25, Try.ntmps25
  go_wp2_with fail
  generalize ((w.alloc (.cells #[.slice la R.q.ls.length lc, .slice ma R.q.ms.length mc, .slice ca R.cl.length cc, .slice sa R.se.length sc, .slice ta R.tk.length tc, .bool true] 54)).alloc (.cells #[.int .i64 3, .int .i64 ln, .int .u8 n, .int .u64 x] 57)).alloc (.cells #[.slice none 0 0, .slice none 0 0, .slice none 0 0, .slice none 0 0, .slice none 0 0, .bool false] 54) = w2 at *
  have HC12 : Hid (w.heap.size < w.heap.size + 1 ∧ w.heap.size + 1 < w.heap.size + 1 + 1) := ⟨by omega, by omega⟩
  generalize w.heap.size + 1 + 1 = C2 at *
  generalize w.heap.size + 1 = C1 at *
  refine (hcl w2 (HR.out.q.below B2.out)).mono ?_
  rintro e w3 ⟨ul, um, V3, rfl, hq3, hb3, hn3⟩
  obtain ⟨la3, lc3, rfl, _⟩ := hq3.l
  obtain ⟨ma3, mc3, rfl, _⟩ := hq3.m
  have H3 : Hid (QIs w3 _ _ R.q.tkQ V3) := hq3
  have N3 : Hid (QNew w2.heap.size _ _ R.q.tkQ V3) := hn3
  have K1b : Hid (Blk w3 _ _ _) := K1.out.below hb3
  have K3b : Hid (Blk w3 _ _ _) := K3.out.below hb3
  have B3 : Hid (Below w.heap.size w w3) := Below.onto B2.out hb3
  have hs3 := hb3.size
  have HZ : Hid (w.heap.size < w2.heap.size ∧ C2 < w2.heap.size ∧ w2.heap.size ≤ w3.heap.size) := ⟨K1.out.lt, K3.out.lt, hs3⟩
  clear hq3 hn3 hb3 hs3 hcl
  have hc12 := HC12.out
  have HL2 : Hid (w.heap.size ≤ C2) := by show _ ≤ _; omega
  have hne : ¬ w.heap.size = C2 := by omega
  clear hc12
  have htk : R.q.tkE = if R.q.ms.length = 0 then 105 else 0 := by rw [Qu.tkE, if_pos HK.out.ok]
  by_cases h0 : R.q.ms.length = 0
  · have hE : R.q.tkE = 105 := by rw [htk, if_pos h0]
    have hs0 : R.se.length = 0 := by rw [HSL.out, h0]
    rw [hE]
    clear htk hE h0
    obtain ⟨g0, g1, g2, g3, g4, g5⟩ := K1b.out.bx.six
    have g6 := K1b.out.fz
    obtain ⟨z0, z1, z2, z3, z4, z5⟩ := K3b.out.bx.six
    have z6 := K3b.out.fz
    have l1 := K1b.out.lt
    have l3 := K3b.out.lt
    have hs1 : ((R.se.length : Nat) : Int) = 0 := by omega
    go_wp2_with fail
    refine bodyPost_ret (v := runV (.slice la R.q.ls.length lc) (.slice ma R.q.ms.length mc) (.slice ca R.cl.length cc) (.slice sa R.se.length sc) (.slice ta R.tk.length tc)) (by simp [results, Try.results25, go_sem, z0, z1, z2, z3, z4, z5, l3, hs0]) rfl ⟨_, _, _, _, _, R, V, rfl, HR.out.below ?_, HK.out.up, ?_⟩
    · refine Below.onto ?_ (Below.onto (below_new _ _) (below_new _ _))
      repeat (first | (with_reducible exact B3.out) | ((with_reducible refine Below.setCell ?_ ?_ _); rotate_left; first | exact HL2.out | exact Nat.le_refl _))
    · refine Below.onto ?_ (Below.onto (below_new _ _) (below_new _ _))
      repeat (first | (with_reducible exact B3.out) | ((with_reducible refine Below.setCell ?_ ?_ _); rotate_left; first | exact HL2.out | exact Nat.le_refl _))
  · have hE : R.q.tkE = 0 := by rw [htk, if_neg h0]
    have HE : Hid (R.q.tkE = 0) := hE
    have hs1 : (0 : Int) < (R.se.length : Int) := by have := HSL.out; omega
    have hs2 : (1 : Int) ≤ (R.se.length : Int) := by omega
    have hsN : 0 < R.se.length := by omega
    have HS1 : Hid (1 ≤ R.se.length) := by show _ ≤ _; omega
    have HPAY : Hid (atI R.se 0 = R.q.tkM.pay) := by
      show _ = _
      rw [Qu.tkM, if_pos hE, HK.out.se]
      simp [atI, atM]
      cases hms : R.q.ms with
      | nil => simp [hms] at h0
      | cons m ms => simp
    rw [hE]
    clear htk hE h0
    obtain ⟨g0, g1, g2, g3, g4, g5⟩ := K1b.out.bx.six
    have g6 := K1b.out.fz
    have l1 := K1b.out.lt
    obtain ⟨_, _, es, hsc, _, hrs⟩ := HR.out.s.below B3.out
    cases es
    obtain ⟨b, off, rfl, hc0⟩ := hrs 0 (by have := HS1.out; omega)
    have c0 : w3.cell? ⟨b, off, none⟩ = some (.int .u64 (atI R.se 0)) := by have := hc0 0 (by omega); simpa [encU] using this
    rw [HPAY.out] at c0
    have hbw : b < w.heap.size := by
      obtain ⟨_, _, es, _, _, hrs⟩ := HR.out.s
      cases es
      obtain ⟨b', off', e', hc'⟩ := hrs 0 (by have := HS1.out; omega)
      cases e'
      exact cell_lt (hc' 0 (by omega))
    clear hrs hc0 hsc
    go_wp2_with fail
    have hzz := HZ.out
    have K1c : Hid (Blk (w3.setCell ⟨w.heap.size, 5, none⟩ (.bool true)) w.heap.size _ [.slice la R.q.ls.length lc, .slice ma R.q.ms.length mc, .slice ca R.cl.length cc, .slice (some ⟨b, off, none⟩) R.se.length sc, .slice ta R.tk.length tc, .bool true]) := K1b.out.set 5 _
    have K3c : Hid (Blk (w3.setCell ⟨w.heap.size, 5, none⟩ (.bool true)) C2 _ _) := K3b.out.setO (fun e => hne e.symm) _
    have H3c : Hid (QIs (w3.setCell ⟨w.heap.size, 5, none⟩ (.bool true)) _ _ R.q.tkQ V3) := H3.out.setO N3.out hzz.1
    have B3c : Hid (Below w.heap.size w (w3.setCell ⟨w.heap.size, 5, none⟩ (.bool true))) := B3.out.setCell (Nat.le_refl _) _
    have S3c : Hid ((w3.setCell ⟨w.heap.size, 5, none⟩ (.bool true)).heap.size = w3.heap.size) := by show _ = _; simp [World.setCell]
    have c0c := co (b' := w.heap.size) (i' := 5) (u := .bool true) (show ¬ b = w.heap.size by omega) c0
    have s3c := S3c.out
    rw [← s3c]
    clear g0 g1 g2 g3 g4 g5 g6 l1 hzz s3c c0
    generalize w3.setCell ⟨w.heap.size, 5, none⟩ (.bool true) = w4 at *
    obtain ⟨k4, k5, b4, s4⟩ := alloc2 w4 [.slice la3 R.q.tkQ.ls.length lc3, .slice ma3 R.q.tkQ.ms.length mc3] 25 [.int .i64 R.q.tkM.ln, .int .i64 R.q.tkM.ep, .int .i64 R.q.tkM.n, .int .u64 R.q.tkM.pay] 40
    have K4 : Hid (Blk _ _ _ _) := k4
    have K5 : Hid (Blk _ _ _ _) := k5
    have B4 : Hid (Below w4.heap.size w4 _) := b4
    clear k4 k5 b4 s4
    generalize (w4.alloc (.cells #[.slice la3 R.q.tkQ.ls.length lc3, .slice ma3 R.q.tkQ.ms.length mc3] 25)).alloc (.cells #[.int .i64 R.q.tkM.ln, .int .i64 R.q.tkM.ep, .int .i64 R.q.tkM.n, .int .u64 R.q.tkM.pay] 40) = w5 at *
    have K1d : Hid (Blk w5 _ _ _) := K1c.out.below B4.out
    have K3d : Hid (Blk w5 _ _ _) := K3c.out.below B4.out
    have H3d : Hid (QIs w5 _ _ R.q.tkQ V3) := H3c.out.below B4.out
    have B5 : Hid (Below w.heap.size w w5) := Below.onto B3c.out B4.out
    have c5 := (B4.out.cell (p := ⟨b, off, none⟩) (cell_lt c0c)).trans c0c
    clear c0c
    obtain ⟨y0, y1, y2, y3⟩ := K5.out.bx.four
    obtain ⟨x0, x1⟩ := K4.out.bx.two
    obtain ⟨g0, g1, g2, g3, g4, g5⟩ := K1d.out.bx.six
    have g6 := K1d.out.fz
    have nz1 : ¬ w4.heap.size = w.heap.size := by have := K1c.out.lt; omega
    have nz2 : ¬ w4.heap.size + 1 = w.heap.size := by have := K1c.out.lt; omega
    have nz3 : ¬ b = w.heap.size := by omega
    go_region
    have K1e : Hid (Blk (w5.setCell ⟨w.heap.size, 5, none⟩ (.bool true)).drew w.heap.size _ [.slice la R.q.ls.length lc, .slice ma R.q.ms.length mc, .slice ca R.cl.length cc, .slice (some ⟨b, off, none⟩) R.se.length sc, .slice ta R.tk.length tc, .bool true]) := (K1d.out.set 5 _).below ((Below.refl _ _).drew)
    have K3e : Hid (Blk (w5.setCell ⟨w.heap.size, 5, none⟩ (.bool true)).drew C2 _ _) := (K3d.out.setO (fun e => hne e.symm) _).below ((Below.refl _ _).drew)
    have K4e : Hid (Blk (w5.setCell ⟨w.heap.size, 5, none⟩ (.bool true)).drew w4.heap.size _ _) := (K4.out.setO nz1 _).below ((Below.refl _ _).drew)
    have K5e : Hid (Blk (w5.setCell ⟨w.heap.size, 5, none⟩ (.bool true)).drew (w4.heap.size + 1) _ _) := (K5.out.setO nz2 _).below ((Below.refl _ _).drew)
    have H3e : Hid (QIs (w5.setCell ⟨w.heap.size, 5, none⟩ (.bool true)).drew _ _ R.q.tkQ V3) := (H3d.out.setO N3.out HZ.out.1).drew
    have B5e : Hid (Below w.heap.size w (w5.setCell ⟨w.heap.size, 5, none⟩ (.bool true)).drew) := (B5.out.setCell (Nat.le_refl _) _).drew
    clear g0 g1 g2 g3 g4 g5 g6 y0 y1 y2 y3 x0 x1 c5
    generalize (w5.setCell ⟨w.heap.size, 5, none⟩ (.bool true)).drew = w6 at *
    obtain ⟨g0, g1, g2, g3, g4, g5⟩ := K1e.out.bx.six
    have g6 := K1e.out.fz
    obtain ⟨x0, x1⟩ := K4e.out.bx.two
    by_cases hsc1 : sc = 1
    · subst hsc1
      have HSE0 : Hid (∀ W, Below w.heap.size w W → Sl W 1 R.se.tail.length (encU R.se.tail) (.slice (some ⟨b, off, none⟩) (R.se.length - 1) 0)) := fun W hW => se_tail (k := R.se.length - 1) (by have := HS1.out; omega) (by
        have hs := HR.out.s.below hW
        have := sl_cut1 HS1.out hs
        rw [if_pos rfl] at this
        exact this)
      go_wp2_with fail
      have K1f : Hid (Blk (((w6.setCell ⟨w.heap.size, 0, none⟩ (.slice la3 R.q.tkQ.ls.length lc3)).setCell ⟨w.heap.size, 1, none⟩ (.slice ma3 R.q.tkQ.ms.length mc3)).setCell ⟨w.heap.size, 3, none⟩ (.slice (some ⟨b, off, none⟩) (R.se.length - 1) 0)) w.heap.size _ [.slice la3 R.q.tkQ.ls.length lc3, .slice ma3 R.q.tkQ.ms.length mc3, .slice ca R.cl.length cc, .slice (some ⟨b, off, none⟩) (R.se.length - 1) 0, .slice ta R.tk.length tc, .bool true]) := ((K1e.out.set 0 _).set 1 _).set 3 _
      have K3f : Hid (Blk (((w6.setCell ⟨w.heap.size, 0, none⟩ (.slice la3 R.q.tkQ.ls.length lc3)).setCell ⟨w.heap.size, 1, none⟩ (.slice ma3 R.q.tkQ.ms.length mc3)).setCell ⟨w.heap.size, 3, none⟩ (.slice (some ⟨b, off, none⟩) (R.se.length - 1) 0)) C2 _ _) := ((K3e.out.setO (fun e => hne e.symm) _).setO (fun e => hne e.symm) _).setO (fun e => hne e.symm) _
      have K5f : Hid (Blk (((w6.setCell ⟨w.heap.size, 0, none⟩ (.slice la3 R.q.tkQ.ls.length lc3)).setCell ⟨w.heap.size, 1, none⟩ (.slice ma3 R.q.tkQ.ms.length mc3)).setCell ⟨w.heap.size, 3, none⟩ (.slice (some ⟨b, off, none⟩) (R.se.length - 1) 0)) (w4.heap.size + 1) _ _) := ((K5e.out.setO nz2 _).setO nz2 _).setO nz2 _
      have H3f : Hid (QIs (((w6.setCell ⟨w.heap.size, 0, none⟩ (.slice la3 R.q.tkQ.ls.length lc3)).setCell ⟨w.heap.size, 1, none⟩ (.slice ma3 R.q.tkQ.ms.length mc3)).setCell ⟨w.heap.size, 3, none⟩ (.slice (some ⟨b, off, none⟩) (R.se.length - 1) 0)) _ _ R.q.tkQ V3) := ((H3e.out.setO N3.out HZ.out.1).setO N3.out HZ.out.1).setO N3.out HZ.out.1
      have B5f : Hid (Below w.heap.size w (((w6.setCell ⟨w.heap.size, 0, none⟩ (.slice la3 R.q.tkQ.ls.length lc3)).setCell ⟨w.heap.size, 1, none⟩ (.slice ma3 R.q.tkQ.ms.length mc3)).setCell ⟨w.heap.size, 3, none⟩ (.slice (some ⟨b, off, none⟩) (R.se.length - 1) 0))) := ((B5e.out.setCell (Nat.le_refl _) _).setCell (Nat.le_refl _) _).setCell (Nat.le_refl _) _
      clear g0 g1 g2 g3 g4 g5 g6 x0 x1
      generalize ((w6.setCell ⟨w.heap.size, 0, none⟩ (.slice la3 R.q.tkQ.ls.length lc3)).setCell ⟨w.heap.size, 1, none⟩ (.slice ma3 R.q.tkQ.ms.length mc3)).setCell ⟨w.heap.size, 3, none⟩ (.slice (some ⟨b, off, none⟩) (R.se.length - 1) 0) = w7 at *
      obtain ⟨g0, g1, g2, g3, g4, g5⟩ := K1f.out.bx.six
      obtain ⟨y0, y1, y2, y3⟩ := K5f.out.bx.four
      refine snoc_t (r := w.heap.size) (s := w4.heap.size + 1) (N := R.tk.length) (cv := tc) (av := ta) (x0 := R.q.tkM.ln) (x1 := R.q.tkM.ep) (x2 := R.q.tkM.n) (x3 := R.q.tkM.pay) (xs1 := cellsL R.tk.length 4 (encMs R.tk)) rfl rfl (by kernel_rfl) (by kernel_rfl) (by kernel_rfl) rfl rfl rfl rfl rfl rfl rfl rfl rfl rfl rfl rfl rfl rfl rfl rfl rfl rfl rfl rfl rfl rfl rfl rfl rfl y0 y1 y2 y3 g4 (fun W hW => (K1f.out.below hW).fz 4) ((HR.out.t.below B5f.out).src HR.out.pt) (cellsL_len _ _ _) (cellsL_mem (by decide) (one_encM _)) htn (by kernel_rfl) (by kernel_rfl) (by kernel_rfl) (by kernel_rfl) (by kernel_rfl) (by kernel_rfl) (by kernel_rfl) (by kernel_rfl) (fun _ _ d _ _ h => by cases d <;> exact h) ?_
      intro vA vB vC ad c w8 h8 hb8
      have hz5 := K1f.out.lt
      have hz3 := K3f.out.lt
      have K1g : Hid (Blk (w8.setCell ⟨w.heap.size, 4, none⟩ (.slice ad (R.tk.length + 1) c)) w.heap.size _ [.slice la3 R.q.tkQ.ls.length lc3, .slice ma3 R.q.tkQ.ms.length mc3, .slice ca R.cl.length cc, .slice (some ⟨b, off, none⟩) (R.se.length - 1) 0, .slice ad (R.tk.length + 1) c, .bool true]) := (K1f.out.below hb8).set 4 _
      have K3g : Hid (Blk (w8.setCell ⟨w.heap.size, 4, none⟩ (.slice ad (R.tk.length + 1) c)) C2 _ _) := (K3f.out.below hb8).setO (fun e => hne e.symm) _
      have H9 : Hid (QIs (w8.setCell ⟨w.heap.size, 4, none⟩ (.slice ad (R.tk.length + 1) c)) _ _ R.q.tkQ V3) := (H3f.out.below hb8).setO N3.out HZ.out.1
      have h8' := own_set (i := 4) (u := (.slice ad (R.tk.length + 1) c)) h8 (b := w.heap.size) fun e => by have := own_blk h8 _ e; omega
      have HT9 : Hid (Sl (w8.setCell ⟨w.heap.size, 4, none⟩ (.slice ad (R.tk.length + 1) c)) 4 (R.tk ++ [R.q.tkM]).length (encMs (R.tk ++ [R.q.tkM])) (.slice ad (R.tk.length + 1) c)) := ms4_snoc h8'
      have HS9 : Hid (Sp (.slice ad (R.tk.length + 1) c)) := sp_own h8
      have B9 : Hid (Below w.heap.size w (w8.setCell ⟨w.heap.size, 4, none⟩ (.slice ad (R.tk.length + 1) c))) := (Below.onto B5f.out hb8).setCell (Nat.le_refl _) _
      have HOB : Hid (∀ b, (Value.slice ad (R.tk.length + 1) c).ownBlock = some b → ¬ b = C2) := fun b e e2 => by have := own_blk h8 b e; omega
      clear h8 h8' hb8 hz5 hz3 y0 y1 y2 y3 g0 g1 g2 g3 g4 g5
      generalize w8.setCell ⟨w.heap.size, 4, none⟩ (.slice ad (R.tk.length + 1) c) = w9 at *
      obtain ⟨g0, g1, g2, g3, g4, g5⟩ := K1g.out.bx.six
      obtain ⟨z0, z1, z2, z3, z4, z5⟩ := K3g.out.bx.six
      have z6 := K3g.out.fz
      go_wp2_with fail
      refine bodyPost_ret (v := runV (.slice la3 R.q.tkQ.ls.length lc3) (.slice ma3 R.q.tkQ.ms.length mc3) (.slice ca R.cl.length cc) (.slice (some ⟨b, off, none⟩) (R.se.length - 1) 0) (.slice ad (R.tk.length + 1) c)) (by simp [results, Try.results25, go_sem, z0, z1, z2, z3, z4, z5]) rfl ⟨_, _, _, _, _, ⟨R.q.tkQ, R.cl, R.se.tail, R.tk ++ [R.q.tkM]⟩, V3, rfl, ?_, HK.out.take HE.out, ?_⟩
      · have BF : Below w.heap.size w _ := ((((((B9.out.setCell (p := ⟨C2, 0, none⟩) HL2.out (.slice la3 R.q.tkQ.ls.length lc3)).setCell (p := ⟨C2, 1, none⟩) HL2.out (.slice ma3 R.q.tkQ.ms.length mc3)).setCell (p := ⟨C2, 2, none⟩) HL2.out (.slice ca R.cl.length cc)).setCell (p := ⟨C2, 3, none⟩) HL2.out (.slice (some ⟨b, off, none⟩) (R.se.length - 1) 0)).setCell (p := ⟨C2, 4, none⟩) HL2.out (.slice ad (R.tk.length + 1) c)).setCell (p := ⟨C2, 5, none⟩) HL2.out (.bool true))
        have hC2 := HZ.out.2.1
        have HQF := ((((((H9.out.setO (i := 0) (u := .slice la3 R.q.tkQ.ls.length lc3) N3.out hC2).setO (i := 1) (u := .slice ma3 R.q.tkQ.ms.length mc3) N3.out hC2).setO (i := 2) (u := .slice ca R.cl.length cc) N3.out hC2).setO (i := 3) (u := .slice (some ⟨b, off, none⟩) (R.se.length - 1) 0) N3.out hC2).setO (i := 4) (u := .slice ad (R.tk.length + 1) c) N3.out hC2).setO (i := 5) (u := .bool true) N3.out hC2)
        have ho : (Value.slice ad (R.tk.length + 1) c).ownBlock ≠ some C2 := fun e => HOB.out C2 e rfl
        have HTF := ((((((HT9.out.setO (i := 0) (u := .slice la3 R.q.tkQ.ls.length lc3) ho).setO (i := 1) (u := .slice ma3 R.q.tkQ.ms.length mc3) ho).setO (i := 2) (u := .slice ca R.cl.length cc) ho).setO (i := 3) (u := .slice (some ⟨b, off, none⟩) (R.se.length - 1) 0) ho).setO (i := 4) (u := .slice ad (R.tk.length + 1) c) ho).setO (i := 5) (u := .bool true) ho)
        exact ⟨HQF, HR.out.c.below BF, HSE0.out _ BF, HTF, HR.out.pc, fun a n c e => by cases e; rfl, HS9.out⟩
      · repeat (first | (with_reducible exact B9.out) | ((with_reducible refine Below.setCell ?_ ?_ _); rotate_left; first | exact HL2.out))
    · skip
      have HSE0 : Hid (∀ W, Below w.heap.size w W → Sl W 1 R.se.tail.length (encU R.se.tail) (.slice (some ⟨b, off + 1, none⟩) (R.se.length - 1) (sc - 1))) := fun W hW => se_tail (k := R.se.length - 1) (by have := HS1.out; omega) (by
        have hs := HR.out.s.below hW
        have := sl_cut1 HS1.out hs
        rw [if_neg hsc1] at this
        exact this)
      go_wp2_with fail
      have K1f : Hid (Blk (((w6.setCell ⟨w.heap.size, 0, none⟩ (.slice la3 R.q.tkQ.ls.length lc3)).setCell ⟨w.heap.size, 1, none⟩ (.slice ma3 R.q.tkQ.ms.length mc3)).setCell ⟨w.heap.size, 3, none⟩ (.slice (some ⟨b, off + 1, none⟩) (R.se.length - 1) (sc - 1))) w.heap.size _ [.slice la3 R.q.tkQ.ls.length lc3, .slice ma3 R.q.tkQ.ms.length mc3, .slice ca R.cl.length cc, .slice (some ⟨b, off + 1, none⟩) (R.se.length - 1) (sc - 1), .slice ta R.tk.length tc, .bool true]) := ((K1e.out.set 0 _).set 1 _).set 3 _
      have K3f : Hid (Blk (((w6.setCell ⟨w.heap.size, 0, none⟩ (.slice la3 R.q.tkQ.ls.length lc3)).setCell ⟨w.heap.size, 1, none⟩ (.slice ma3 R.q.tkQ.ms.length mc3)).setCell ⟨w.heap.size, 3, none⟩ (.slice (some ⟨b, off + 1, none⟩) (R.se.length - 1) (sc - 1))) C2 _ _) := ((K3e.out.setO (fun e => hne e.symm) _).setO (fun e => hne e.symm) _).setO (fun e => hne e.symm) _
      have K5f : Hid (Blk (((w6.setCell ⟨w.heap.size, 0, none⟩ (.slice la3 R.q.tkQ.ls.length lc3)).setCell ⟨w.heap.size, 1, none⟩ (.slice ma3 R.q.tkQ.ms.length mc3)).setCell ⟨w.heap.size, 3, none⟩ (.slice (some ⟨b, off + 1, none⟩) (R.se.length - 1) (sc - 1))) (w4.heap.size + 1) _ _) := ((K5e.out.setO nz2 _).setO nz2 _).setO nz2 _
      have H3f : Hid (QIs (((w6.setCell ⟨w.heap.size, 0, none⟩ (.slice la3 R.q.tkQ.ls.length lc3)).setCell ⟨w.heap.size, 1, none⟩ (.slice ma3 R.q.tkQ.ms.length mc3)).setCell ⟨w.heap.size, 3, none⟩ (.slice (some ⟨b, off + 1, none⟩) (R.se.length - 1) (sc - 1))) _ _ R.q.tkQ V3) := ((H3e.out.setO N3.out HZ.out.1).setO N3.out HZ.out.1).setO N3.out HZ.out.1
      have B5f : Hid (Below w.heap.size w (((w6.setCell ⟨w.heap.size, 0, none⟩ (.slice la3 R.q.tkQ.ls.length lc3)).setCell ⟨w.heap.size, 1, none⟩ (.slice ma3 R.q.tkQ.ms.length mc3)).setCell ⟨w.heap.size, 3, none⟩ (.slice (some ⟨b, off + 1, none⟩) (R.se.length - 1) (sc - 1)))) := ((B5e.out.setCell (Nat.le_refl _) _).setCell (Nat.le_refl _) _).setCell (Nat.le_refl _) _
      clear g0 g1 g2 g3 g4 g5 g6 x0 x1
      generalize ((w6.setCell ⟨w.heap.size, 0, none⟩ (.slice la3 R.q.tkQ.ls.length lc3)).setCell ⟨w.heap.size, 1, none⟩ (.slice ma3 R.q.tkQ.ms.length mc3)).setCell ⟨w.heap.size, 3, none⟩ (.slice (some ⟨b, off + 1, none⟩) (R.se.length - 1) (sc - 1)) = w7 at *
      obtain ⟨g0, g1, g2, g3, g4, g5⟩ := K1f.out.bx.six
      obtain ⟨y0, y1, y2, y3⟩ := K5f.out.bx.four
      refine snoc_t (r := w.heap.size) (s := w4.heap.size + 1) (N := R.tk.length) (cv := tc) (av := ta) (x0 := R.q.tkM.ln) (x1 := R.q.tkM.ep) (x2 := R.q.tkM.n) (x3 := R.q.tkM.pay) (xs1 := cellsL R.tk.length 4 (encMs R.tk)) rfl rfl (by kernel_rfl) (by kernel_rfl) (by kernel_rfl) rfl rfl rfl rfl rfl rfl rfl rfl rfl rfl rfl rfl rfl rfl rfl rfl rfl rfl rfl rfl rfl rfl rfl rfl rfl y0 y1 y2 y3 g4 (fun W hW => (K1f.out.below hW).fz 4) ((HR.out.t.below B5f.out).src HR.out.pt) (cellsL_len _ _ _) (cellsL_mem (by decide) (one_encM _)) htn (by kernel_rfl) (by kernel_rfl) (by kernel_rfl) (by kernel_rfl) (by kernel_rfl) (by kernel_rfl) (by kernel_rfl) (by kernel_rfl) (fun _ _ d _ _ h => by cases d <;> exact h) ?_
      intro vA vB vC ad c w8 h8 hb8
      have hz5 := K1f.out.lt
      have hz3 := K3f.out.lt
      have K1g : Hid (Blk (w8.setCell ⟨w.heap.size, 4, none⟩ (.slice ad (R.tk.length + 1) c)) w.heap.size _ [.slice la3 R.q.tkQ.ls.length lc3, .slice ma3 R.q.tkQ.ms.length mc3, .slice ca R.cl.length cc, .slice (some ⟨b, off + 1, none⟩) (R.se.length - 1) (sc - 1), .slice ad (R.tk.length + 1) c, .bool true]) := (K1f.out.below hb8).set 4 _
      have K3g : Hid (Blk (w8.setCell ⟨w.heap.size, 4, none⟩ (.slice ad (R.tk.length + 1) c)) C2 _ _) := (K3f.out.below hb8).setO (fun e => hne e.symm) _
      have H9 : Hid (QIs (w8.setCell ⟨w.heap.size, 4, none⟩ (.slice ad (R.tk.length + 1) c)) _ _ R.q.tkQ V3) := (H3f.out.below hb8).setO N3.out HZ.out.1
      have h8' := own_set (i := 4) (u := (.slice ad (R.tk.length + 1) c)) h8 (b := w.heap.size) fun e => by have := own_blk h8 _ e; omega
      have HT9 : Hid (Sl (w8.setCell ⟨w.heap.size, 4, none⟩ (.slice ad (R.tk.length + 1) c)) 4 (R.tk ++ [R.q.tkM]).length (encMs (R.tk ++ [R.q.tkM])) (.slice ad (R.tk.length + 1) c)) := ms4_snoc h8'
      have HS9 : Hid (Sp (.slice ad (R.tk.length + 1) c)) := sp_own h8
      have B9 : Hid (Below w.heap.size w (w8.setCell ⟨w.heap.size, 4, none⟩ (.slice ad (R.tk.length + 1) c))) := (Below.onto B5f.out hb8).setCell (Nat.le_refl _) _
      have HOB : Hid (∀ b, (Value.slice ad (R.tk.length + 1) c).ownBlock = some b → ¬ b = C2) := fun b e e2 => by have := own_blk h8 b e; omega
      clear h8 h8' hb8 hz5 hz3 y0 y1 y2 y3 g0 g1 g2 g3 g4 g5
      generalize w8.setCell ⟨w.heap.size, 4, none⟩ (.slice ad (R.tk.length + 1) c) = w9 at *
      obtain ⟨g0, g1, g2, g3, g4, g5⟩ := K1g.out.bx.six
      obtain ⟨z0, z1, z2, z3, z4, z5⟩ := K3g.out.bx.six
      have z6 := K3g.out.fz
      go_wp2_with fail
      refine bodyPost_ret (v := runV (.slice la3 R.q.tkQ.ls.length lc3) (.slice ma3 R.q.tkQ.ms.length mc3) (.slice ca R.cl.length cc) (.slice (some ⟨b, off + 1, none⟩) (R.se.length - 1) (sc - 1)) (.slice ad (R.tk.length + 1) c)) (by simp [results, Try.results25, go_sem, z0, z1, z2, z3, z4, z5]) rfl ⟨_, _, _, _, _, ⟨R.q.tkQ, R.cl, R.se.tail, R.tk ++ [R.q.tkM]⟩, V3, rfl, ?_, HK.out.take HE.out, ?_⟩
      · have BF : Below w.heap.size w _ := ((((((B9.out.setCell (p := ⟨C2, 0, none⟩) HL2.out (.slice la3 R.q.tkQ.ls.length lc3)).setCell (p := ⟨C2, 1, none⟩) HL2.out (.slice ma3 R.q.tkQ.ms.length mc3)).setCell (p := ⟨C2, 2, none⟩) HL2.out (.slice ca R.cl.length cc)).setCell (p := ⟨C2, 3, none⟩) HL2.out (.slice (some ⟨b, off + 1, none⟩) (R.se.length - 1) (sc - 1))).setCell (p := ⟨C2, 4, none⟩) HL2.out (.slice ad (R.tk.length + 1) c)).setCell (p := ⟨C2, 5, none⟩) HL2.out (.bool true))
        have hC2 := HZ.out.2.1
        have HQF := ((((((H9.out.setO (i := 0) (u := .slice la3 R.q.tkQ.ls.length lc3) N3.out hC2).setO (i := 1) (u := .slice ma3 R.q.tkQ.ms.length mc3) N3.out hC2).setO (i := 2) (u := .slice ca R.cl.length cc) N3.out hC2).setO (i := 3) (u := .slice (some ⟨b, off + 1, none⟩) (R.se.length - 1) (sc - 1)) N3.out hC2).setO (i := 4) (u := .slice ad (R.tk.length + 1) c) N3.out hC2).setO (i := 5) (u := .bool true) N3.out hC2)
        have ho : (Value.slice ad (R.tk.length + 1) c).ownBlock ≠ some C2 := fun e => HOB.out C2 e rfl
        have HTF := ((((((HT9.out.setO (i := 0) (u := .slice la3 R.q.tkQ.ls.length lc3) ho).setO (i := 1) (u := .slice ma3 R.q.tkQ.ms.length mc3) ho).setO (i := 2) (u := .slice ca R.cl.length cc) ho).setO (i := 3) (u := .slice (some ⟨b, off + 1, none⟩) (R.se.length - 1) (sc - 1)) ho).setO (i := 4) (u := .slice ad (R.tk.length + 1) c) ho).setO (i := 5) (u := .bool true) ho)
        exact ⟨HQF, HR.out.c.below BF, HSE0.out _ BF, HTF, HR.out.pc, fun a n c e => by cases e; rfl, HS9.out⟩
      · repeat (first | (with_reducible exact B9.out) | ((with_reducible refine Below.setCell ?_ ?_ _); rotate_left; first | exact HL2.out))

end Go.Proofs.Ytimmjhegeagofab
