/- The law's step: a message is retired. -/
import Derived.Test.YtimmjhegeagofabUStep1
import Derived.Test.YtimmjhegeagofabURet
import Derived.Test.YtimmjhegeagofabULight
import Derived.Deep.RegionHeld3
namespace Go.Proofs.Ytimmjhegeagofab
open Go.RowKit
set_option maxRecDepth 100000

theorem ms4_erase {w : World} {base k : Nat} {v : Value} {l : List PMs} (hk : k < l.length) (h : w.ownsRow base 40 4 v (k + (l.length - (k + 1))) (cellsL k 4 (encMs l) ++ cellsL (l.length - (k + 1)) 4 fun j => encMs l (j + (k + 1)))) : Sl w 4 (l.eraseIdx k).length (encMs (l.eraseIdx k)) v := by
  have hle : (l.eraseIdx k).length = k + (l.length - (k + 1)) := by rw [List.length_eraseIdx, if_pos hk]; omega
  rw [hle]
  refine sl_own h fun j hj f hf => ?_
  by_cases h1 : j < k
  · rw [List.getElem?_append_left (by rw [cellsL_len]; exact mul_lt_of h1 hf), cellsL_at h1 hf]
    unfold encMs
    congr 2
    simp [atM, List.getElem?_eraseIdx, h1]
  · obtain ⟨q, rfl⟩ : ∃ q, j = k + q := ⟨j - k, by omega⟩
    rw [List.getElem?_append_right (by rw [cellsL_len]; omega), cellsL_len, show (k + q) * 4 + f - k * 4 = q * 4 + f by omega, cellsL_at (by omega) hf]
    unfold encMs
    congr 2
    unfold atM
    rw [List.getD_eq_getElem?_getD, List.getD_eq_getElem?_getD, List.getElem?_eraseIdx, if_neg (by omega), show k + q + 1 = q + (k + 1) by omega]
set_option maxHeartbeats 8000000 in
theorem step4_any (ql qm vc vs vt : Value) (R : Rn) (V : Nat → Value) (l : List Int) (i : Nat) (ln x : Int) (nn : Nat) (w : World) (hi : i ≤ 900) (hnn : nn < 256) (h0 : 0 < R.tk.length) (hk : R.Ok l i) (hr : RIs w ql qm vc vs vt R V) : Calls Try.prog 25 #[runV ql qm vc vs vt, opV 4 ln (nn : Int) x] w fun e w' =>
    ∃ ql' qm' vc' vs' vt' R' V', e = .returned (runV ql' qm' vc' vs' vt') ∧ RIs w' ql' qm' vc' vs' vt' R' V' ∧ R'.Ok l (i + 1) ∧ Below w.heap.size w w' := by
  obtain ⟨PO, hPO⟩ : ∃ PO : Ending → World → Prop, PO = fun e w' => ∃ ql' qm' vc' vs' vt' R' V', e = .returned (runV ql' qm' vc' vs' vt') ∧ RIs w' ql' qm' vc' vs' vt' R' V' ∧ R'.Ok l (i + 1) ∧ Below w.heap.size w w' := ⟨_, rfl⟩
  rw [← hPO]
  have HPO : Hid (PO = _) := hPO
  clear hPO
  have HR : Hid (RIs w ql qm vc vs vt R V) := hr
  have HK : Hid (R.Ok l i) := hk
  have htn : R.tk.length ≤ 1000 := by have := hk.ntk; omega
  have hre := fun W a b c d h => retire_any ql qm R.q V a b c d W (hk.okq hi) h
  obtain ⟨la, lc, rfl, hd1⟩ := hr.q.l
  obtain ⟨ma, mc, rfl, hd2⟩ := hr.q.m
  obtain ⟨ca, cc, rfl, hd3⟩ := hr.c
  obtain ⟨sa, sc, rfl, hd4⟩ := hr.s
  obtain ⟨ta, tc, rfl, hd5⟩ := hr.t
  obtain ⟨k1, k2, k3, b2, s2⟩ := alloc3 w [.slice la R.q.ls.length lc, .slice ma R.q.ms.length mc, .slice ca R.cl.length cc, .slice sa R.se.length sc, .slice ta R.tk.length tc, .bool true] 54 [.int .i64 4, .int .i64 ln, .int .u8 (nn : Int), .int .u64 x] 57 [.slice none 0 0, .slice none 0 0, .slice none 0 0, .slice none 0 0, .slice none 0 0, .bool false] 54
  have K1 : Hid (Blk _ _ _ _) := k1
  have K3 : Hid (Blk _ _ _ _) := k3
  have K2 : Hid (Blk _ _ _ _) := k2
  have B2 : Hid (Below _ _ _) := b2
  clear k1 k2 k3 b2 s2 hr hk hd1 hd2 hd3 hd4 hd5
  have e0 : ((R.tk.length : Int) == 0) = false := by rw [beq_eq_false_iff_ne]; omega
  have e1 : ¬ (R.tk.length : Int) = 0 := by omega
  have HKL : Hid (nn % R.tk.length < R.tk.length) := Nat.mod_lt _ h0
  clear h0
  go_enter Try.func25, Try.ntmps25
  go_wp2_with fail
  rw [show (nn : Int) % (R.tk.length : Int) = ((nn % R.tk.length : Nat) : Int) from rfl]
  generalize ((w.alloc (.cells #[.slice la R.q.ls.length lc, .slice ma R.q.ms.length mc, .slice ca R.cl.length cc, .slice sa R.se.length sc, .slice ta R.tk.length tc, .bool true] 54)).alloc (.cells #[.int .i64 4, .int .i64 ln, .int .u8 (nn : Int), .int .u64 x] 57)).alloc (.cells #[.slice none 0 0, .slice none 0 0, .slice none 0 0, .slice none 0 0, .slice none 0 0, .bool false] 54) = w2 at *
  have HC12 : Hid (w.heap.size < w.heap.size + 1 ∧ w.heap.size + 1 < w.heap.size + 1 + 1) := ⟨by omega, by omega⟩
  generalize w.heap.size + 1 + 1 = C2 at *
  generalize w.heap.size + 1 = C1 at *
  generalize nn % R.tk.length = k at *
  have hkl := HKL.out
  have D2 : Hid (Below w2.heap.size w2 w2.drew) := (Below.refl _ _).drew
  have HB2 : Hid (Below w.heap.size w w2.drew) := B2.out.drew
  obtain ⟨_, _, es, _, _, hrt⟩ := HR.out.t
  cases es
  obtain ⟨bt, ot, rfl, hct⟩ := hrt k hkl
  have HBT : Hid (bt < w.heap.size) := cell_lt (hct 0 (by omega))
  have HTC : Hid (∀ W, Below w.heap.size w W → W.cell? ⟨bt, ot + k * 4, none⟩ = some (.int .i64 (atM R.tk k).ln) ∧ W.cell? ⟨bt, ot + k * 4 + 1, none⟩ = some (.int .i64 (atM R.tk k).ep) ∧ W.cell? ⟨bt, ot + k * 4 + 2, none⟩ = some (.int .i64 (atM R.tk k).n) ∧ W.cell? ⟨bt, ot + k * 4 + 3, none⟩ = some (.int .u64 (atM R.tk k).pay)) := fun W hW => by
    have hc := fun f (hf : f < 4) => (hW.cell (p := ⟨bt, ot + k * 4 + f, none⟩) HBT.out).trans (hct f hf)
    exact ⟨hc 0 (by omega), hc 1 (by omega), hc 2 (by omega), hc 3 (by omega)⟩
  clear hrt hct
  obtain ⟨a0, a1, _, _, a4, _⟩ := (K1.out.below D2.out).bx.six
  obtain ⟨t0, t1, t2, t3⟩ := HTC.out _ HB2.out
  have i1 : (0 : Int) ≤ (k : Int) := by omega
  have i2 : (k : Int) < (R.tk.length : Int) := by omega
  have D3 : Hid (Below w2.heap.size w2 (w2.alloc (.cells #[.slice none 0 0, .slice none 0 0] 25)).drew) := (below_new _ _).drew
  have HB3 : Hid (Below w.heap.size w (w2.alloc (.cells #[.slice none 0 0, .slice none 0 0] 25)).drew) := Below.onto B2.out D3.out
  obtain ⟨b0, b1, _, _, b4, _⟩ := (K1.out.below D3.out).bx.six
  obtain ⟨u0, u1, u2, u3⟩ := HTC.out _ HB3.out
  have KB : Hid (Blk (w2.alloc (.cells #[.slice none 0 0, .slice none 0 0] 25)).drew w2.heap.size 25 [.slice none 0 0, .slice none 0 0]) := Blk.below (blk_new w2 [.slice none 0 0, .slice none 0 0] 25) ((Below.refl _ _).drew)
  have nb1 : ¬ w.heap.size = w2.heap.size := by have := K1.out.lt; omega
  have nb2 : ¬ bt = w2.heap.size := by have := K1.out.lt; have := HBT.out; omega
  have hre2 := fun W (h : Below w.heap.size w W) => hre W (atM R.tk k).ln (atM R.tk k).ep (atM R.tk k).n (atM R.tk k).pay (HR.out.q.below h)
  clear hre
  generalize hm : atM R.tk k = m at *
  have HM : Hid (atM R.tk k = m) := hm
  clear hm
  have hc12 := HC12.out
  have HL2 : Hid (w.heap.size ≤ C2) := by show _ ≤ _; omega
  have hne : ¬ w.heap.size = C2 := by omega
  have nb3 : ¬ C2 = w2.heap.size := by have := K3.out.lt; omega
  have HRT : Hid (R.q.rtE m.ln m.ep = 0 ∧ Rn.Ok ⟨R.q.rtQ m.ln m.ep, R.cl, R.se, R.tk.eraseIdx k⟩ l (i + 1)) := by
    have h := HK.out.retire hkl
    rw [← atM_eq hkl, HM.out] at h
    exact h
  have HTCAP : Hid (R.tk.length ≤ tc) := by
    obtain ⟨_, _, es, h1, _⟩ := HR.out.t
    cases es
    exact h1
  have HSR1 : Hid (∀ W, Below w.heap.size w W → Src W (.slice (some ⟨bt, ot, none⟩) k tc) k (cellsL k 4 (encMs R.tk))) := fun W hW => ((HR.out.t.below hW).front (k := k) (by omega)).src (fun a n c e => by cases e; rfl)
  have HSR2 : Hid (∀ W, Below w.heap.size w W → Src W (.slice (if tc = k + 1 then some ⟨bt, ot, none⟩ else some ⟨bt, ot + (k + 1) * 4, none⟩) (R.tk.length - (k + 1)) (tc - (k + 1))) (R.tk.length - (k + 1)) (cellsL (R.tk.length - (k + 1)) 4 fun j => encMs R.tk (j + (k + 1)))) := fun W hW => by
    obtain ⟨_, _, es, _, _, hr⟩ := HR.out.t.below hW
    cases es
    have htc := HTCAP.out
    by_cases hcc : tc = k + 1
    · rw [if_pos hcc]
      refine .inr ⟨bt, ot, _, rfl, fun i y hi => ?_⟩
      have h1 := (List.getElem?_eq_some_iff.1 hi).1
      rw [cellsL_len] at h1
      omega
    · rw [if_neg hcc]
      refine .inr ⟨bt, ot + (k + 1) * 4, _, rfl, fun i y hi => ?_⟩
      refine cellsL_src (fun i hi f hf => ?_) hi
      obtain ⟨b', off', e', hc'⟩ := hr (i + (k + 1)) (by omega)
      cases e'
      have := hc' f hf
      rw [show ot + (k + 1) * 4 + i * 4 + f = ot + (i + (k + 1)) * 4 + f by omega]
      exact this
  have HO1 : Hid (∀ j, j < k → ∀ f, f < 4 → (encMs R.tk j f).oneCell' = true) := fun j hj f hf => one_encM R.tk j (by omega) f hf
  have HO2 : Hid (∀ j, j < R.tk.length - (k + 1) → ∀ f, f < 4 → (encMs R.tk (j + (k + 1)) f).oneCell' = true) := fun j hj f hf => one_encM R.tk (j + (k + 1)) (by omega) f hf
  clear hc12
  go_region_held3 (fun W => W.cell? ⟨w.heap.size, 0, none⟩ = some (.slice la R.q.ls.length lc) ∧ W.cell? ⟨w.heap.size, 1, none⟩ = some (.slice ma R.q.ms.length mc) ∧ W.cell? ⟨w.heap.size, 4, none⟩ = some (.slice (some ⟨bt, ot, none⟩) R.tk.length tc) ∧ W.cell? ⟨bt, ot + k * 4, none⟩ = some (.int .i64 m.ln) ∧ W.cell? ⟨bt, ot + k * 4 + 1, none⟩ = some (.int .i64 m.ep) ∧ W.cell? ⟨bt, ot + k * 4 + 2, none⟩ = some (.int .i64 m.n) ∧ W.cell? ⟨bt, ot + k * 4 + 3, none⟩ = some (.int .u64 m.pay)) (first | (with_reducible assumption) | (with_reducible exact ⟨a0, a1, a4, t0, t1, t2, t3⟩) | (with_reducible exact ⟨b0, b1, b4, u0, u1, u2, u3⟩) | (with_reducible exact ⟨a0', a1', a4', t0', t1', t2', t3'⟩) | (with_reducible exact ⟨co nb1 (co nb1 a0'), co nb1 (co nb1 a1'), co nb1 (co nb1 a4'), co nb2 (co nb2 t0'), co nb2 (co nb2 t1'), co nb2 (co nb2 t2'), co nb2 (co nb2 t3')⟩) | go_keep) (first
    | (go_at_call 20; (with_reducible refine (hre2 w2.drew HB2.out).mono ?_); rintro e w3 ⟨ul, um, V3, rfl, hq3, hb3, hn3⟩; obtain ⟨a0', a1', _, _, a4', _⟩ := ((K1.out.below D2.out).below hb3).bx.six; obtain ⟨t0', t1', t2', t3'⟩ := HTC.out _ (Below.onto HB2.out hb3); have l1 := ((K1.out.below D2.out).below hb3).lt; have l2 := Nat.lt_of_lt_of_le HBT.out (Below.onto HB2.out hb3).size; have HW3 : Hid (Below w.heap.size w w3) := Below.onto HB2.out hb3; obtain ⟨la3, lc3, hul, _⟩ := id hq3.l; obtain ⟨ma3, mc3, hum, _⟩ := id hq3.m; subst hul; subst hum)
    | (go_at_call 20; (with_reducible refine (hre2 (w2.alloc (.cells #[.slice none 0 0, .slice none 0 0] 25)).drew HB3.out).mono ?_); rintro e w3 ⟨ul, um, V3, rfl, hq3, hb3, hn3⟩; obtain ⟨a0', a1', _, _, a4', _⟩ := ((K1.out.below D3.out).below hb3).bx.six; obtain ⟨t0', t1', t2', t3'⟩ := HTC.out _ (Below.onto HB3.out hb3); have l1 := ((K1.out.below D3.out).below hb3).lt; have l2 := Nat.lt_of_lt_of_le HBT.out (Below.onto HB3.out hb3).size; have HW3 : Hid (Below w.heap.size w w3) := Below.onto HB3.out hb3; obtain ⟨la3, lc3, hul, _⟩ := id hq3.l; obtain ⟨ma3, mc3, hum, _⟩ := id hq3.m; subst hul; subst hum; obtain ⟨v0, v1⟩ := (KB.out.below hb3).bx.two; have v2 := (KB.out.below hb3).fz))
  · clear HTC
    have hlt1 : w.heap.size < w2.drew.heap.size := by have := K1.out.lt; simp; omega
    have hC2 : C2 < w2.drew.heap.size := by have := K3.out.lt; simp; omega
    have K1f : Hid (Blk (w3.alloc (.cells #[.slice la3 (R.q.rtQ m.ln m.ep).ls.length lc3, .slice ma3 (R.q.rtQ m.ln m.ep).ms.length mc3] 25)) w.heap.size 54 [.slice la R.q.ls.length lc, .slice ma R.q.ms.length mc, .slice ca R.cl.length cc, .slice sa R.se.length sc, .slice (some ⟨bt, ot, none⟩) R.tk.length tc, .bool true]) := ((K1.out.below D2.out).below hb3).below (below_new _ _)
    have K3f : Hid (Blk (w3.alloc (.cells #[.slice la3 (R.q.rtQ m.ln m.ep).ls.length lc3, .slice ma3 (R.q.rtQ m.ln m.ep).ms.length mc3] 25)) C2 _ _) := ((K3.out.below D2.out).below hb3).below (below_new _ _)
    have KQ : Hid (Blk (w3.alloc (.cells #[.slice la3 (R.q.rtQ m.ln m.ep).ls.length lc3, .slice ma3 (R.q.rtQ m.ln m.ep).ms.length mc3] 25)) w3.heap.size 25 [.slice la3 (R.q.rtQ m.ln m.ep).ls.length lc3, .slice ma3 (R.q.rtQ m.ln m.ep).ms.length mc3]) := blk_new w3 [.slice la3 (R.q.rtQ m.ln m.ep).ls.length lc3, .slice ma3 (R.q.rtQ m.ln m.ep).ms.length mc3] 25
    have H4 : Hid (QIs (w3.alloc (.cells #[.slice la3 (R.q.rtQ m.ln m.ep).ls.length lc3, .slice ma3 (R.q.rtQ m.ln m.ep).ms.length mc3] 25)) _ _ (R.q.rtQ m.ln m.ep) V3) := QIs.below hq3 (below_new _ _)
    have B4 : Hid (Below w.heap.size w (w3.alloc (.cells #[.slice la3 (R.q.rtQ m.ln m.ep).ls.length lc3, .slice ma3 (R.q.rtQ m.ln m.ep).ms.length mc3] 25))) := Below.onto HW3.out (below_new _ _)
    have HLT : Hid (w.heap.size < w2.drew.heap.size ∧ C2 < w2.drew.heap.size) := ⟨hlt1, hC2⟩
    have nq : ¬ w3.heap.size = w.heap.size := by have := K1.out.lt; have h2 := hb3.size; simp at h2; omega
    rw [HRT.out.1]
    clear a0 a1 a4 t0 t1 t2 t3 b0 b1 b4 u0 u1 u2 u3 a0' a1' a4' t0' t1' t2' t3' l1 l2 hb3 hq3 hlt1 hC2
    generalize w3.alloc (.cells #[.slice la3 (R.q.rtQ m.ln m.ep).ls.length lc3, .slice ma3 (R.q.rtQ m.ln m.ep).ms.length mc3] 25) = w4 at *
    generalize w3.heap.size = bx at *
    obtain ⟨g0, g1, g2, g3, g4, g5⟩ := K1f.out.bx.six
    have g6 := K1f.out.fz
    obtain ⟨x0, x1⟩ := KQ.out.bx.two
    go_wp2_with fail
    have K1g : Hid (Blk (((w4.setCell ⟨w.heap.size, 5, none⟩ (.bool true)).setCell ⟨w.heap.size, 0, none⟩ (.slice la3 (R.q.rtQ m.ln m.ep).ls.length lc3)).setCell ⟨w.heap.size, 1, none⟩ (.slice ma3 (R.q.rtQ m.ln m.ep).ms.length mc3)) w.heap.size _ [.slice la3 (R.q.rtQ m.ln m.ep).ls.length lc3, .slice ma3 (R.q.rtQ m.ln m.ep).ms.length mc3, .slice ca R.cl.length cc, .slice sa R.se.length sc, .slice (some ⟨bt, ot, none⟩) R.tk.length tc, .bool true]) := ((K1f.out.set 5 _).set 0 _).set 1 _
    have K3g : Hid (Blk (((w4.setCell ⟨w.heap.size, 5, none⟩ (.bool true)).setCell ⟨w.heap.size, 0, none⟩ (.slice la3 (R.q.rtQ m.ln m.ep).ls.length lc3)).setCell ⟨w.heap.size, 1, none⟩ (.slice ma3 (R.q.rtQ m.ln m.ep).ms.length mc3)) C2 _ _) := ((K3f.out.setO (fun e => hne e.symm) _).setO (fun e => hne e.symm) _).setO (fun e => hne e.symm) _
    have H5 : Hid (QIs (((w4.setCell ⟨w.heap.size, 5, none⟩ (.bool true)).setCell ⟨w.heap.size, 0, none⟩ (.slice la3 (R.q.rtQ m.ln m.ep).ls.length lc3)).setCell ⟨w.heap.size, 1, none⟩ (.slice ma3 (R.q.rtQ m.ln m.ep).ms.length mc3)) _ _ (R.q.rtQ m.ln m.ep) V3) := ((H4.out.setO hn3 HLT.out.1).setO hn3 HLT.out.1).setO hn3 HLT.out.1
    have B5 : Hid (Below w.heap.size w (((w4.setCell ⟨w.heap.size, 5, none⟩ (.bool true)).setCell ⟨w.heap.size, 0, none⟩ (.slice la3 (R.q.rtQ m.ln m.ep).ls.length lc3)).setCell ⟨w.heap.size, 1, none⟩ (.slice ma3 (R.q.rtQ m.ln m.ep).ms.length mc3))) := ((B4.out.setCell (Nat.le_refl _) _).setCell (Nat.le_refl _) _).setCell (Nat.le_refl _) _
    clear g0 g1 g2 g3 g4 g5 g6 x0 x1
    generalize ((w4.setCell ⟨w.heap.size, 5, none⟩ (.bool true)).setCell ⟨w.heap.size, 0, none⟩ (.slice la3 (R.q.rtQ m.ln m.ep).ls.length lc3)).setCell ⟨w.heap.size, 1, none⟩ (.slice ma3 (R.q.rtQ m.ln m.ep).ms.length mc3) = w5 at *
    obtain ⟨g0, g1, g2, g3, g4, g5⟩ := K1g.out.bx.six
    refine cut_t (r := w.heap.size) (N := R.tk.length) (cv := tc) (k := k) (m1 := k) (m2 := R.tk.length - (k + 1)) (av := some ⟨bt, ot, none⟩) (S1 := .slice (some ⟨bt, ot, none⟩) k tc) (S2 := .slice (if tc = k + 1 then some ⟨bt, ot, none⟩ else some ⟨bt, ot + (k + 1) * 4, none⟩) (R.tk.length - (k + 1)) (tc - (k + 1))) (xs1 := cellsL k 4 (encMs R.tk)) (xs2 := cellsL (R.tk.length - (k + 1)) 4 fun j => encMs R.tk (j + (k + 1))) rfl rfl (by kernel_rfl) (by kernel_rfl) (by kernel_rfl) rfl rfl rfl rfl rfl rfl rfl rfl rfl rfl rfl rfl rfl rfl rfl rfl rfl rfl rfl rfl rfl rfl rfl rfl rfl rfl rfl rfl rfl rfl rfl rfl (by omega) g4 (fun W hW => (K1g.out.below hW).fz 4) (fun b W h1 h2 => cut_t_lo rfl (by omega) HTCAP.out b W h1 h2) (fun b W h1 h2 => cut_t_hi rfl (by omega) b W h1 h2) (HSR1.out _ B5.out) (cellsL_len _ _ _) (cellsL_mem (by decide) HO1.out) (HSR2.out _ B5.out) (cellsL_len _ _ _) (cellsL_mem (by decide) HO2.out) (by omega) (by kernel_rfl) (by kernel_rfl) (by kernel_rfl) (by kernel_rfl) (fun _ _ d _ _ h => by cases d <;> exact h) ?_
    intro vA vB ad c w6 h6 hb6
    generalize (Value.slice (if tc = k + 1 then some ⟨bt, ot, none⟩ else some ⟨bt, ot + (k + 1) * 4, none⟩) (R.tk.length - (k + 1)) (tc - (k + 1))) = sS2
    have hz5 := K1g.out.lt
    have hz3 := K3g.out.lt
    have K1h : Hid (Blk (w6.setCell ⟨w.heap.size, 4, none⟩ (.slice ad (k + (R.tk.length - (k + 1))) c)) w.heap.size _ [.slice la3 (R.q.rtQ m.ln m.ep).ls.length lc3, .slice ma3 (R.q.rtQ m.ln m.ep).ms.length mc3, .slice ca R.cl.length cc, .slice sa R.se.length sc, .slice ad (k + (R.tk.length - (k + 1))) c, .bool true]) := (K1g.out.below hb6).set 4 _
    have K3h : Hid (Blk (w6.setCell ⟨w.heap.size, 4, none⟩ (.slice ad (k + (R.tk.length - (k + 1))) c)) C2 _ _) := (K3g.out.below hb6).setO (fun e => hne e.symm) _
    have H9 : Hid (QIs (w6.setCell ⟨w.heap.size, 4, none⟩ (.slice ad (k + (R.tk.length - (k + 1))) c)) _ _ (R.q.rtQ m.ln m.ep) V3) := (H5.out.below hb6).setO hn3 HLT.out.1
    have h6' := own_set (i := 4) (u := (.slice ad (k + (R.tk.length - (k + 1))) c)) h6 (b := w.heap.size) fun e => by have := own_blk h6 _ e; omega
    have HT9 : Hid (Sl (w6.setCell ⟨w.heap.size, 4, none⟩ (.slice ad (k + (R.tk.length - (k + 1))) c)) 4 (R.tk.eraseIdx k).length (encMs (R.tk.eraseIdx k)) (.slice ad (k + (R.tk.length - (k + 1))) c)) := ms4_erase hkl h6'
    have HS9 : Hid (Sp (.slice ad (k + (R.tk.length - (k + 1))) c)) := sp_own h6
    have B9 : Hid (Below w.heap.size w (w6.setCell ⟨w.heap.size, 4, none⟩ (.slice ad (k + (R.tk.length - (k + 1))) c))) := (Below.onto B5.out hb6).setCell (Nat.le_refl _) _
    have HOB : Hid (∀ b, (Value.slice ad (k + (R.tk.length - (k + 1))) c).ownBlock = some b → ¬ b = C2) := fun b e e2 => by have := own_blk h6 b e; omega
    clear h6 h6' hb6 hz5 hz3 g0 g1 g2 g3 g4 g5
    generalize w6.setCell ⟨w.heap.size, 4, none⟩ (.slice ad (k + (R.tk.length - (k + 1))) c) = w7 at *
    obtain ⟨g0, g1, g2, g3, g4, g5⟩ := K1h.out.bx.six
    obtain ⟨z0, z1, z2, z3, z4, z5⟩ := K3h.out.bx.six
    have z6 := K3h.out.fz
    go_wp2_with fail
    refine bodyPost_ret (v := runV (.slice la3 (R.q.rtQ m.ln m.ep).ls.length lc3) (.slice ma3 (R.q.rtQ m.ln m.ep).ms.length mc3) (.slice ca R.cl.length cc) (.slice sa R.se.length sc) (.slice ad (k + (R.tk.length - (k + 1))) c)) (by simp [results, Try.results25, go_sem, z0, z1, z2, z3, z4, z5]) rfl ?_
    rw [HPO.out]
    refine ⟨_, _, _, _, _, ⟨R.q.rtQ m.ln m.ep, R.cl, R.se, R.tk.eraseIdx k⟩, V3, rfl, ?_, HRT.out.2, ?_⟩
    · have BF : Below w.heap.size w _ := ((((((B9.out.setCell (p := ⟨C2, 0, none⟩) HL2.out (.slice la3 (R.q.rtQ m.ln m.ep).ls.length lc3)).setCell (p := ⟨C2, 1, none⟩) HL2.out (.slice ma3 (R.q.rtQ m.ln m.ep).ms.length mc3)).setCell (p := ⟨C2, 2, none⟩) HL2.out (.slice ca R.cl.length cc)).setCell (p := ⟨C2, 3, none⟩) HL2.out (.slice sa R.se.length sc)).setCell (p := ⟨C2, 4, none⟩) HL2.out (.slice ad (k + (R.tk.length - (k + 1))) c)).setCell (p := ⟨C2, 5, none⟩) HL2.out (.bool true))
      have hC2 := HLT.out.2
      have HQF := ((((((H9.out.setO (i := 0) (u := .slice la3 (R.q.rtQ m.ln m.ep).ls.length lc3) hn3 hC2).setO (i := 1) (u := .slice ma3 (R.q.rtQ m.ln m.ep).ms.length mc3) hn3 hC2).setO (i := 2) (u := .slice ca R.cl.length cc) hn3 hC2).setO (i := 3) (u := .slice sa R.se.length sc) hn3 hC2).setO (i := 4) (u := .slice ad (k + (R.tk.length - (k + 1))) c) hn3 hC2).setO (i := 5) (u := .bool true) hn3 hC2)
      have ho : (Value.slice ad (k + (R.tk.length - (k + 1))) c).ownBlock ≠ some C2 := fun e => HOB.out C2 e rfl
      have HTF := ((((((HT9.out.setO (i := 0) (u := .slice la3 (R.q.rtQ m.ln m.ep).ls.length lc3) ho).setO (i := 1) (u := .slice ma3 (R.q.rtQ m.ln m.ep).ms.length mc3) ho).setO (i := 2) (u := .slice ca R.cl.length cc) ho).setO (i := 3) (u := .slice sa R.se.length sc) ho).setO (i := 4) (u := .slice ad (k + (R.tk.length - (k + 1))) c) ho).setO (i := 5) (u := .bool true) ho)
      exact ⟨HQF, HR.out.c.below BF, HR.out.s.below BF, HTF, HR.out.pc, HR.out.ps, HS9.out⟩
    · repeat (first | (with_reducible exact B9.out) | ((with_reducible refine Below.setCell ?_ ?_ _); rotate_left; first | exact HL2.out))
  · clear HTC
    have hlt1 : w.heap.size < (w2.alloc (.cells #[.slice none 0 0, .slice none 0 0] 25)).drew.heap.size := by have := K1.out.lt; simp; omega
    have hC2 : C2 < (w2.alloc (.cells #[.slice none 0 0, .slice none 0 0] 25)).drew.heap.size := by have := K3.out.lt; simp; omega
    have K1f : Hid (Blk ((w3.setCell ⟨w2.heap.size, 0, none⟩ (.slice la3 (R.q.rtQ m.ln m.ep).ls.length lc3)).setCell ⟨w2.heap.size, 1, none⟩ (.slice ma3 (R.q.rtQ m.ln m.ep).ms.length mc3)) w.heap.size 54 [.slice la R.q.ls.length lc, .slice ma R.q.ms.length mc, .slice ca R.cl.length cc, .slice sa R.se.length sc, .slice (some ⟨bt, ot, none⟩) R.tk.length tc, .bool true]) := (((K1.out.below D3.out).below hb3).setO nb1 _).setO nb1 _
    have K3f : Hid (Blk ((w3.setCell ⟨w2.heap.size, 0, none⟩ (.slice la3 (R.q.rtQ m.ln m.ep).ls.length lc3)).setCell ⟨w2.heap.size, 1, none⟩ (.slice ma3 (R.q.rtQ m.ln m.ep).ms.length mc3)) C2 _ _) := (((K3.out.below D3.out).below hb3).setO nb3 _).setO nb3 _
    have KQ : Hid (Blk ((w3.setCell ⟨w2.heap.size, 0, none⟩ (.slice la3 (R.q.rtQ m.ln m.ep).ls.length lc3)).setCell ⟨w2.heap.size, 1, none⟩ (.slice ma3 (R.q.rtQ m.ln m.ep).ms.length mc3)) w2.heap.size 25 [.slice la3 (R.q.rtQ m.ln m.ep).ls.length lc3, .slice ma3 (R.q.rtQ m.ln m.ep).ms.length mc3]) := ((KB.out.below hb3).set 0 _).set 1 _
    have H4 : Hid (QIs ((w3.setCell ⟨w2.heap.size, 0, none⟩ (.slice la3 (R.q.rtQ m.ln m.ep).ls.length lc3)).setCell ⟨w2.heap.size, 1, none⟩ (.slice ma3 (R.q.rtQ m.ln m.ep).ms.length mc3)) _ _ (R.q.rtQ m.ln m.ep) V3) := (QIs.setO hq3 hn3 (by simp)).setO hn3 (by simp)
    have B4 : Hid (Below w.heap.size w ((w3.setCell ⟨w2.heap.size, 0, none⟩ (.slice la3 (R.q.rtQ m.ln m.ep).ls.length lc3)).setCell ⟨w2.heap.size, 1, none⟩ (.slice ma3 (R.q.rtQ m.ln m.ep).ms.length mc3))) := (HW3.out.setCell (Nat.le_of_lt K1.out.lt) _).setCell (Nat.le_of_lt K1.out.lt) _
    have HLT : Hid (w.heap.size < (w2.alloc (.cells #[.slice none 0 0, .slice none 0 0] 25)).drew.heap.size ∧ C2 < (w2.alloc (.cells #[.slice none 0 0, .slice none 0 0] 25)).drew.heap.size) := ⟨hlt1, hC2⟩
    have nq : ¬ w2.heap.size = w.heap.size := by have := K1.out.lt; omega
    rw [HRT.out.1]
    clear a0 a1 a4 t0 t1 t2 t3 b0 b1 b4 u0 u1 u2 u3 a0' a1' a4' t0' t1' t2' t3' l1 l2 hb3 hq3 hlt1 hC2
    generalize (w3.setCell ⟨w2.heap.size, 0, none⟩ (.slice la3 (R.q.rtQ m.ln m.ep).ls.length lc3)).setCell ⟨w2.heap.size, 1, none⟩ (.slice ma3 (R.q.rtQ m.ln m.ep).ms.length mc3) = w4 at *
    generalize w2.heap.size = bx at *
    obtain ⟨g0, g1, g2, g3, g4, g5⟩ := K1f.out.bx.six
    have g6 := K1f.out.fz
    obtain ⟨x0, x1⟩ := KQ.out.bx.two
    go_wp2_with fail
    have K1g : Hid (Blk (((w4.setCell ⟨w.heap.size, 5, none⟩ (.bool true)).setCell ⟨w.heap.size, 0, none⟩ (.slice la3 (R.q.rtQ m.ln m.ep).ls.length lc3)).setCell ⟨w.heap.size, 1, none⟩ (.slice ma3 (R.q.rtQ m.ln m.ep).ms.length mc3)) w.heap.size _ [.slice la3 (R.q.rtQ m.ln m.ep).ls.length lc3, .slice ma3 (R.q.rtQ m.ln m.ep).ms.length mc3, .slice ca R.cl.length cc, .slice sa R.se.length sc, .slice (some ⟨bt, ot, none⟩) R.tk.length tc, .bool true]) := ((K1f.out.set 5 _).set 0 _).set 1 _
    have K3g : Hid (Blk (((w4.setCell ⟨w.heap.size, 5, none⟩ (.bool true)).setCell ⟨w.heap.size, 0, none⟩ (.slice la3 (R.q.rtQ m.ln m.ep).ls.length lc3)).setCell ⟨w.heap.size, 1, none⟩ (.slice ma3 (R.q.rtQ m.ln m.ep).ms.length mc3)) C2 _ _) := ((K3f.out.setO (fun e => hne e.symm) _).setO (fun e => hne e.symm) _).setO (fun e => hne e.symm) _
    have H5 : Hid (QIs (((w4.setCell ⟨w.heap.size, 5, none⟩ (.bool true)).setCell ⟨w.heap.size, 0, none⟩ (.slice la3 (R.q.rtQ m.ln m.ep).ls.length lc3)).setCell ⟨w.heap.size, 1, none⟩ (.slice ma3 (R.q.rtQ m.ln m.ep).ms.length mc3)) _ _ (R.q.rtQ m.ln m.ep) V3) := ((H4.out.setO hn3 HLT.out.1).setO hn3 HLT.out.1).setO hn3 HLT.out.1
    have B5 : Hid (Below w.heap.size w (((w4.setCell ⟨w.heap.size, 5, none⟩ (.bool true)).setCell ⟨w.heap.size, 0, none⟩ (.slice la3 (R.q.rtQ m.ln m.ep).ls.length lc3)).setCell ⟨w.heap.size, 1, none⟩ (.slice ma3 (R.q.rtQ m.ln m.ep).ms.length mc3))) := ((B4.out.setCell (Nat.le_refl _) _).setCell (Nat.le_refl _) _).setCell (Nat.le_refl _) _
    clear g0 g1 g2 g3 g4 g5 g6 x0 x1
    generalize ((w4.setCell ⟨w.heap.size, 5, none⟩ (.bool true)).setCell ⟨w.heap.size, 0, none⟩ (.slice la3 (R.q.rtQ m.ln m.ep).ls.length lc3)).setCell ⟨w.heap.size, 1, none⟩ (.slice ma3 (R.q.rtQ m.ln m.ep).ms.length mc3) = w5 at *
    obtain ⟨g0, g1, g2, g3, g4, g5⟩ := K1g.out.bx.six
    refine cut_t (r := w.heap.size) (N := R.tk.length) (cv := tc) (k := k) (m1 := k) (m2 := R.tk.length - (k + 1)) (av := some ⟨bt, ot, none⟩) (S1 := .slice (some ⟨bt, ot, none⟩) k tc) (S2 := .slice (if tc = k + 1 then some ⟨bt, ot, none⟩ else some ⟨bt, ot + (k + 1) * 4, none⟩) (R.tk.length - (k + 1)) (tc - (k + 1))) (xs1 := cellsL k 4 (encMs R.tk)) (xs2 := cellsL (R.tk.length - (k + 1)) 4 fun j => encMs R.tk (j + (k + 1))) rfl rfl (by kernel_rfl) (by kernel_rfl) (by kernel_rfl) rfl rfl rfl rfl rfl rfl rfl rfl rfl rfl rfl rfl rfl rfl rfl rfl rfl rfl rfl rfl rfl rfl rfl rfl rfl rfl rfl rfl rfl rfl rfl rfl (by omega) g4 (fun W hW => (K1g.out.below hW).fz 4) (fun b W h1 h2 => cut_t_lo rfl (by omega) HTCAP.out b W h1 h2) (fun b W h1 h2 => cut_t_hi rfl (by omega) b W h1 h2) (HSR1.out _ B5.out) (cellsL_len _ _ _) (cellsL_mem (by decide) HO1.out) (HSR2.out _ B5.out) (cellsL_len _ _ _) (cellsL_mem (by decide) HO2.out) (by omega) (by kernel_rfl) (by kernel_rfl) (by kernel_rfl) (by kernel_rfl) (fun _ _ d _ _ h => by cases d <;> exact h) ?_
    intro vA vB ad c w6 h6 hb6
    generalize (Value.slice (if tc = k + 1 then some ⟨bt, ot, none⟩ else some ⟨bt, ot + (k + 1) * 4, none⟩) (R.tk.length - (k + 1)) (tc - (k + 1))) = sS2
    have hz5 := K1g.out.lt
    have hz3 := K3g.out.lt
    have K1h : Hid (Blk (w6.setCell ⟨w.heap.size, 4, none⟩ (.slice ad (k + (R.tk.length - (k + 1))) c)) w.heap.size _ [.slice la3 (R.q.rtQ m.ln m.ep).ls.length lc3, .slice ma3 (R.q.rtQ m.ln m.ep).ms.length mc3, .slice ca R.cl.length cc, .slice sa R.se.length sc, .slice ad (k + (R.tk.length - (k + 1))) c, .bool true]) := (K1g.out.below hb6).set 4 _
    have K3h : Hid (Blk (w6.setCell ⟨w.heap.size, 4, none⟩ (.slice ad (k + (R.tk.length - (k + 1))) c)) C2 _ _) := (K3g.out.below hb6).setO (fun e => hne e.symm) _
    have H9 : Hid (QIs (w6.setCell ⟨w.heap.size, 4, none⟩ (.slice ad (k + (R.tk.length - (k + 1))) c)) _ _ (R.q.rtQ m.ln m.ep) V3) := (H5.out.below hb6).setO hn3 HLT.out.1
    have h6' := own_set (i := 4) (u := (.slice ad (k + (R.tk.length - (k + 1))) c)) h6 (b := w.heap.size) fun e => by have := own_blk h6 _ e; omega
    have HT9 : Hid (Sl (w6.setCell ⟨w.heap.size, 4, none⟩ (.slice ad (k + (R.tk.length - (k + 1))) c)) 4 (R.tk.eraseIdx k).length (encMs (R.tk.eraseIdx k)) (.slice ad (k + (R.tk.length - (k + 1))) c)) := ms4_erase hkl h6'
    have HS9 : Hid (Sp (.slice ad (k + (R.tk.length - (k + 1))) c)) := sp_own h6
    have B9 : Hid (Below w.heap.size w (w6.setCell ⟨w.heap.size, 4, none⟩ (.slice ad (k + (R.tk.length - (k + 1))) c))) := (Below.onto B5.out hb6).setCell (Nat.le_refl _) _
    have HOB : Hid (∀ b, (Value.slice ad (k + (R.tk.length - (k + 1))) c).ownBlock = some b → ¬ b = C2) := fun b e e2 => by have := own_blk h6 b e; omega
    clear h6 h6' hb6 hz5 hz3 g0 g1 g2 g3 g4 g5
    generalize w6.setCell ⟨w.heap.size, 4, none⟩ (.slice ad (k + (R.tk.length - (k + 1))) c) = w7 at *
    obtain ⟨g0, g1, g2, g3, g4, g5⟩ := K1h.out.bx.six
    obtain ⟨z0, z1, z2, z3, z4, z5⟩ := K3h.out.bx.six
    have z6 := K3h.out.fz
    go_wp2_with fail
    refine bodyPost_ret (v := runV (.slice la3 (R.q.rtQ m.ln m.ep).ls.length lc3) (.slice ma3 (R.q.rtQ m.ln m.ep).ms.length mc3) (.slice ca R.cl.length cc) (.slice sa R.se.length sc) (.slice ad (k + (R.tk.length - (k + 1))) c)) (by simp [results, Try.results25, go_sem, z0, z1, z2, z3, z4, z5]) rfl ?_
    rw [HPO.out]
    refine ⟨_, _, _, _, _, ⟨R.q.rtQ m.ln m.ep, R.cl, R.se, R.tk.eraseIdx k⟩, V3, rfl, ?_, HRT.out.2, ?_⟩
    · have BF : Below w.heap.size w _ := ((((((B9.out.setCell (p := ⟨C2, 0, none⟩) HL2.out (.slice la3 (R.q.rtQ m.ln m.ep).ls.length lc3)).setCell (p := ⟨C2, 1, none⟩) HL2.out (.slice ma3 (R.q.rtQ m.ln m.ep).ms.length mc3)).setCell (p := ⟨C2, 2, none⟩) HL2.out (.slice ca R.cl.length cc)).setCell (p := ⟨C2, 3, none⟩) HL2.out (.slice sa R.se.length sc)).setCell (p := ⟨C2, 4, none⟩) HL2.out (.slice ad (k + (R.tk.length - (k + 1))) c)).setCell (p := ⟨C2, 5, none⟩) HL2.out (.bool true))
      have hC2 := HLT.out.2
      have HQF := ((((((H9.out.setO (i := 0) (u := .slice la3 (R.q.rtQ m.ln m.ep).ls.length lc3) hn3 hC2).setO (i := 1) (u := .slice ma3 (R.q.rtQ m.ln m.ep).ms.length mc3) hn3 hC2).setO (i := 2) (u := .slice ca R.cl.length cc) hn3 hC2).setO (i := 3) (u := .slice sa R.se.length sc) hn3 hC2).setO (i := 4) (u := .slice ad (k + (R.tk.length - (k + 1))) c) hn3 hC2).setO (i := 5) (u := .bool true) hn3 hC2)
      have ho : (Value.slice ad (k + (R.tk.length - (k + 1))) c).ownBlock ≠ some C2 := fun e => HOB.out C2 e rfl
      have HTF := ((((((HT9.out.setO (i := 0) (u := .slice la3 (R.q.rtQ m.ln m.ep).ls.length lc3) ho).setO (i := 1) (u := .slice ma3 (R.q.rtQ m.ln m.ep).ms.length mc3) ho).setO (i := 2) (u := .slice ca R.cl.length cc) ho).setO (i := 3) (u := .slice sa R.se.length sc) ho).setO (i := 4) (u := .slice ad (k + (R.tk.length - (k + 1))) c) ho).setO (i := 5) (u := .bool true) ho)
      exact ⟨HQF, HR.out.c.below BF, HR.out.s.below BF, HTF, HR.out.pc, HR.out.ps, HS9.out⟩
    · repeat (first | (with_reducible exact B9.out) | ((with_reducible refine Below.setCell ?_ ?_ _); rotate_left; first | exact HL2.out))

end Go.Proofs.Ytimmjhegeagofab
