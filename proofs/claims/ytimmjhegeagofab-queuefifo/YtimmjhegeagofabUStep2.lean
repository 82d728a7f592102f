/- The law's step: a claim is published. -/
import Derived.Test.YtimmjhegeagofabUStep1
import Derived.Test.YtimmjhegeagofabUPub
import Derived.Test.YtimmjhegeagofabULight
import Derived.Deep.RegionHeld3
namespace Go.Proofs.Ytimmjhegeagofab
open Go.RowKit Go.Sort
set_option maxRecDepth 100000

theorem one_encU (l : List Int) : ∀ j, j < l.length → ∀ f, f < 1 → (encU l j f).oneCell' = true := fun _ _ _ _ => rfl
theorem se_snoc {w : World} {base : Nat} {v : Value} {l : List Int} {x : Int} (h : w.ownsRow base 28 1 v (l.length + 1) (cellsL l.length 1 (encU l) ++ [.int .u64 x])) : Sl w 1 (l ++ [x]).length (encU (l ++ [x])) v := by
  rw [show (l ++ [x]).length = l.length + 1 by simp]
  refine (sl_own h (snoc_cells (d := encU [x] 0) fun f hf => ?_)).congr fun j hj f hf => ?_
  · obtain rfl : f = 0 := by omega
    rfl
  · unfold snocC
    by_cases hl : j < l.length
    · rw [if_pos hl]
      simp [encU, atI, List.getElem?_append_left hl]
    · obtain rfl : j = l.length := by omega
      rw [if_neg hl]
      simp [encU, atI]
theorem cl3_erase {w : World} {base k : Nat} {v : Value} {l : List (Int × Int × Int)} (hk : k < l.length) (h : w.ownsRow base 27 3 v (k + (l.length - (k + 1))) (cellsL k 3 (encC l) ++ cellsL (l.length - (k + 1)) 3 fun j => encC l (j + (k + 1)))) : Sl w 3 (l.eraseIdx k).length (encC (l.eraseIdx k)) v := by
  have hle : (l.eraseIdx k).length = k + (l.length - (k + 1)) := by rw [List.length_eraseIdx, if_pos hk]; omega
  rw [hle]
  refine sl_own h fun j hj f hf => ?_
  have key : ∀ a b : Nat, atC (l.eraseIdx k) a = atC l b → ∀ f, encC (l.eraseIdx k) a f = encC l b f := fun a b e f => by
    unfold encC
    rw [e]
  by_cases h1 : j < k
  · rw [List.getElem?_append_left (by rw [cellsL_len]; exact mul_lt_of h1 hf), cellsL_at h1 hf, key j j (by simp [atC, List.getElem?_eraseIdx, h1])]
  · obtain ⟨q, rfl⟩ : ∃ q, j = k + q := ⟨j - k, by omega⟩
    rw [List.getElem?_append_right (by rw [cellsL_len]; omega), cellsL_len, show (k + q) * 3 + f - k * 3 = q * 3 + f by omega, cellsL_at (by omega) hf, key (k + q) (q + (k + 1)) (by unfold atC; rw [List.getD_eq_getElem?_getD, List.getD_eq_getElem?_getD, List.getElem?_eraseIdx, if_neg (by omega), show k + q + 1 = q + (k + 1) by omega])]
set_option maxHeartbeats 16000000 in
theorem step2_no (ql qm vc vs vt : Value) (R : Rn) (V : Nat → Value) (l : List Int) (i : Nat) (ln x : Int) (nn : Nat) (w : World) (hi : i ≤ 900) (hnn : nn < 256) (h0 : 0 < R.cl.length) (hE : R.q.pbE (atC R.cl (nn % R.cl.length)).1 (atC R.cl (nn % R.cl.length)).2.1 (atC R.cl (nn % R.cl.length)).2.2 ≠ 0) (hk : R.Ok l i) (hr : RIs w ql qm vc vs vt R V) : Calls Try.prog 25 #[runV ql qm vc vs vt, opV 2 ln (nn : Int) x] w fun e w' =>
    ∃ ql' qm' vc' vs' vt' R' V', e = .returned (runV ql' qm' vc' vs' vt') ∧ RIs w' ql' qm' vc' vs' vt' R' V' ∧ R'.Ok l (i + 1) ∧ Below w.heap.size w w' := by
  obtain ⟨PO, hPO⟩ : ∃ PO : Ending → World → Prop, PO = fun e w' => ∃ ql' qm' vc' vs' vt' R' V', e = .returned (runV ql' qm' vc' vs' vt') ∧ RIs w' ql' qm' vc' vs' vt' R' V' ∧ R'.Ok l (i + 1) ∧ Below w.heap.size w w' := ⟨_, rfl⟩
  rw [← hPO]
  have HPO : Hid (PO = _) := hPO
  clear hPO
  have HR : Hid (RIs w ql qm vc vs vt R V) := hr
  have HK : Hid (R.Ok l i) := hk
  have HE0 : Hid (_ ≠ _) := hE
  have hcn : R.cl.length ≤ 1000 := by have := hk.ncl; omega
  have hsn : R.se.length ≤ 1000 := by have := hk.ms; rw [hk.se]; simp; omega
  have hrd := fun W a b c h => ready_any ql qm R.q V a b c W (hk.okq hi) h
  have hpb := fun W a b c h => publish_any ql qm R.q V a b c x W (by have := hk.ms; omega) (hk.okq hi) h
  obtain ⟨la, lc, rfl, hd1⟩ := hr.q.l
  obtain ⟨ma, mc, rfl, hd2⟩ := hr.q.m
  obtain ⟨ca, cc, rfl, hd3⟩ := hr.c
  obtain ⟨sa, sc, rfl, hd4⟩ := hr.s
  obtain ⟨ta, tc, rfl, hd5⟩ := hr.t
  obtain ⟨k1, k2, k3, b2, s2⟩ := alloc3 w [.slice la R.q.ls.length lc, .slice ma R.q.ms.length mc, .slice ca R.cl.length cc, .slice sa R.se.length sc, .slice ta R.tk.length tc, .bool true] 54 [.int .i64 2, .int .i64 ln, .int .u8 (nn : Int), .int .u64 x] 57 [.slice none 0 0, .slice none 0 0, .slice none 0 0, .slice none 0 0, .slice none 0 0, .bool false] 54
  have K1 : Hid (Blk _ _ _ _) := k1
  have K3 : Hid (Blk _ _ _ _) := k3
  have K2 : Hid (Blk _ _ _ _) := k2
  have B2 : Hid (Below _ _ _) := b2
  clear k1 k2 k3 b2 s2 hr hk hd1 hd2 hd3 hd4 hd5 hE
  have e0 : ((R.cl.length : Int) == 0) = false := by rw [beq_eq_false_iff_ne]; omega
  have e1 : ¬ (R.cl.length : Int) = 0 := by omega
  have HKL : Hid (nn % R.cl.length < R.cl.length) := Nat.mod_lt _ h0
  clear h0
  go_enter Try.func25, Try.ntmps25
  go_wp2_with fail
  rw [show (nn : Int) % (R.cl.length : Int) = ((nn % R.cl.length : Nat) : Int) from rfl]
  generalize ((w.alloc (.cells #[.slice la R.q.ls.length lc, .slice ma R.q.ms.length mc, .slice ca R.cl.length cc, .slice sa R.se.length sc, .slice ta R.tk.length tc, .bool true] 54)).alloc (.cells #[.int .i64 2, .int .i64 ln, .int .u8 (nn : Int), .int .u64 x] 57)).alloc (.cells #[.slice none 0 0, .slice none 0 0, .slice none 0 0, .slice none 0 0, .slice none 0 0, .bool false] 54) = wq at *
  have HC12 : Hid (w.heap.size < w.heap.size + 1 ∧ w.heap.size + 1 < w.heap.size + 1 + 1) := ⟨by omega, by omega⟩
  generalize w.heap.size + 1 + 1 = C2 at *
  generalize w.heap.size + 1 = C1 at *
  generalize nn % R.cl.length = k at *
  have hkl := HKL.out
  obtain ⟨_, _, es, _, _, hrt⟩ := HR.out.c
  cases es
  obtain ⟨bt, ot, rfl, hct⟩ := hrt k hkl
  have HBT : Hid (bt < w.heap.size) := cell_lt (hct 0 (by omega))
  have HTC : Hid (∀ W, Below w.heap.size w W → W.cell? ⟨bt, ot + k * 3, none⟩ = some (.int .i64 (atC R.cl k).1) ∧ W.cell? ⟨bt, ot + k * 3 + 1, none⟩ = some (.int .i64 (atC R.cl k).2.1) ∧ W.cell? ⟨bt, ot + k * 3 + 2, none⟩ = some (.int .i64 (atC R.cl k).2.2)) := fun W hW => by
    have hc := fun f (hf : f < 3) => (hW.cell (p := ⟨bt, ot + k * 3 + f, none⟩) HBT.out).trans (hct f hf)
    exact ⟨hc 0 (by omega), hc 1 (by omega), hc 2 (by omega)⟩
  clear hrt hct
  generalize hm : atC R.cl k = c at *
  have HM : Hid (atC R.cl k = c) := hm
  clear hm
  have HE : Hid ((R.q.pbE c.1 c.2.1 c.2.2) ≠ 0) := HE0.out
  have cR := regrown_call (w := wq) (f := 15) (args := #[quV (.slice la R.q.ls.length lc) (.slice ma R.q.ms.length mc), clV c.1 c.2.1 c.2.2]) (v := .bool false) (fun W hW => by
    have h := hrd W c.1 c.2.1 c.2.2 (HR.out.q.below (Below.onto B2.out hW))
    rwa [show decide ((R.q.pbE c.1 c.2.1 c.2.2) = 0) = false by have := HE.out; simpa using this] at h)
  obtain ⟨f0, f1, f2, _, _, _⟩ := K1.out.bx.six
  obtain ⟨h0', h1', h2'⟩ := HTC.out _ B2.out
  have q0 := cell_regrown f0
  have q1 := cell_regrown f1
  have q2 := cell_regrown f2
  have q3 := cell_regrown h0'
  have q4 := cell_regrown h1'
  have q5 := cell_regrown h2'
  have ql1 := K1.out.lt
  have ql2 := cell_lt h0'
  have i1 : (0 : Int) ≤ (k : Int) := by omega
  have i2 : (k : Int) < (R.cl.length : Int) := by omega
  clear f0 f1 f2 h0' h1' h2'
  refine wp_region_quiet_below (by kernel_rfl) (by kernel_rfl) ?_
  repeat (go_big_quiet_step (with_reducible exact cR _ _))
  refine wpQuiet_nil ?_
  intro _ hw'
  obtain ⟨⟨dq, osq⟩, hw''⟩ := hw'
  subst hw''
  have hbq := below_regrown wq dq osq
  have K1w : Hid (Blk (grow (redrawn wq dq) osq) _ _ _) := K1.out.below hbq
  have K2w : Hid (Blk (grow (redrawn wq dq) osq) _ _ _) := K2.out.below hbq
  have K3w : Hid (Blk (grow (redrawn wq dq) osq) _ _ _) := K3.out.below hbq
  have B2w : Hid (Below w.heap.size w (grow (redrawn wq dq) osq)) := Below.onto B2.out hbq
  clear hbq q0 q1 q2 q3 q4 q5 ql1 ql2 cR K1 K2 K3 B2
  generalize grow (redrawn wq dq) osq = w2 at *
  go_wp2_with fail
  have D2 : Hid (Below w2.heap.size w2 w2.drew) := (Below.refl _ _).drew
  have HB2 : Hid (Below w.heap.size w w2.drew) := B2w.out.drew
  obtain ⟨a0, a1, a2, _, _, _⟩ := (K1w.out.below D2.out).bx.six
  obtain ⟨t0, t1, t2⟩ := HTC.out _ HB2.out
  obtain ⟨_, _, _, o3⟩ := (K2w.out.below D2.out).bx.four
  have D3 : Hid (Below w2.heap.size w2 (w2.alloc (.cells #[.slice none 0 0, .slice none 0 0] 25)).drew) := (below_new _ _).drew
  have HB3 : Hid (Below w.heap.size w (w2.alloc (.cells #[.slice none 0 0, .slice none 0 0] 25)).drew) := Below.onto B2w.out D3.out
  obtain ⟨b0, b1, b2, _, _, _⟩ := (K1w.out.below D3.out).bx.six
  obtain ⟨u0, u1, u2⟩ := HTC.out _ HB3.out
  obtain ⟨_, _, _, p3⟩ := (K2w.out.below D3.out).bx.four
  have KB : Hid (Blk (w2.alloc (.cells #[.slice none 0 0, .slice none 0 0] 25)).drew w2.heap.size 25 [.slice none 0 0, .slice none 0 0]) := Blk.below (blk_new w2 [.slice none 0 0, .slice none 0 0] 25) ((Below.refl _ _).drew)
  have nb1 : ¬ w.heap.size = w2.heap.size := by have := K1w.out.lt; omega
  have nb2 : ¬ bt = w2.heap.size := by have := K1w.out.lt; have := HBT.out; omega
  have hre2 := fun W (h : Below w.heap.size w W) => hpb W c.1 c.2.1 c.2.2 (HR.out.q.below h)
  clear hpb hrd
  have hc12 := HC12.out
  have HL2 : Hid (w.heap.size ≤ C2) := by show _ ≤ _; omega
  have hne : ¬ w.heap.size = C2 := by omega
  have hne1 : ¬ w.heap.size = C1 := by omega
  have nb3 : ¬ C2 = w2.heap.size := by have := K3w.out.lt; omega
  have nb4 : ¬ C1 = w2.heap.size := by have := K2w.out.lt; omega
  clear hc12
  go_region_held3 (fun W => W.cell? ⟨w.heap.size, 0, none⟩ = some (.slice la R.q.ls.length lc) ∧ W.cell? ⟨w.heap.size, 1, none⟩ = some (.slice ma R.q.ms.length mc) ∧ W.cell? ⟨w.heap.size, 2, none⟩ = some (.slice (some ⟨bt, ot, none⟩) R.cl.length cc) ∧ W.cell? ⟨bt, ot + k * 3, none⟩ = some (.int .i64 c.1) ∧ W.cell? ⟨bt, ot + k * 3 + 1, none⟩ = some (.int .i64 c.2.1) ∧ W.cell? ⟨bt, ot + k * 3 + 2, none⟩ = some (.int .i64 c.2.2) ∧ W.cell? ⟨C1, 3, none⟩ = some (.int .u64 x)) (first | (with_reducible assumption) | (with_reducible exact ⟨a0, a1, a2, t0, t1, t2, o3⟩) | (with_reducible exact ⟨b0, b1, b2, u0, u1, u2, p3⟩) | (with_reducible exact ⟨a0', a1', a2', t0', t1', t2', o3'⟩) | (with_reducible exact ⟨co nb1 (co nb1 a0'), co nb1 (co nb1 a1'), co nb1 (co nb1 a2'), co nb2 (co nb2 t0'), co nb2 (co nb2 t1'), co nb2 (co nb2 t2'), co nb4 (co nb4 o3')⟩) | go_keep) (first
    | (go_at_call 12; (with_reducible refine (hre2 w2.drew HB2.out).mono ?_); rintro e w3 ⟨ul, um, V3, rfl, hq3, hb3, hn3⟩; obtain ⟨a0', a1', a2', _, _, _⟩ := ((K1w.out.below D2.out).below hb3).bx.six; obtain ⟨t0', t1', t2'⟩ := HTC.out _ (Below.onto HB2.out hb3); obtain ⟨_, _, _, o3'⟩ := ((K2w.out.below D2.out).below hb3).bx.four; have l1 := ((K1w.out.below D2.out).below hb3).lt; have l2 := Nat.lt_of_lt_of_le HBT.out (Below.onto HB2.out hb3).size; have HW3 : Hid (Below w.heap.size w w3) := Below.onto HB2.out hb3; obtain ⟨la3, lc3, hul, _⟩ := id hq3.l; obtain ⟨ma3, mc3, hum, _⟩ := id hq3.m; subst hul; subst hum)
    | (go_at_call 12; (with_reducible refine (hre2 (w2.alloc (.cells #[.slice none 0 0, .slice none 0 0] 25)).drew HB3.out).mono ?_); rintro e w3 ⟨ul, um, V3, rfl, hq3, hb3, hn3⟩; obtain ⟨a0', a1', a2', _, _, _⟩ := ((K1w.out.below D3.out).below hb3).bx.six; obtain ⟨t0', t1', t2'⟩ := HTC.out _ (Below.onto HB3.out hb3); obtain ⟨_, _, _, o3'⟩ := ((K2w.out.below D3.out).below hb3).bx.four; have l1 := ((K1w.out.below D3.out).below hb3).lt; have l2 := Nat.lt_of_lt_of_le HBT.out (Below.onto HB3.out hb3).size; have HW3 : Hid (Below w.heap.size w w3) := Below.onto HB3.out hb3; obtain ⟨la3, lc3, hul, _⟩ := id hq3.l; obtain ⟨ma3, mc3, hum, _⟩ := id hq3.m; subst hul; subst hum; obtain ⟨v0, v1⟩ := (KB.out.below hb3).bx.two; have v2 := (KB.out.below hb3).fz))
  · clear HTC
    have hlt1 : w.heap.size < w2.drew.heap.size := by have := K1w.out.lt; simp; omega
    have hC2 : C2 < w2.drew.heap.size := by have := K3w.out.lt; simp; omega
    have K1f : Hid (Blk (w3.alloc (.cells #[.slice la3 (R.q.pbQ c.1 c.2.1 c.2.2 x).ls.length lc3, .slice ma3 (R.q.pbQ c.1 c.2.1 c.2.2 x).ms.length mc3] 25)) w.heap.size 54 [.slice la R.q.ls.length lc, .slice ma R.q.ms.length mc, .slice (some ⟨bt, ot, none⟩) R.cl.length cc, .slice sa R.se.length sc, .slice ta R.tk.length tc, .bool true]) := ((K1w.out.below D2.out).below hb3).below (below_new _ _)
    have K2f : Hid (Blk (w3.alloc (.cells #[.slice la3 (R.q.pbQ c.1 c.2.1 c.2.2 x).ls.length lc3, .slice ma3 (R.q.pbQ c.1 c.2.1 c.2.2 x).ms.length mc3] 25)) C1 _ _) := ((K2w.out.below D2.out).below hb3).below (below_new _ _)
    have K3f : Hid (Blk (w3.alloc (.cells #[.slice la3 (R.q.pbQ c.1 c.2.1 c.2.2 x).ls.length lc3, .slice ma3 (R.q.pbQ c.1 c.2.1 c.2.2 x).ms.length mc3] 25)) C2 _ _) := ((K3w.out.below D2.out).below hb3).below (below_new _ _)
    have KQ : Hid (Blk (w3.alloc (.cells #[.slice la3 (R.q.pbQ c.1 c.2.1 c.2.2 x).ls.length lc3, .slice ma3 (R.q.pbQ c.1 c.2.1 c.2.2 x).ms.length mc3] 25)) w3.heap.size 25 [.slice la3 (R.q.pbQ c.1 c.2.1 c.2.2 x).ls.length lc3, .slice ma3 (R.q.pbQ c.1 c.2.1 c.2.2 x).ms.length mc3]) := blk_new w3 [.slice la3 (R.q.pbQ c.1 c.2.1 c.2.2 x).ls.length lc3, .slice ma3 (R.q.pbQ c.1 c.2.1 c.2.2 x).ms.length mc3] 25
    have H4 : Hid (QIs (w3.alloc (.cells #[.slice la3 (R.q.pbQ c.1 c.2.1 c.2.2 x).ls.length lc3, .slice ma3 (R.q.pbQ c.1 c.2.1 c.2.2 x).ms.length mc3] 25)) _ _ (R.q.pbQ c.1 c.2.1 c.2.2 x) V3) := QIs.below hq3 (below_new _ _)
    have B4 : Hid (Below w.heap.size w (w3.alloc (.cells #[.slice la3 (R.q.pbQ c.1 c.2.1 c.2.2 x).ls.length lc3, .slice ma3 (R.q.pbQ c.1 c.2.1 c.2.2 x).ms.length mc3] 25))) := Below.onto HW3.out (below_new _ _)
    have HLT : Hid (w.heap.size < w2.drew.heap.size ∧ C2 < w2.drew.heap.size) := ⟨hlt1, hC2⟩
    have nq : ¬ w3.heap.size = w.heap.size := by have := K1w.out.lt; have h2 := hb3.size; simp at h2; omega
    have hE1 : ((R.q.pbE c.1 c.2.1 c.2.2) == 0) = false := by have := HE.out; simpa using this
    generalize (R.q.pbE c.1 c.2.1 c.2.2) = EE at *
    clear a0 a1 a2 t0 t1 t2 o3 b0 b1 b2 u0 u1 u2 p3 a0' a1' a2' t0' t1' t2' o3' l1 l2 hb3 hq3 hlt1 hC2
    generalize w3.alloc (.cells #[.slice la3 (R.q.pbQ c.1 c.2.1 c.2.2 x).ls.length lc3, .slice ma3 (R.q.pbQ c.1 c.2.1 c.2.2 x).ms.length mc3] 25) = w4 at *
    generalize w3.heap.size = bx at *
    obtain ⟨g0, g1, g2, g3, g4, g5⟩ := K1f.out.bx.six
    have g6 := K1f.out.fz
    obtain ⟨x0, x1⟩ := KQ.out.bx.two
    obtain ⟨z0, z1, z2, z3, z4, z5⟩ := K3f.out.bx.six
    have z6 := K3f.out.fz
    have zl := K3f.out.lt
    go_wp2_with fail
    refine bodyPost_ret (v := runV (.slice la R.q.ls.length lc) (.slice ma R.q.ms.length mc) (.slice (some ⟨bt, ot, none⟩) R.cl.length cc) (.slice sa R.se.length sc) (.slice ta R.tk.length tc)) (by simp [results, Try.results25, go_sem, z0, z1, z2, z3, z4, z5]) rfl ?_
    rw [HPO.out]
    refine ⟨_, _, _, _, _, R, V, rfl, HR.out.below ?_, HK.out.up, ?_⟩
    all_goals
      repeat (first | (with_reducible exact B4.out) | ((with_reducible refine Below.setCell ?_ ?_ _); rotate_left; first | exact HL2.out | exact Nat.le_refl _))
  · clear HTC
    have hlt1 : w.heap.size < (w2.alloc (.cells #[.slice none 0 0, .slice none 0 0] 25)).drew.heap.size := by have := K1w.out.lt; simp; omega
    have hC2 : C2 < (w2.alloc (.cells #[.slice none 0 0, .slice none 0 0] 25)).drew.heap.size := by have := K3w.out.lt; simp; omega
    have K1f : Hid (Blk ((w3.setCell ⟨w2.heap.size, 0, none⟩ (.slice la3 (R.q.pbQ c.1 c.2.1 c.2.2 x).ls.length lc3)).setCell ⟨w2.heap.size, 1, none⟩ (.slice ma3 (R.q.pbQ c.1 c.2.1 c.2.2 x).ms.length mc3)) w.heap.size 54 [.slice la R.q.ls.length lc, .slice ma R.q.ms.length mc, .slice (some ⟨bt, ot, none⟩) R.cl.length cc, .slice sa R.se.length sc, .slice ta R.tk.length tc, .bool true]) := (((K1w.out.below D3.out).below hb3).setO nb1 _).setO nb1 _
    have K2f : Hid (Blk ((w3.setCell ⟨w2.heap.size, 0, none⟩ (.slice la3 (R.q.pbQ c.1 c.2.1 c.2.2 x).ls.length lc3)).setCell ⟨w2.heap.size, 1, none⟩ (.slice ma3 (R.q.pbQ c.1 c.2.1 c.2.2 x).ms.length mc3)) C1 _ _) := (((K2w.out.below D3.out).below hb3).setO nb4 _).setO nb4 _
    have K3f : Hid (Blk ((w3.setCell ⟨w2.heap.size, 0, none⟩ (.slice la3 (R.q.pbQ c.1 c.2.1 c.2.2 x).ls.length lc3)).setCell ⟨w2.heap.size, 1, none⟩ (.slice ma3 (R.q.pbQ c.1 c.2.1 c.2.2 x).ms.length mc3)) C2 _ _) := (((K3w.out.below D3.out).below hb3).setO nb3 _).setO nb3 _
    have KQ : Hid (Blk ((w3.setCell ⟨w2.heap.size, 0, none⟩ (.slice la3 (R.q.pbQ c.1 c.2.1 c.2.2 x).ls.length lc3)).setCell ⟨w2.heap.size, 1, none⟩ (.slice ma3 (R.q.pbQ c.1 c.2.1 c.2.2 x).ms.length mc3)) w2.heap.size 25 [.slice la3 (R.q.pbQ c.1 c.2.1 c.2.2 x).ls.length lc3, .slice ma3 (R.q.pbQ c.1 c.2.1 c.2.2 x).ms.length mc3]) := ((KB.out.below hb3).set 0 _).set 1 _
    have H4 : Hid (QIs ((w3.setCell ⟨w2.heap.size, 0, none⟩ (.slice la3 (R.q.pbQ c.1 c.2.1 c.2.2 x).ls.length lc3)).setCell ⟨w2.heap.size, 1, none⟩ (.slice ma3 (R.q.pbQ c.1 c.2.1 c.2.2 x).ms.length mc3)) _ _ (R.q.pbQ c.1 c.2.1 c.2.2 x) V3) := (QIs.setO hq3 hn3 (by simp)).setO hn3 (by simp)
    have B4 : Hid (Below w.heap.size w ((w3.setCell ⟨w2.heap.size, 0, none⟩ (.slice la3 (R.q.pbQ c.1 c.2.1 c.2.2 x).ls.length lc3)).setCell ⟨w2.heap.size, 1, none⟩ (.slice ma3 (R.q.pbQ c.1 c.2.1 c.2.2 x).ms.length mc3))) := (HW3.out.setCell (Nat.le_of_lt K1w.out.lt) _).setCell (Nat.le_of_lt K1w.out.lt) _
    have HLT : Hid (w.heap.size < (w2.alloc (.cells #[.slice none 0 0, .slice none 0 0] 25)).drew.heap.size ∧ C2 < (w2.alloc (.cells #[.slice none 0 0, .slice none 0 0] 25)).drew.heap.size) := ⟨hlt1, hC2⟩
    have nq : ¬ w2.heap.size = w.heap.size := by have := K1w.out.lt; omega
    have hE1 : ((R.q.pbE c.1 c.2.1 c.2.2) == 0) = false := by have := HE.out; simpa using this
    generalize (R.q.pbE c.1 c.2.1 c.2.2) = EE at *
    clear a0 a1 a2 t0 t1 t2 o3 b0 b1 b2 u0 u1 u2 p3 a0' a1' a2' t0' t1' t2' o3' l1 l2 hb3 hq3 hlt1 hC2
    generalize (w3.setCell ⟨w2.heap.size, 0, none⟩ (.slice la3 (R.q.pbQ c.1 c.2.1 c.2.2 x).ls.length lc3)).setCell ⟨w2.heap.size, 1, none⟩ (.slice ma3 (R.q.pbQ c.1 c.2.1 c.2.2 x).ms.length mc3) = w4 at *
    generalize w2.heap.size = bx at *
    obtain ⟨g0, g1, g2, g3, g4, g5⟩ := K1f.out.bx.six
    have g6 := K1f.out.fz
    obtain ⟨x0, x1⟩ := KQ.out.bx.two
    obtain ⟨z0, z1, z2, z3, z4, z5⟩ := K3f.out.bx.six
    have z6 := K3f.out.fz
    have zl := K3f.out.lt
    go_wp2_with fail
    refine bodyPost_ret (v := runV (.slice la R.q.ls.length lc) (.slice ma R.q.ms.length mc) (.slice (some ⟨bt, ot, none⟩) R.cl.length cc) (.slice sa R.se.length sc) (.slice ta R.tk.length tc)) (by simp [results, Try.results25, go_sem, z0, z1, z2, z3, z4, z5]) rfl ?_
    rw [HPO.out]
    refine ⟨_, _, _, _, _, R, V, rfl, HR.out.below ?_, HK.out.up, ?_⟩
    all_goals
      repeat (first | (with_reducible exact B4.out) | ((with_reducible refine Below.setCell ?_ ?_ _); rotate_left; first | exact HL2.out | exact Nat.le_refl _))
set_option maxHeartbeats 16000000 in
theorem step2_ok (ql qm vc vs vt : Value) (R : Rn) (V : Nat → Value) (l : List Int) (i : Nat) (ln x : Int) (nn : Nat) (w : World) (hi : i ≤ 900) (hnn : nn < 256) (h0 : 0 < R.cl.length) (hE : R.q.pbE (atC R.cl (nn % R.cl.length)).1 (atC R.cl (nn % R.cl.length)).2.1 (atC R.cl (nn % R.cl.length)).2.2 = 0) (hk : R.Ok l i) (hr : RIs w ql qm vc vs vt R V) : Calls Try.prog 25 #[runV ql qm vc vs vt, opV 2 ln (nn : Int) x] w fun e w' =>
    ∃ ql' qm' vc' vs' vt' R' V', e = .returned (runV ql' qm' vc' vs' vt') ∧ RIs w' ql' qm' vc' vs' vt' R' V' ∧ R'.Ok l (i + 1) ∧ Below w.heap.size w w' := by
  obtain ⟨PO, hPO⟩ : ∃ PO : Ending → World → Prop, PO = fun e w' => ∃ ql' qm' vc' vs' vt' R' V', e = .returned (runV ql' qm' vc' vs' vt') ∧ RIs w' ql' qm' vc' vs' vt' R' V' ∧ R'.Ok l (i + 1) ∧ Below w.heap.size w w' := ⟨_, rfl⟩
  rw [← hPO]
  have HPO : Hid (PO = _) := hPO
  clear hPO
  have HR : Hid (RIs w ql qm vc vs vt R V) := hr
  have HK : Hid (R.Ok l i) := hk
  have HE0 : Hid (_ = _) := hE
  have hcn : R.cl.length ≤ 1000 := by have := hk.ncl; omega
  have hsn : R.se.length ≤ 1000 := by have := hk.ms; rw [hk.se]; simp; omega
  have hrd := fun W a b c h => ready_any ql qm R.q V a b c W (hk.okq hi) h
  have hpb := fun W a b c h => publish_any ql qm R.q V a b c x W (by have := hk.ms; omega) (hk.okq hi) h
  obtain ⟨la, lc, rfl, hd1⟩ := hr.q.l
  obtain ⟨ma, mc, rfl, hd2⟩ := hr.q.m
  obtain ⟨ca, cc, rfl, hd3⟩ := hr.c
  obtain ⟨sa, sc, rfl, hd4⟩ := hr.s
  obtain ⟨ta, tc, rfl, hd5⟩ := hr.t
  obtain ⟨k1, k2, k3, b2, s2⟩ := alloc3 w [.slice la R.q.ls.length lc, .slice ma R.q.ms.length mc, .slice ca R.cl.length cc, .slice sa R.se.length sc, .slice ta R.tk.length tc, .bool true] 54 [.int .i64 2, .int .i64 ln, .int .u8 (nn : Int), .int .u64 x] 57 [.slice none 0 0, .slice none 0 0, .slice none 0 0, .slice none 0 0, .slice none 0 0, .bool false] 54
  have K1 : Hid (Blk _ _ _ _) := k1
  have K3 : Hid (Blk _ _ _ _) := k3
  have K2 : Hid (Blk _ _ _ _) := k2
  have B2 : Hid (Below _ _ _) := b2
  clear k1 k2 k3 b2 s2 hr hk hd1 hd2 hd3 hd4 hd5 hE
  have e0 : ((R.cl.length : Int) == 0) = false := by rw [beq_eq_false_iff_ne]; omega
  have e1 : ¬ (R.cl.length : Int) = 0 := by omega
  have HKL : Hid (nn % R.cl.length < R.cl.length) := Nat.mod_lt _ h0
  clear h0
  go_enter Try.func25, Try.ntmps25
  go_wp2_with fail
  rw [show (nn : Int) % (R.cl.length : Int) = ((nn % R.cl.length : Nat) : Int) from rfl]
  generalize ((w.alloc (.cells #[.slice la R.q.ls.length lc, .slice ma R.q.ms.length mc, .slice ca R.cl.length cc, .slice sa R.se.length sc, .slice ta R.tk.length tc, .bool true] 54)).alloc (.cells #[.int .i64 2, .int .i64 ln, .int .u8 (nn : Int), .int .u64 x] 57)).alloc (.cells #[.slice none 0 0, .slice none 0 0, .slice none 0 0, .slice none 0 0, .slice none 0 0, .bool false] 54) = wq at *
  have HC12 : Hid (w.heap.size < w.heap.size + 1 ∧ w.heap.size + 1 < w.heap.size + 1 + 1) := ⟨by omega, by omega⟩
  generalize w.heap.size + 1 + 1 = C2 at *
  generalize w.heap.size + 1 = C1 at *
  generalize nn % R.cl.length = k at *
  have hkl := HKL.out
  obtain ⟨_, _, es, _, _, hrt⟩ := HR.out.c
  cases es
  obtain ⟨bt, ot, rfl, hct⟩ := hrt k hkl
  have HBT : Hid (bt < w.heap.size) := cell_lt (hct 0 (by omega))
  have HTC : Hid (∀ W, Below w.heap.size w W → W.cell? ⟨bt, ot + k * 3, none⟩ = some (.int .i64 (atC R.cl k).1) ∧ W.cell? ⟨bt, ot + k * 3 + 1, none⟩ = some (.int .i64 (atC R.cl k).2.1) ∧ W.cell? ⟨bt, ot + k * 3 + 2, none⟩ = some (.int .i64 (atC R.cl k).2.2)) := fun W hW => by
    have hc := fun f (hf : f < 3) => (hW.cell (p := ⟨bt, ot + k * 3 + f, none⟩) HBT.out).trans (hct f hf)
    exact ⟨hc 0 (by omega), hc 1 (by omega), hc 2 (by omega)⟩
  clear hrt hct
  generalize hm : atC R.cl k = c at *
  have HM : Hid (atC R.cl k = c) := hm
  clear hm
  have HE : Hid ((R.q.pbE c.1 c.2.1 c.2.2) = 0) := HE0.out
  have cR := regrown_call (w := wq) (f := 15) (args := #[quV (.slice la R.q.ls.length lc) (.slice ma R.q.ms.length mc), clV c.1 c.2.1 c.2.2]) (v := .bool true) (fun W hW => by
    have h := hrd W c.1 c.2.1 c.2.2 (HR.out.q.below (Below.onto B2.out hW))
    rwa [show decide ((R.q.pbE c.1 c.2.1 c.2.2) = 0) = true by have := HE.out; simpa using this] at h)
  obtain ⟨f0, f1, f2, _, _, _⟩ := K1.out.bx.six
  obtain ⟨h0', h1', h2'⟩ := HTC.out _ B2.out
  have q0 := cell_regrown f0
  have q1 := cell_regrown f1
  have q2 := cell_regrown f2
  have q3 := cell_regrown h0'
  have q4 := cell_regrown h1'
  have q5 := cell_regrown h2'
  have ql1 := K1.out.lt
  have ql2 := cell_lt h0'
  have i1 : (0 : Int) ≤ (k : Int) := by omega
  have i2 : (k : Int) < (R.cl.length : Int) := by omega
  clear f0 f1 f2 h0' h1' h2'
  refine wp_region_quiet_below (by kernel_rfl) (by kernel_rfl) ?_
  repeat (go_big_quiet_step (with_reducible exact cR _ _))
  refine wpQuiet_nil ?_
  intro _ hw'
  obtain ⟨⟨dq, osq⟩, hw''⟩ := hw'
  subst hw''
  have hbq := below_regrown wq dq osq
  have K1w : Hid (Blk (grow (redrawn wq dq) osq) _ _ _) := K1.out.below hbq
  have K2w : Hid (Blk (grow (redrawn wq dq) osq) _ _ _) := K2.out.below hbq
  have K3w : Hid (Blk (grow (redrawn wq dq) osq) _ _ _) := K3.out.below hbq
  have B2w : Hid (Below w.heap.size w (grow (redrawn wq dq) osq)) := Below.onto B2.out hbq
  clear hbq q0 q1 q2 q3 q4 q5 ql1 ql2 cR K1 K2 K3 B2
  generalize grow (redrawn wq dq) osq = w2 at *
  go_wp2_with fail
  have D2 : Hid (Below w2.heap.size w2 w2.drew) := (Below.refl _ _).drew
  have HB2 : Hid (Below w.heap.size w w2.drew) := B2w.out.drew
  obtain ⟨a0, a1, a2, _, _, _⟩ := (K1w.out.below D2.out).bx.six
  obtain ⟨t0, t1, t2⟩ := HTC.out _ HB2.out
  obtain ⟨_, _, _, o3⟩ := (K2w.out.below D2.out).bx.four
  have D3 : Hid (Below w2.heap.size w2 (w2.alloc (.cells #[.slice none 0 0, .slice none 0 0] 25)).drew) := (below_new _ _).drew
  have HB3 : Hid (Below w.heap.size w (w2.alloc (.cells #[.slice none 0 0, .slice none 0 0] 25)).drew) := Below.onto B2w.out D3.out
  obtain ⟨b0, b1, b2, _, _, _⟩ := (K1w.out.below D3.out).bx.six
  obtain ⟨u0, u1, u2⟩ := HTC.out _ HB3.out
  obtain ⟨_, _, _, p3⟩ := (K2w.out.below D3.out).bx.four
  have KB : Hid (Blk (w2.alloc (.cells #[.slice none 0 0, .slice none 0 0] 25)).drew w2.heap.size 25 [.slice none 0 0, .slice none 0 0]) := Blk.below (blk_new w2 [.slice none 0 0, .slice none 0 0] 25) ((Below.refl _ _).drew)
  have nb1 : ¬ w.heap.size = w2.heap.size := by have := K1w.out.lt; omega
  have nb2 : ¬ bt = w2.heap.size := by have := K1w.out.lt; have := HBT.out; omega
  have hre2 := fun W (h : Below w.heap.size w W) => hpb W c.1 c.2.1 c.2.2 (HR.out.q.below h)
  clear hpb hrd
  have hc12 := HC12.out
  have HL2 : Hid (w.heap.size ≤ C2) := by show _ ≤ _; omega
  have hne : ¬ w.heap.size = C2 := by omega
  have hne1 : ¬ w.heap.size = C1 := by omega
  have nb3 : ¬ C2 = w2.heap.size := by have := K3w.out.lt; omega
  have nb4 : ¬ C1 = w2.heap.size := by have := K2w.out.lt; omega
  have HRT : Hid (Rn.Ok ⟨(R.q.pbQ c.1 c.2.1 c.2.2 x), R.cl.eraseIdx k, R.se ++ [x], R.tk⟩ l (i + 1)) := HK.out.publish (by rw [List.length_eraseIdx]; have := HK.out.ncl; split <;> omega) HE.out
  have HTCAP : Hid (R.cl.length ≤ cc) := by
    obtain ⟨_, _, es, h1, _⟩ := HR.out.c
    cases es
    exact h1
  have HSR1 : Hid (∀ W, Below w.heap.size w W → Src W (.slice (some ⟨bt, ot, none⟩) k cc) k (cellsL k 3 (encC R.cl))) := fun W hW => ((HR.out.c.below hW).front (k := k) (by omega)).src (fun a n c e => by cases e; rfl)
  have HSR2 : Hid (∀ W, Below w.heap.size w W → Src W (.slice (if cc = k + 1 then some ⟨bt, ot, none⟩ else some ⟨bt, ot + (k + 1) * 3, none⟩) (R.cl.length - (k + 1)) (cc - (k + 1))) (R.cl.length - (k + 1)) (cellsL (R.cl.length - (k + 1)) 3 fun j => encC R.cl (j + (k + 1)))) := fun W hW => by
    obtain ⟨_, _, es, _, _, hr⟩ := HR.out.c.below hW
    cases es
    have htc := HTCAP.out
    by_cases hcc : cc = k + 1
    · rw [if_pos hcc]
      refine .inr ⟨bt, ot, _, rfl, fun i y hi => ?_⟩
      have h1 := (List.getElem?_eq_some_iff.1 hi).1
      rw [cellsL_len] at h1
      omega
    · rw [if_neg hcc]
      refine .inr ⟨bt, ot + (k + 1) * 3, _, rfl, fun i y hi => ?_⟩
      refine cellsL_src (fun i hi f hf => ?_) hi
      obtain ⟨b', off', e', hc'⟩ := hr (i + (k + 1)) (by omega)
      cases e'
      have := hc' f hf
      rw [show ot + (k + 1) * 3 + i * 3 + f = ot + (i + (k + 1)) * 3 + f by omega]
      exact this
  have HO1 : Hid (∀ j, j < k → ∀ f, f < 3 → (encC R.cl j f).oneCell' = true) := fun j hj f hf => one_encC R.cl j (by omega) f hf
  have HO2 : Hid (∀ j, j < R.cl.length - (k + 1) → ∀ f, f < 3 → (encC R.cl (j + (k + 1)) f).oneCell' = true) := fun j hj f hf => one_encC R.cl (j + (k + 1)) (by omega) f hf
  clear hc12
  go_region_held3 (fun W => W.cell? ⟨w.heap.size, 0, none⟩ = some (.slice la R.q.ls.length lc) ∧ W.cell? ⟨w.heap.size, 1, none⟩ = some (.slice ma R.q.ms.length mc) ∧ W.cell? ⟨w.heap.size, 2, none⟩ = some (.slice (some ⟨bt, ot, none⟩) R.cl.length cc) ∧ W.cell? ⟨bt, ot + k * 3, none⟩ = some (.int .i64 c.1) ∧ W.cell? ⟨bt, ot + k * 3 + 1, none⟩ = some (.int .i64 c.2.1) ∧ W.cell? ⟨bt, ot + k * 3 + 2, none⟩ = some (.int .i64 c.2.2) ∧ W.cell? ⟨C1, 3, none⟩ = some (.int .u64 x)) (first | (with_reducible assumption) | (with_reducible exact ⟨a0, a1, a2, t0, t1, t2, o3⟩) | (with_reducible exact ⟨b0, b1, b2, u0, u1, u2, p3⟩) | (with_reducible exact ⟨a0', a1', a2', t0', t1', t2', o3'⟩) | (with_reducible exact ⟨co nb1 (co nb1 a0'), co nb1 (co nb1 a1'), co nb1 (co nb1 a2'), co nb2 (co nb2 t0'), co nb2 (co nb2 t1'), co nb2 (co nb2 t2'), co nb4 (co nb4 o3')⟩) | go_keep) (first
    | (go_at_call 12; (with_reducible refine (hre2 w2.drew HB2.out).mono ?_); rintro e w3 ⟨ul, um, V3, rfl, hq3, hb3, hn3⟩; obtain ⟨a0', a1', a2', _, _, _⟩ := ((K1w.out.below D2.out).below hb3).bx.six; obtain ⟨t0', t1', t2'⟩ := HTC.out _ (Below.onto HB2.out hb3); obtain ⟨_, _, _, o3'⟩ := ((K2w.out.below D2.out).below hb3).bx.four; have l1 := ((K1w.out.below D2.out).below hb3).lt; have l2 := Nat.lt_of_lt_of_le HBT.out (Below.onto HB2.out hb3).size; have HW3 : Hid (Below w.heap.size w w3) := Below.onto HB2.out hb3; obtain ⟨la3, lc3, hul, _⟩ := id hq3.l; obtain ⟨ma3, mc3, hum, _⟩ := id hq3.m; subst hul; subst hum)
    | (go_at_call 12; (with_reducible refine (hre2 (w2.alloc (.cells #[.slice none 0 0, .slice none 0 0] 25)).drew HB3.out).mono ?_); rintro e w3 ⟨ul, um, V3, rfl, hq3, hb3, hn3⟩; obtain ⟨a0', a1', a2', _, _, _⟩ := ((K1w.out.below D3.out).below hb3).bx.six; obtain ⟨t0', t1', t2'⟩ := HTC.out _ (Below.onto HB3.out hb3); obtain ⟨_, _, _, o3'⟩ := ((K2w.out.below D3.out).below hb3).bx.four; have l1 := ((K1w.out.below D3.out).below hb3).lt; have l2 := Nat.lt_of_lt_of_le HBT.out (Below.onto HB3.out hb3).size; have HW3 : Hid (Below w.heap.size w w3) := Below.onto HB3.out hb3; obtain ⟨la3, lc3, hul, _⟩ := id hq3.l; obtain ⟨ma3, mc3, hum, _⟩ := id hq3.m; subst hul; subst hum; obtain ⟨v0, v1⟩ := (KB.out.below hb3).bx.two; have v2 := (KB.out.below hb3).fz))
  · clear HTC
    have hlt1 : w.heap.size < w2.drew.heap.size := by have := K1w.out.lt; simp; omega
    have hC2 : C2 < w2.drew.heap.size := by have := K3w.out.lt; simp; omega
    have K1f : Hid (Blk (w3.alloc (.cells #[.slice la3 (R.q.pbQ c.1 c.2.1 c.2.2 x).ls.length lc3, .slice ma3 (R.q.pbQ c.1 c.2.1 c.2.2 x).ms.length mc3] 25)) w.heap.size 54 [.slice la R.q.ls.length lc, .slice ma R.q.ms.length mc, .slice (some ⟨bt, ot, none⟩) R.cl.length cc, .slice sa R.se.length sc, .slice ta R.tk.length tc, .bool true]) := ((K1w.out.below D2.out).below hb3).below (below_new _ _)
    have K2f : Hid (Blk (w3.alloc (.cells #[.slice la3 (R.q.pbQ c.1 c.2.1 c.2.2 x).ls.length lc3, .slice ma3 (R.q.pbQ c.1 c.2.1 c.2.2 x).ms.length mc3] 25)) C1 _ _) := ((K2w.out.below D2.out).below hb3).below (below_new _ _)
    have K3f : Hid (Blk (w3.alloc (.cells #[.slice la3 (R.q.pbQ c.1 c.2.1 c.2.2 x).ls.length lc3, .slice ma3 (R.q.pbQ c.1 c.2.1 c.2.2 x).ms.length mc3] 25)) C2 _ _) := ((K3w.out.below D2.out).below hb3).below (below_new _ _)
    have KQ : Hid (Blk (w3.alloc (.cells #[.slice la3 (R.q.pbQ c.1 c.2.1 c.2.2 x).ls.length lc3, .slice ma3 (R.q.pbQ c.1 c.2.1 c.2.2 x).ms.length mc3] 25)) w3.heap.size 25 [.slice la3 (R.q.pbQ c.1 c.2.1 c.2.2 x).ls.length lc3, .slice ma3 (R.q.pbQ c.1 c.2.1 c.2.2 x).ms.length mc3]) := blk_new w3 [.slice la3 (R.q.pbQ c.1 c.2.1 c.2.2 x).ls.length lc3, .slice ma3 (R.q.pbQ c.1 c.2.1 c.2.2 x).ms.length mc3] 25
    have H4 : Hid (QIs (w3.alloc (.cells #[.slice la3 (R.q.pbQ c.1 c.2.1 c.2.2 x).ls.length lc3, .slice ma3 (R.q.pbQ c.1 c.2.1 c.2.2 x).ms.length mc3] 25)) _ _ (R.q.pbQ c.1 c.2.1 c.2.2 x) V3) := QIs.below hq3 (below_new _ _)
    have B4 : Hid (Below w.heap.size w (w3.alloc (.cells #[.slice la3 (R.q.pbQ c.1 c.2.1 c.2.2 x).ls.length lc3, .slice ma3 (R.q.pbQ c.1 c.2.1 c.2.2 x).ms.length mc3] 25))) := Below.onto HW3.out (below_new _ _)
    have HLT : Hid (w.heap.size < w2.drew.heap.size ∧ C2 < w2.drew.heap.size) := ⟨hlt1, hC2⟩
    have nq : ¬ w3.heap.size = w.heap.size := by have := K1w.out.lt; have h2 := hb3.size; simp at h2; omega
    rw [HE.out]
    clear a0 a1 a2 t0 t1 t2 o3 b0 b1 b2 u0 u1 u2 p3 a0' a1' a2' t0' t1' t2' o3' l1 l2 hb3 hq3 hlt1 hC2
    generalize w3.alloc (.cells #[.slice la3 (R.q.pbQ c.1 c.2.1 c.2.2 x).ls.length lc3, .slice ma3 (R.q.pbQ c.1 c.2.1 c.2.2 x).ms.length mc3] 25) = w4 at *
    generalize w3.heap.size = bx at *
    obtain ⟨g0, g1, g2, g3, g4, g5⟩ := K1f.out.bx.six
    have g6 := K1f.out.fz
    obtain ⟨x0, x1⟩ := KQ.out.bx.two
    go_wp2_with fail
    have K1g : Hid (Blk (((w4.setCell ⟨w.heap.size, 5, none⟩ (.bool true)).setCell ⟨w.heap.size, 0, none⟩ (.slice la3 (R.q.pbQ c.1 c.2.1 c.2.2 x).ls.length lc3)).setCell ⟨w.heap.size, 1, none⟩ (.slice ma3 (R.q.pbQ c.1 c.2.1 c.2.2 x).ms.length mc3)) w.heap.size _ [.slice la3 (R.q.pbQ c.1 c.2.1 c.2.2 x).ls.length lc3, .slice ma3 (R.q.pbQ c.1 c.2.1 c.2.2 x).ms.length mc3, .slice (some ⟨bt, ot, none⟩) R.cl.length cc, .slice sa R.se.length sc, .slice ta R.tk.length tc, .bool true]) := ((K1f.out.set 5 _).set 0 _).set 1 _
    have K2g : Hid (Blk (((w4.setCell ⟨w.heap.size, 5, none⟩ (.bool true)).setCell ⟨w.heap.size, 0, none⟩ (.slice la3 (R.q.pbQ c.1 c.2.1 c.2.2 x).ls.length lc3)).setCell ⟨w.heap.size, 1, none⟩ (.slice ma3 (R.q.pbQ c.1 c.2.1 c.2.2 x).ms.length mc3)) C1 _ _) := ((K2f.out.setO (fun e => hne1 e.symm) _).setO (fun e => hne1 e.symm) _).setO (fun e => hne1 e.symm) _
    have K3g : Hid (Blk (((w4.setCell ⟨w.heap.size, 5, none⟩ (.bool true)).setCell ⟨w.heap.size, 0, none⟩ (.slice la3 (R.q.pbQ c.1 c.2.1 c.2.2 x).ls.length lc3)).setCell ⟨w.heap.size, 1, none⟩ (.slice ma3 (R.q.pbQ c.1 c.2.1 c.2.2 x).ms.length mc3)) C2 _ _) := ((K3f.out.setO (fun e => hne e.symm) _).setO (fun e => hne e.symm) _).setO (fun e => hne e.symm) _
    have H5 : Hid (QIs (((w4.setCell ⟨w.heap.size, 5, none⟩ (.bool true)).setCell ⟨w.heap.size, 0, none⟩ (.slice la3 (R.q.pbQ c.1 c.2.1 c.2.2 x).ls.length lc3)).setCell ⟨w.heap.size, 1, none⟩ (.slice ma3 (R.q.pbQ c.1 c.2.1 c.2.2 x).ms.length mc3)) _ _ (R.q.pbQ c.1 c.2.1 c.2.2 x) V3) := ((H4.out.setO hn3 HLT.out.1).setO hn3 HLT.out.1).setO hn3 HLT.out.1
    have B5 : Hid (Below w.heap.size w (((w4.setCell ⟨w.heap.size, 5, none⟩ (.bool true)).setCell ⟨w.heap.size, 0, none⟩ (.slice la3 (R.q.pbQ c.1 c.2.1 c.2.2 x).ls.length lc3)).setCell ⟨w.heap.size, 1, none⟩ (.slice ma3 (R.q.pbQ c.1 c.2.1 c.2.2 x).ms.length mc3))) := ((B4.out.setCell (Nat.le_refl _) _).setCell (Nat.le_refl _) _).setCell (Nat.le_refl _) _
    clear g0 g1 g2 g3 g4 g5 g6 x0 x1
    generalize ((w4.setCell ⟨w.heap.size, 5, none⟩ (.bool true)).setCell ⟨w.heap.size, 0, none⟩ (.slice la3 (R.q.pbQ c.1 c.2.1 c.2.2 x).ls.length lc3)).setCell ⟨w.heap.size, 1, none⟩ (.slice ma3 (R.q.pbQ c.1 c.2.1 c.2.2 x).ms.length mc3) = w5 at *
    obtain ⟨g0, g1, g2, g3, g4, g5⟩ := K1g.out.bx.six
    obtain ⟨_, _, _, y3⟩ := K2g.out.bx.four
    refine snoc_s (r := w.heap.size) (s := C1) (N := R.se.length) (cv := sc) (av := sa) (x0 := x) (xs1 := cellsL R.se.length 1 (encU R.se)) rfl rfl (by kernel_rfl) (by kernel_rfl) (by kernel_rfl) rfl rfl rfl rfl rfl rfl rfl rfl rfl rfl rfl rfl rfl rfl rfl rfl rfl rfl rfl rfl rfl rfl rfl rfl rfl rfl rfl y3 g3 (fun W hW => (K1g.out.below hW).fz 3) ((HR.out.s.below B5.out).src HR.out.ps) (cellsL_len _ _ _) (cellsL_mem (by decide) (one_encU _)) hsn (by kernel_rfl) (by kernel_rfl) (by kernel_rfl) (by kernel_rfl) (by kernel_rfl) (by kernel_rfl) (by kernel_rfl) (by kernel_rfl) (fun _ _ d _ _ h => by cases d <;> exact h) ?_
    intro vA vB vC ae ce w6 h6 hb6
    have hz5 := K1g.out.lt
    have hz3 := K3g.out.lt
    have K1h : Hid (Blk (w6.setCell ⟨w.heap.size, 3, none⟩ (.slice ae (R.se.length + 1) ce)) w.heap.size _ [.slice la3 (R.q.pbQ c.1 c.2.1 c.2.2 x).ls.length lc3, .slice ma3 (R.q.pbQ c.1 c.2.1 c.2.2 x).ms.length mc3, .slice (some ⟨bt, ot, none⟩) R.cl.length cc, .slice ae (R.se.length + 1) ce, .slice ta R.tk.length tc, .bool true]) := (K1g.out.below hb6).set 3 _
    have K3h : Hid (Blk (w6.setCell ⟨w.heap.size, 3, none⟩ (.slice ae (R.se.length + 1) ce)) C2 _ _) := (K3g.out.below hb6).setO (fun e => hne e.symm) _
    have H7 : Hid (QIs (w6.setCell ⟨w.heap.size, 3, none⟩ (.slice ae (R.se.length + 1) ce)) _ _ (R.q.pbQ c.1 c.2.1 c.2.2 x) V3) := (H5.out.below hb6).setO hn3 HLT.out.1
    have h6' := own_set (i := 3) (u := (.slice ae (R.se.length + 1) ce)) h6 (b := w.heap.size) fun e => by have := own_blk h6 _ e; omega
    have HE7 : Hid (Sl (w6.setCell ⟨w.heap.size, 3, none⟩ (.slice ae (R.se.length + 1) ce)) 1 (R.se ++ [x]).length (encU (R.se ++ [x])) (.slice ae (R.se.length + 1) ce)) := se_snoc h6'
    have HS7 : Hid (Sp (.slice ae (R.se.length + 1) ce)) := sp_own h6
    have B7 : Hid (Below w.heap.size w (w6.setCell ⟨w.heap.size, 3, none⟩ (.slice ae (R.se.length + 1) ce))) := (Below.onto B5.out hb6).setCell (Nat.le_refl _) _
    have HOE : Hid (∀ b, (Value.slice ae (R.se.length + 1) ce).ownBlock = some b → ¬ b = C2 ∧ ¬ b = w.heap.size) := fun b e => by have := own_blk h6 b e; omega
    clear h6 h6' hb6 hz5 hz3 g0 g1 g2 g3 g4 g5 y3
    generalize w6.setCell ⟨w.heap.size, 3, none⟩ (.slice ae (R.se.length + 1) ce) = w7 at *
    obtain ⟨g0, g1, g2, g3, g4, g5⟩ := K1h.out.bx.six
    simp only [Act.put, List.setIfInBounds_toArray, List.set_cons_zero, List.set_cons_succ]
    go_wp2_with fail
    refine cut_c (r := w.heap.size) (N := R.cl.length) (cv := cc) (k := k) (m1 := k) (m2 := R.cl.length - (k + 1)) (av := some ⟨bt, ot, none⟩) (S1 := .slice (some ⟨bt, ot, none⟩) k cc) (S2 := .slice (if cc = k + 1 then some ⟨bt, ot, none⟩ else some ⟨bt, ot + (k + 1) * 3, none⟩) (R.cl.length - (k + 1)) (cc - (k + 1))) (xs1 := cellsL k 3 (encC R.cl)) (xs2 := cellsL (R.cl.length - (k + 1)) 3 fun j => encC R.cl (j + (k + 1))) rfl rfl (by kernel_rfl) (by kernel_rfl) (by kernel_rfl) rfl rfl rfl rfl rfl rfl rfl rfl rfl rfl rfl rfl rfl rfl rfl rfl rfl rfl rfl rfl rfl rfl rfl rfl rfl rfl rfl rfl rfl rfl rfl rfl (by omega) g2 (fun W hW => (K1h.out.below hW).fz 2) (fun b W h1 h2 => cut_c_lo rfl (by omega) HTCAP.out b W h1 h2) (fun b W h1 h2 => cut_c_hi rfl (by omega) b W h1 h2) (HSR1.out _ B7.out) (cellsL_len _ _ _) (cellsL_mem (by decide) HO1.out) (HSR2.out _ B7.out) (cellsL_len _ _ _) (cellsL_mem (by decide) HO2.out) (by omega) (by kernel_rfl) (by kernel_rfl) (by kernel_rfl) (by kernel_rfl) (fun _ _ d _ _ h => by cases d <;> exact h) ?_
    intro vA2 vB2 ad cd w8 h8 hb8
    generalize (Value.slice (if cc = k + 1 then some ⟨bt, ot, none⟩ else some ⟨bt, ot + (k + 1) * 3, none⟩) (R.cl.length - (k + 1)) (cc - (k + 1))) = sS2
    have hz5 := K1h.out.lt
    have hz3 := K3h.out.lt
    have K1i : Hid (Blk (w8.setCell ⟨w.heap.size, 2, none⟩ (.slice ad (k + (R.cl.length - (k + 1))) cd)) w.heap.size _ [.slice la3 (R.q.pbQ c.1 c.2.1 c.2.2 x).ls.length lc3, .slice ma3 (R.q.pbQ c.1 c.2.1 c.2.2 x).ms.length mc3, .slice ad (k + (R.cl.length - (k + 1))) cd, .slice ae (R.se.length + 1) ce, .slice ta R.tk.length tc, .bool true]) := (K1h.out.below hb8).set 2 _
    have K3i : Hid (Blk (w8.setCell ⟨w.heap.size, 2, none⟩ (.slice ad (k + (R.cl.length - (k + 1))) cd)) C2 _ _) := (K3h.out.below hb8).setO (fun e => hne e.symm) _
    have H9 : Hid (QIs (w8.setCell ⟨w.heap.size, 2, none⟩ (.slice ad (k + (R.cl.length - (k + 1))) cd)) _ _ (R.q.pbQ c.1 c.2.1 c.2.2 x) V3) := (H7.out.below hb8).setO hn3 HLT.out.1
    have h8' := own_set (i := 2) (u := (.slice ad (k + (R.cl.length - (k + 1))) cd)) h8 (b := w.heap.size) fun e => by have := own_blk h8 _ e; omega
    have HC9 : Hid (Sl (w8.setCell ⟨w.heap.size, 2, none⟩ (.slice ad (k + (R.cl.length - (k + 1))) cd)) 3 (R.cl.eraseIdx k).length (encC (R.cl.eraseIdx k)) (.slice ad (k + (R.cl.length - (k + 1))) cd)) := cl3_erase hkl h8'
    have HE9 : Hid (Sl (w8.setCell ⟨w.heap.size, 2, none⟩ (.slice ad (k + (R.cl.length - (k + 1))) cd)) 1 (R.se ++ [x]).length (encU (R.se ++ [x])) (.slice ae (R.se.length + 1) ce)) := (HE7.out.below hb8).setO fun e => (HOE.out _ e).2 rfl
    have HS9 : Hid (Sp (.slice ad (k + (R.cl.length - (k + 1))) cd)) := sp_own h8
    have B9 : Hid (Below w.heap.size w (w8.setCell ⟨w.heap.size, 2, none⟩ (.slice ad (k + (R.cl.length - (k + 1))) cd))) := (Below.onto B7.out hb8).setCell (Nat.le_refl _) _
    have HOB : Hid (∀ b, (Value.slice ad (k + (R.cl.length - (k + 1))) cd).ownBlock = some b → ¬ b = C2) := fun b e e2 => by have := own_blk h8 b e; omega
    clear h8 h8' hb8 hz5 hz3 g0 g1 g2 g3 g4 g5
    generalize w8.setCell ⟨w.heap.size, 2, none⟩ (.slice ad (k + (R.cl.length - (k + 1))) cd) = w9 at *
    obtain ⟨g0, g1, g2, g3, g4, g5⟩ := K1i.out.bx.six
    obtain ⟨z0, z1, z2, z3, z4, z5⟩ := K3i.out.bx.six
    have z6 := K3i.out.fz
    go_wp2_with fail
    refine bodyPost_ret (v := runV (.slice la3 (R.q.pbQ c.1 c.2.1 c.2.2 x).ls.length lc3) (.slice ma3 (R.q.pbQ c.1 c.2.1 c.2.2 x).ms.length mc3) (.slice ad (k + (R.cl.length - (k + 1))) cd) (.slice ae (R.se.length + 1) ce) (.slice ta R.tk.length tc)) (by simp [results, Try.results25, go_sem, z0, z1, z2, z3, z4, z5]) rfl ?_
    rw [HPO.out]
    refine ⟨_, _, _, _, _, ⟨(R.q.pbQ c.1 c.2.1 c.2.2 x), R.cl.eraseIdx k, R.se ++ [x], R.tk⟩, V3, rfl, ?_, HRT.out, ?_⟩
    · have BF : Below w.heap.size w _ := ((((((B9.out.setCell (p := ⟨C2, 0, none⟩) HL2.out (.slice la3 (R.q.pbQ c.1 c.2.1 c.2.2 x).ls.length lc3)).setCell (p := ⟨C2, 1, none⟩) HL2.out (.slice ma3 (R.q.pbQ c.1 c.2.1 c.2.2 x).ms.length mc3)).setCell (p := ⟨C2, 2, none⟩) HL2.out (.slice ad (k + (R.cl.length - (k + 1))) cd)).setCell (p := ⟨C2, 3, none⟩) HL2.out (.slice ae (R.se.length + 1) ce)).setCell (p := ⟨C2, 4, none⟩) HL2.out (.slice ta R.tk.length tc)).setCell (p := ⟨C2, 5, none⟩) HL2.out (.bool true))
      have hC2 := HLT.out.2
      have HQF := ((((((H9.out.setO (i := 0) (u := .slice la3 (R.q.pbQ c.1 c.2.1 c.2.2 x).ls.length lc3) hn3 hC2).setO (i := 1) (u := .slice ma3 (R.q.pbQ c.1 c.2.1 c.2.2 x).ms.length mc3) hn3 hC2).setO (i := 2) (u := .slice ad (k + (R.cl.length - (k + 1))) cd) hn3 hC2).setO (i := 3) (u := .slice ae (R.se.length + 1) ce) hn3 hC2).setO (i := 4) (u := .slice ta R.tk.length tc) hn3 hC2).setO (i := 5) (u := .bool true) hn3 hC2)
      have ho : (Value.slice ad (k + (R.cl.length - (k + 1))) cd).ownBlock ≠ some C2 := fun e => HOB.out C2 e rfl
      have hoe : (Value.slice ae (R.se.length + 1) ce).ownBlock ≠ some C2 := fun e => (HOE.out C2 e).1 rfl
      have HCF := ((((((HC9.out.setO (i := 0) (u := .slice la3 (R.q.pbQ c.1 c.2.1 c.2.2 x).ls.length lc3) ho).setO (i := 1) (u := .slice ma3 (R.q.pbQ c.1 c.2.1 c.2.2 x).ms.length mc3) ho).setO (i := 2) (u := .slice ad (k + (R.cl.length - (k + 1))) cd) ho).setO (i := 3) (u := .slice ae (R.se.length + 1) ce) ho).setO (i := 4) (u := .slice ta R.tk.length tc) ho).setO (i := 5) (u := .bool true) ho)
      have HSF := ((((((HE9.out.setO (i := 0) (u := .slice la3 (R.q.pbQ c.1 c.2.1 c.2.2 x).ls.length lc3) hoe).setO (i := 1) (u := .slice ma3 (R.q.pbQ c.1 c.2.1 c.2.2 x).ms.length mc3) hoe).setO (i := 2) (u := .slice ad (k + (R.cl.length - (k + 1))) cd) hoe).setO (i := 3) (u := .slice ae (R.se.length + 1) ce) hoe).setO (i := 4) (u := .slice ta R.tk.length tc) hoe).setO (i := 5) (u := .bool true) hoe)
      exact ⟨HQF, HCF, HSF, HR.out.t.below BF, HS9.out, HS7.out, HR.out.pt⟩
    · repeat (first | (with_reducible exact B9.out) | ((with_reducible refine Below.setCell ?_ ?_ _); rotate_left; first | exact HL2.out))
  · clear HTC
    have hlt1 : w.heap.size < (w2.alloc (.cells #[.slice none 0 0, .slice none 0 0] 25)).drew.heap.size := by have := K1w.out.lt; simp; omega
    have hC2 : C2 < (w2.alloc (.cells #[.slice none 0 0, .slice none 0 0] 25)).drew.heap.size := by have := K3w.out.lt; simp; omega
    have K1f : Hid (Blk ((w3.setCell ⟨w2.heap.size, 0, none⟩ (.slice la3 (R.q.pbQ c.1 c.2.1 c.2.2 x).ls.length lc3)).setCell ⟨w2.heap.size, 1, none⟩ (.slice ma3 (R.q.pbQ c.1 c.2.1 c.2.2 x).ms.length mc3)) w.heap.size 54 [.slice la R.q.ls.length lc, .slice ma R.q.ms.length mc, .slice (some ⟨bt, ot, none⟩) R.cl.length cc, .slice sa R.se.length sc, .slice ta R.tk.length tc, .bool true]) := (((K1w.out.below D3.out).below hb3).setO nb1 _).setO nb1 _
    have K2f : Hid (Blk ((w3.setCell ⟨w2.heap.size, 0, none⟩ (.slice la3 (R.q.pbQ c.1 c.2.1 c.2.2 x).ls.length lc3)).setCell ⟨w2.heap.size, 1, none⟩ (.slice ma3 (R.q.pbQ c.1 c.2.1 c.2.2 x).ms.length mc3)) C1 _ _) := (((K2w.out.below D3.out).below hb3).setO nb4 _).setO nb4 _
    have K3f : Hid (Blk ((w3.setCell ⟨w2.heap.size, 0, none⟩ (.slice la3 (R.q.pbQ c.1 c.2.1 c.2.2 x).ls.length lc3)).setCell ⟨w2.heap.size, 1, none⟩ (.slice ma3 (R.q.pbQ c.1 c.2.1 c.2.2 x).ms.length mc3)) C2 _ _) := (((K3w.out.below D3.out).below hb3).setO nb3 _).setO nb3 _
    have KQ : Hid (Blk ((w3.setCell ⟨w2.heap.size, 0, none⟩ (.slice la3 (R.q.pbQ c.1 c.2.1 c.2.2 x).ls.length lc3)).setCell ⟨w2.heap.size, 1, none⟩ (.slice ma3 (R.q.pbQ c.1 c.2.1 c.2.2 x).ms.length mc3)) w2.heap.size 25 [.slice la3 (R.q.pbQ c.1 c.2.1 c.2.2 x).ls.length lc3, .slice ma3 (R.q.pbQ c.1 c.2.1 c.2.2 x).ms.length mc3]) := ((KB.out.below hb3).set 0 _).set 1 _
    have H4 : Hid (QIs ((w3.setCell ⟨w2.heap.size, 0, none⟩ (.slice la3 (R.q.pbQ c.1 c.2.1 c.2.2 x).ls.length lc3)).setCell ⟨w2.heap.size, 1, none⟩ (.slice ma3 (R.q.pbQ c.1 c.2.1 c.2.2 x).ms.length mc3)) _ _ (R.q.pbQ c.1 c.2.1 c.2.2 x) V3) := (QIs.setO hq3 hn3 (by simp)).setO hn3 (by simp)
    have B4 : Hid (Below w.heap.size w ((w3.setCell ⟨w2.heap.size, 0, none⟩ (.slice la3 (R.q.pbQ c.1 c.2.1 c.2.2 x).ls.length lc3)).setCell ⟨w2.heap.size, 1, none⟩ (.slice ma3 (R.q.pbQ c.1 c.2.1 c.2.2 x).ms.length mc3))) := (HW3.out.setCell (Nat.le_of_lt K1w.out.lt) _).setCell (Nat.le_of_lt K1w.out.lt) _
    have HLT : Hid (w.heap.size < (w2.alloc (.cells #[.slice none 0 0, .slice none 0 0] 25)).drew.heap.size ∧ C2 < (w2.alloc (.cells #[.slice none 0 0, .slice none 0 0] 25)).drew.heap.size) := ⟨hlt1, hC2⟩
    have nq : ¬ w2.heap.size = w.heap.size := by have := K1w.out.lt; omega
    rw [HE.out]
    clear a0 a1 a2 t0 t1 t2 o3 b0 b1 b2 u0 u1 u2 p3 a0' a1' a2' t0' t1' t2' o3' l1 l2 hb3 hq3 hlt1 hC2
    generalize (w3.setCell ⟨w2.heap.size, 0, none⟩ (.slice la3 (R.q.pbQ c.1 c.2.1 c.2.2 x).ls.length lc3)).setCell ⟨w2.heap.size, 1, none⟩ (.slice ma3 (R.q.pbQ c.1 c.2.1 c.2.2 x).ms.length mc3) = w4 at *
    generalize w2.heap.size = bx at *
    obtain ⟨g0, g1, g2, g3, g4, g5⟩ := K1f.out.bx.six
    have g6 := K1f.out.fz
    obtain ⟨x0, x1⟩ := KQ.out.bx.two
    go_wp2_with fail
    have K1g : Hid (Blk (((w4.setCell ⟨w.heap.size, 5, none⟩ (.bool true)).setCell ⟨w.heap.size, 0, none⟩ (.slice la3 (R.q.pbQ c.1 c.2.1 c.2.2 x).ls.length lc3)).setCell ⟨w.heap.size, 1, none⟩ (.slice ma3 (R.q.pbQ c.1 c.2.1 c.2.2 x).ms.length mc3)) w.heap.size _ [.slice la3 (R.q.pbQ c.1 c.2.1 c.2.2 x).ls.length lc3, .slice ma3 (R.q.pbQ c.1 c.2.1 c.2.2 x).ms.length mc3, .slice (some ⟨bt, ot, none⟩) R.cl.length cc, .slice sa R.se.length sc, .slice ta R.tk.length tc, .bool true]) := ((K1f.out.set 5 _).set 0 _).set 1 _
    have K2g : Hid (Blk (((w4.setCell ⟨w.heap.size, 5, none⟩ (.bool true)).setCell ⟨w.heap.size, 0, none⟩ (.slice la3 (R.q.pbQ c.1 c.2.1 c.2.2 x).ls.length lc3)).setCell ⟨w.heap.size, 1, none⟩ (.slice ma3 (R.q.pbQ c.1 c.2.1 c.2.2 x).ms.length mc3)) C1 _ _) := ((K2f.out.setO (fun e => hne1 e.symm) _).setO (fun e => hne1 e.symm) _).setO (fun e => hne1 e.symm) _
    have K3g : Hid (Blk (((w4.setCell ⟨w.heap.size, 5, none⟩ (.bool true)).setCell ⟨w.heap.size, 0, none⟩ (.slice la3 (R.q.pbQ c.1 c.2.1 c.2.2 x).ls.length lc3)).setCell ⟨w.heap.size, 1, none⟩ (.slice ma3 (R.q.pbQ c.1 c.2.1 c.2.2 x).ms.length mc3)) C2 _ _) := ((K3f.out.setO (fun e => hne e.symm) _).setO (fun e => hne e.symm) _).setO (fun e => hne e.symm) _
    have H5 : Hid (QIs (((w4.setCell ⟨w.heap.size, 5, none⟩ (.bool true)).setCell ⟨w.heap.size, 0, none⟩ (.slice la3 (R.q.pbQ c.1 c.2.1 c.2.2 x).ls.length lc3)).setCell ⟨w.heap.size, 1, none⟩ (.slice ma3 (R.q.pbQ c.1 c.2.1 c.2.2 x).ms.length mc3)) _ _ (R.q.pbQ c.1 c.2.1 c.2.2 x) V3) := ((H4.out.setO hn3 HLT.out.1).setO hn3 HLT.out.1).setO hn3 HLT.out.1
    have B5 : Hid (Below w.heap.size w (((w4.setCell ⟨w.heap.size, 5, none⟩ (.bool true)).setCell ⟨w.heap.size, 0, none⟩ (.slice la3 (R.q.pbQ c.1 c.2.1 c.2.2 x).ls.length lc3)).setCell ⟨w.heap.size, 1, none⟩ (.slice ma3 (R.q.pbQ c.1 c.2.1 c.2.2 x).ms.length mc3))) := ((B4.out.setCell (Nat.le_refl _) _).setCell (Nat.le_refl _) _).setCell (Nat.le_refl _) _
    clear g0 g1 g2 g3 g4 g5 g6 x0 x1
    generalize ((w4.setCell ⟨w.heap.size, 5, none⟩ (.bool true)).setCell ⟨w.heap.size, 0, none⟩ (.slice la3 (R.q.pbQ c.1 c.2.1 c.2.2 x).ls.length lc3)).setCell ⟨w.heap.size, 1, none⟩ (.slice ma3 (R.q.pbQ c.1 c.2.1 c.2.2 x).ms.length mc3) = w5 at *
    obtain ⟨g0, g1, g2, g3, g4, g5⟩ := K1g.out.bx.six
    obtain ⟨_, _, _, y3⟩ := K2g.out.bx.four
    refine snoc_s (r := w.heap.size) (s := C1) (N := R.se.length) (cv := sc) (av := sa) (x0 := x) (xs1 := cellsL R.se.length 1 (encU R.se)) rfl rfl (by kernel_rfl) (by kernel_rfl) (by kernel_rfl) rfl rfl rfl rfl rfl rfl rfl rfl rfl rfl rfl rfl rfl rfl rfl rfl rfl rfl rfl rfl rfl rfl rfl rfl rfl rfl rfl y3 g3 (fun W hW => (K1g.out.below hW).fz 3) ((HR.out.s.below B5.out).src HR.out.ps) (cellsL_len _ _ _) (cellsL_mem (by decide) (one_encU _)) hsn (by kernel_rfl) (by kernel_rfl) (by kernel_rfl) (by kernel_rfl) (by kernel_rfl) (by kernel_rfl) (by kernel_rfl) (by kernel_rfl) (fun _ _ d _ _ h => by cases d <;> exact h) ?_
    intro vA vB vC ae ce w6 h6 hb6
    have hz5 := K1g.out.lt
    have hz3 := K3g.out.lt
    have K1h : Hid (Blk (w6.setCell ⟨w.heap.size, 3, none⟩ (.slice ae (R.se.length + 1) ce)) w.heap.size _ [.slice la3 (R.q.pbQ c.1 c.2.1 c.2.2 x).ls.length lc3, .slice ma3 (R.q.pbQ c.1 c.2.1 c.2.2 x).ms.length mc3, .slice (some ⟨bt, ot, none⟩) R.cl.length cc, .slice ae (R.se.length + 1) ce, .slice ta R.tk.length tc, .bool true]) := (K1g.out.below hb6).set 3 _
    have K3h : Hid (Blk (w6.setCell ⟨w.heap.size, 3, none⟩ (.slice ae (R.se.length + 1) ce)) C2 _ _) := (K3g.out.below hb6).setO (fun e => hne e.symm) _
    have H7 : Hid (QIs (w6.setCell ⟨w.heap.size, 3, none⟩ (.slice ae (R.se.length + 1) ce)) _ _ (R.q.pbQ c.1 c.2.1 c.2.2 x) V3) := (H5.out.below hb6).setO hn3 HLT.out.1
    have h6' := own_set (i := 3) (u := (.slice ae (R.se.length + 1) ce)) h6 (b := w.heap.size) fun e => by have := own_blk h6 _ e; omega
    have HE7 : Hid (Sl (w6.setCell ⟨w.heap.size, 3, none⟩ (.slice ae (R.se.length + 1) ce)) 1 (R.se ++ [x]).length (encU (R.se ++ [x])) (.slice ae (R.se.length + 1) ce)) := se_snoc h6'
    have HS7 : Hid (Sp (.slice ae (R.se.length + 1) ce)) := sp_own h6
    have B7 : Hid (Below w.heap.size w (w6.setCell ⟨w.heap.size, 3, none⟩ (.slice ae (R.se.length + 1) ce))) := (Below.onto B5.out hb6).setCell (Nat.le_refl _) _
    have HOE : Hid (∀ b, (Value.slice ae (R.se.length + 1) ce).ownBlock = some b → ¬ b = C2 ∧ ¬ b = w.heap.size) := fun b e => by have := own_blk h6 b e; omega
    clear h6 h6' hb6 hz5 hz3 g0 g1 g2 g3 g4 g5 y3
    generalize w6.setCell ⟨w.heap.size, 3, none⟩ (.slice ae (R.se.length + 1) ce) = w7 at *
    obtain ⟨g0, g1, g2, g3, g4, g5⟩ := K1h.out.bx.six
    simp only [Act.put, List.setIfInBounds_toArray, List.set_cons_zero, List.set_cons_succ]
    go_wp2_with fail
    refine cut_c (r := w.heap.size) (N := R.cl.length) (cv := cc) (k := k) (m1 := k) (m2 := R.cl.length - (k + 1)) (av := some ⟨bt, ot, none⟩) (S1 := .slice (some ⟨bt, ot, none⟩) k cc) (S2 := .slice (if cc = k + 1 then some ⟨bt, ot, none⟩ else some ⟨bt, ot + (k + 1) * 3, none⟩) (R.cl.length - (k + 1)) (cc - (k + 1))) (xs1 := cellsL k 3 (encC R.cl)) (xs2 := cellsL (R.cl.length - (k + 1)) 3 fun j => encC R.cl (j + (k + 1))) rfl rfl (by kernel_rfl) (by kernel_rfl) (by kernel_rfl) rfl rfl rfl rfl rfl rfl rfl rfl rfl rfl rfl rfl rfl rfl rfl rfl rfl rfl rfl rfl rfl rfl rfl rfl rfl rfl rfl rfl rfl rfl rfl rfl (by omega) g2 (fun W hW => (K1h.out.below hW).fz 2) (fun b W h1 h2 => cut_c_lo rfl (by omega) HTCAP.out b W h1 h2) (fun b W h1 h2 => cut_c_hi rfl (by omega) b W h1 h2) (HSR1.out _ B7.out) (cellsL_len _ _ _) (cellsL_mem (by decide) HO1.out) (HSR2.out _ B7.out) (cellsL_len _ _ _) (cellsL_mem (by decide) HO2.out) (by omega) (by kernel_rfl) (by kernel_rfl) (by kernel_rfl) (by kernel_rfl) (fun _ _ d _ _ h => by cases d <;> exact h) ?_
    intro vA2 vB2 ad cd w8 h8 hb8
    generalize (Value.slice (if cc = k + 1 then some ⟨bt, ot, none⟩ else some ⟨bt, ot + (k + 1) * 3, none⟩) (R.cl.length - (k + 1)) (cc - (k + 1))) = sS2
    have hz5 := K1h.out.lt
    have hz3 := K3h.out.lt
    have K1i : Hid (Blk (w8.setCell ⟨w.heap.size, 2, none⟩ (.slice ad (k + (R.cl.length - (k + 1))) cd)) w.heap.size _ [.slice la3 (R.q.pbQ c.1 c.2.1 c.2.2 x).ls.length lc3, .slice ma3 (R.q.pbQ c.1 c.2.1 c.2.2 x).ms.length mc3, .slice ad (k + (R.cl.length - (k + 1))) cd, .slice ae (R.se.length + 1) ce, .slice ta R.tk.length tc, .bool true]) := (K1h.out.below hb8).set 2 _
    have K3i : Hid (Blk (w8.setCell ⟨w.heap.size, 2, none⟩ (.slice ad (k + (R.cl.length - (k + 1))) cd)) C2 _ _) := (K3h.out.below hb8).setO (fun e => hne e.symm) _
    have H9 : Hid (QIs (w8.setCell ⟨w.heap.size, 2, none⟩ (.slice ad (k + (R.cl.length - (k + 1))) cd)) _ _ (R.q.pbQ c.1 c.2.1 c.2.2 x) V3) := (H7.out.below hb8).setO hn3 HLT.out.1
    have h8' := own_set (i := 2) (u := (.slice ad (k + (R.cl.length - (k + 1))) cd)) h8 (b := w.heap.size) fun e => by have := own_blk h8 _ e; omega
    have HC9 : Hid (Sl (w8.setCell ⟨w.heap.size, 2, none⟩ (.slice ad (k + (R.cl.length - (k + 1))) cd)) 3 (R.cl.eraseIdx k).length (encC (R.cl.eraseIdx k)) (.slice ad (k + (R.cl.length - (k + 1))) cd)) := cl3_erase hkl h8'
    have HE9 : Hid (Sl (w8.setCell ⟨w.heap.size, 2, none⟩ (.slice ad (k + (R.cl.length - (k + 1))) cd)) 1 (R.se ++ [x]).length (encU (R.se ++ [x])) (.slice ae (R.se.length + 1) ce)) := (HE7.out.below hb8).setO fun e => (HOE.out _ e).2 rfl
    have HS9 : Hid (Sp (.slice ad (k + (R.cl.length - (k + 1))) cd)) := sp_own h8
    have B9 : Hid (Below w.heap.size w (w8.setCell ⟨w.heap.size, 2, none⟩ (.slice ad (k + (R.cl.length - (k + 1))) cd))) := (Below.onto B7.out hb8).setCell (Nat.le_refl _) _
    have HOB : Hid (∀ b, (Value.slice ad (k + (R.cl.length - (k + 1))) cd).ownBlock = some b → ¬ b = C2) := fun b e e2 => by have := own_blk h8 b e; omega
    clear h8 h8' hb8 hz5 hz3 g0 g1 g2 g3 g4 g5
    generalize w8.setCell ⟨w.heap.size, 2, none⟩ (.slice ad (k + (R.cl.length - (k + 1))) cd) = w9 at *
    obtain ⟨g0, g1, g2, g3, g4, g5⟩ := K1i.out.bx.six
    obtain ⟨z0, z1, z2, z3, z4, z5⟩ := K3i.out.bx.six
    have z6 := K3i.out.fz
    go_wp2_with fail
    refine bodyPost_ret (v := runV (.slice la3 (R.q.pbQ c.1 c.2.1 c.2.2 x).ls.length lc3) (.slice ma3 (R.q.pbQ c.1 c.2.1 c.2.2 x).ms.length mc3) (.slice ad (k + (R.cl.length - (k + 1))) cd) (.slice ae (R.se.length + 1) ce) (.slice ta R.tk.length tc)) (by simp [results, Try.results25, go_sem, z0, z1, z2, z3, z4, z5]) rfl ?_
    rw [HPO.out]
    refine ⟨_, _, _, _, _, ⟨(R.q.pbQ c.1 c.2.1 c.2.2 x), R.cl.eraseIdx k, R.se ++ [x], R.tk⟩, V3, rfl, ?_, HRT.out, ?_⟩
    · have BF : Below w.heap.size w _ := ((((((B9.out.setCell (p := ⟨C2, 0, none⟩) HL2.out (.slice la3 (R.q.pbQ c.1 c.2.1 c.2.2 x).ls.length lc3)).setCell (p := ⟨C2, 1, none⟩) HL2.out (.slice ma3 (R.q.pbQ c.1 c.2.1 c.2.2 x).ms.length mc3)).setCell (p := ⟨C2, 2, none⟩) HL2.out (.slice ad (k + (R.cl.length - (k + 1))) cd)).setCell (p := ⟨C2, 3, none⟩) HL2.out (.slice ae (R.se.length + 1) ce)).setCell (p := ⟨C2, 4, none⟩) HL2.out (.slice ta R.tk.length tc)).setCell (p := ⟨C2, 5, none⟩) HL2.out (.bool true))
      have hC2 := HLT.out.2
      have HQF := ((((((H9.out.setO (i := 0) (u := .slice la3 (R.q.pbQ c.1 c.2.1 c.2.2 x).ls.length lc3) hn3 hC2).setO (i := 1) (u := .slice ma3 (R.q.pbQ c.1 c.2.1 c.2.2 x).ms.length mc3) hn3 hC2).setO (i := 2) (u := .slice ad (k + (R.cl.length - (k + 1))) cd) hn3 hC2).setO (i := 3) (u := .slice ae (R.se.length + 1) ce) hn3 hC2).setO (i := 4) (u := .slice ta R.tk.length tc) hn3 hC2).setO (i := 5) (u := .bool true) hn3 hC2)
      have ho : (Value.slice ad (k + (R.cl.length - (k + 1))) cd).ownBlock ≠ some C2 := fun e => HOB.out C2 e rfl
      have hoe : (Value.slice ae (R.se.length + 1) ce).ownBlock ≠ some C2 := fun e => (HOE.out C2 e).1 rfl
      have HCF := ((((((HC9.out.setO (i := 0) (u := .slice la3 (R.q.pbQ c.1 c.2.1 c.2.2 x).ls.length lc3) ho).setO (i := 1) (u := .slice ma3 (R.q.pbQ c.1 c.2.1 c.2.2 x).ms.length mc3) ho).setO (i := 2) (u := .slice ad (k + (R.cl.length - (k + 1))) cd) ho).setO (i := 3) (u := .slice ae (R.se.length + 1) ce) ho).setO (i := 4) (u := .slice ta R.tk.length tc) ho).setO (i := 5) (u := .bool true) ho)
      have HSF := ((((((HE9.out.setO (i := 0) (u := .slice la3 (R.q.pbQ c.1 c.2.1 c.2.2 x).ls.length lc3) hoe).setO (i := 1) (u := .slice ma3 (R.q.pbQ c.1 c.2.1 c.2.2 x).ms.length mc3) hoe).setO (i := 2) (u := .slice ad (k + (R.cl.length - (k + 1))) cd) hoe).setO (i := 3) (u := .slice ae (R.se.length + 1) ce) hoe).setO (i := 4) (u := .slice ta R.tk.length tc) hoe).setO (i := 5) (u := .bool true) hoe)
      exact ⟨HQF, HCF, HSF, HR.out.t.below BF, HS9.out, HS7.out, HR.out.pt⟩
    · repeat (first | (with_reducible exact B9.out) | ((with_reducible refine Below.setCell ?_ ?_ _); rotate_left; first | exact HL2.out))

end Go.Proofs.Ytimmjhegeagofab
