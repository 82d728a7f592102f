/- QueueApart's walk. -/
import Derived.Test.YtkgehbonijpdnaaUApZ
import Derived.Test.YtkgehbonijpdnaaJSeq
namespace Go.Proofs.Ytkgehbonijpdnaa
open Go.RowKit Go.Sort
set_option maxRecDepth 100000

theorem eltI9 : Elt 25 3 1 8 (.int .i64 0) := ⟨Try.underlying25, by kernel_rfl, rfl, by decide, by decide⟩
theorem eltB9 : Elt 26 4 1 1 (.bool false) := ⟨Try.underlying26, by kernel_rfl, rfl, by decide, by decide⟩
theorem tw_sl2 {w : World} {B i : Nat} {v : Value} (h : w.ownsRow B 4 1 v i ((List.replicate i false).map Value.bool)) : Sl w 1 (List.replicate i false).length (encB (List.replicate i false)) v := by
  rw [List.length_replicate]
  refine sl_own h fun j hj k hk => ?_
  obtain rfl : k = 0 := by omega
  simp [encB, atB, hj]
theorem ap_new {cs : List Int} {n own : Nat} (hE : newE cs (List.replicate n false) = 0) (h : Rn.Ok ⟨newQ cs (List.replicate n false), [], [], []⟩ cs 0) (hn : cs.length = n) (ho : own < n) : Ap (newQ cs (List.replicate n false)) (newQ cs (List.replicate n false)) [] [] [] n own 0 := by
  have hl : (newQ cs (List.replicate n false)).ls.length = n := h.len.trans hn
  refine ⟨h.ok, h.ok, hl, hl, ho, rfl, fun k hk => ?_, fun c hc => by simp at hc, fun c hc => by simp at hc, h.ms, h.ms, Nat.le_refl _, Nat.le_refl _, Nat.le_refl _⟩
  have e : newQ cs (List.replicate n false) = ⟨newL cs (List.replicate n false), []⟩ := by unfold newQ; rw [if_pos hE]
  have hz : k < (newL cs (List.replicate n false)).length := by
    have hl' : (newL cs (List.replicate n false)).length = n := by rw [e] at hl; exact hl
    omega
  rw [e]
  show (atP (newL cs (List.replicate n false)) k).tw = false
  rw [atP_eq hz]
  simp [newL]
/-- one more -/
theorem uapp {t e ty : TypeId} {size bytes : Nat} {z : Value} (E0 : Elt t e size bytes z) {B : Nat} {W : World} {v : Value} {n : Nat} {xs : List Value} (cs : List Value) (hv : W.ownsRow B e size v n xs) (hcs : cs.length = size) (h1 : ∀ u ∈ cs, u.oneCell' = true) (hn : n ≤ 100000) (hB : B ≤ W.heap.size) :
    ∃ v' w3, (Builtin.append_ #[t, t] ty #[v, .slice (some ⟨W.heap.size, 0, none⟩) 1 1]).run Try.prog (W.alloc (.cells cs.toArray e)) = .ok v' w3 ∧ w3.ownsRow B e size v' (n + 1) (xs ++ cs) ∧ Chg (fun b => v.ownBlock = some b) W w3 := by
  obtain ⟨i0, hi, hz0, hz1, hz2⟩ := info_parts E0.hi
  have b12 : Below W.heap.size W (W.alloc (.cells cs.toArray e)) := below_new _ _
  have hnews : ∀ j u, cs[j]? = some u → (W.alloc (.cells cs.toArray e)).cell? ((⟨W.heap.size, 0, none⟩ : Addr).add j) = some u := fun j u hj => by
    rw [Go.WideShapes.add_plain, Nat.zero_add]
    exact bx_new W cs e j u hj
  have h64 : (n + 1) * bytes ≤ 140737488355328 := by
    have := Nat.mul_le_mul (show n + 1 ≤ 100001 by omega) E0.hb
    omega
  obtain ⟨v', w3, hrun, hown, hgrow, _, hloc⟩ := run_append_own_at (P := Try.prog) (w := W.alloc (.cells cs.toArray e)) B t ty e i0 z size bytes E0.ht hi hz0 hz1 hz2 E0.hz E0.hs v n xs (own_below hv b12) ⟨W.heap.size, 0, none⟩ 1 1 cs (by omega) hnews h1 (by unfold maxLen; omega) h64 (Nat.le_trans hB b12.size)
  exact ⟨v', w3, hrun, hown, (Chg.of b12).trans (Chg.grown hgrow)⟩
set_option maxHeartbeats 32000000 in
theorem apart_any (ca : Option Addr) (cn cc : Nat) (f : Nat → Int) (lane : Nat) (oa : Option Addr) (on oc : Nat) (g : Nat → UOp) (w : World) (hc : Rd w ca cn 1 (fun j _ => .int .u8 (f j)) ∧ ∀ j, j < cn → 0 ≤ f j ∧ f j < 256) (hlane : lane < 256) (ho : Rd w oa on 4 (fun j => encO (g j)) ∧ ∀ j, j < on → 0 ≤ (g j).n ∧ (g j).n < 256) :
    Calls Try.prog 4 #[.slice ca cn cc, .int .u8 (lane : Int), .slice oa on oc] w fun e w' => e = .returned (.bool true) ∧ Below w.heap.size w w' := by
  have HC : Hid (Rd w ca cn 1 (fun j _ => .int .u8 (f j)) ∧ ∀ j, j < cn → 0 ≤ f j ∧ f j < 256) := hc
  have HO : Hid (Rd w oa on 4 (fun j => encO (g j)) ∧ ∀ j, j < on → 0 ≤ (g j).n ∧ (g j).n < 256) := ho
  have hA := awake_any w
  clear hc ho
  go_enter Try.func4, Try.ntmps4
  go_wp2_with fail
  refine hA.mono ?_
  rintro e w1 ⟨rfl, hb1⟩
  have B1 : Hid (Below w.heap.size w w1) := hb1
  clear hA hb1
  go_wp2_with fail
  go_loopw [7, 8, 9] (fun p1 p2 t wr => ∃ (u1 u2 : Value) (i : Nat), u1 = p1 ∧ u2 = p2 ∧ i ≤ 6 ∧ i ≤ cn ∧ t = .int .i64 i ∧ Hid (wr.ownsRow w.heap.size 3 1 u1 i ((csT f i).map (Value.int .i64))) ∧ Hid (wr.ownsRow w.heap.size 4 1 u2 i ((List.replicate i false).map Value.bool)) ∧ Hid (Below w.heap.size w wr)) (fun _ _ t _ => 6 - (intOf t).toNat)
  case atStart => exact ⟨_, _, 0, rfl, rfl, by omega, Nat.zero_le _, rfl, World.ownsRow_nil _ _ _ _, World.ownsRow_nil _ _ _ _, B1.out⟩
  case round =>
    obtain ⟨u1, u2, i, e5, e6, hi6, hin, rfl, h1, h2, hbel⟩ := hrel
    subst e5 e6
    obtain ⟨a5, c5, rfl⟩ := own_form2 h1.out
    obtain ⟨a6, c6, rfl⟩ := own_form2 h2.out
    by_cases hfin : i < cn ∧ i < 6
    · obtain ⟨hf1, hf2⟩ := hfin
      obtain ⟨bc, ofc, hca, hy⟩ := HC.out.1 i hf1
      subst hca
      have hy0 := hy 0 (by omega)
      rw [Nat.mul_one, Nat.add_zero] at hy0
      obtain ⟨g0, g1⟩ := HC.out.2 i hf1
      have hyw : wr.cell? ⟨bc, ofc + i, none⟩ = some (.int .u8 (f i)) := (hbel.out.cell (p := ⟨bc, ofc + i, none⟩) (cell_lt hy0)).trans hy0
      have hyl := cell_lt hyw
      obtain ⟨v3, w3, hrun3, hown3, hchg3⟩ := uapp (ty := 25) eltI9 [.int .i64 (f i % 8 + 1)] h1.out rfl (by simp [Value.oneCell']) (by omega) hbel.out.size
      have h2c := own_same h2.out (w' := w3) fun b eb => hchg3.block b (own_lt h2.out eb) fun e => own_two h1.out h2.out (by decide) b e eb
      have hb3 : Below w.heap.size w w3 := hbel.out.trans (chg_below hchg3 h1.out hbel.out.size)
      obtain ⟨v5, w5, hrun5, hown5, hchg5⟩ := uapp (ty := 26) eltB9 [.bool false] h2c rfl (by simp [Value.oneCell']) (by omega) hb3.size
      have h1c := own_same hown3 (w' := w5) fun b eb => hchg5.block b (own_lt hown3 eb) fun e => own_two hown3 h2c (by decide) b eb e
      have H1 : Hid (w5.ownsRow w.heap.size 3 1 v3 (i + 1) ((csT f (i + 1)).map (Value.int .i64))) := by show World.ownsRow _ _ _ _ _ _ _; rw [csT_succ]; exact h1c
      have H2 : Hid (w5.ownsRow w.heap.size 4 1 v5 (i + 1) ((List.replicate (i + 1) false).map Value.bool)) := by show World.ownsRow _ _ _ _ _ _ _; rw [List.replicate_succ', List.map_append]; exact hown5
      have HB : Hid (Below w.heap.size w w5) := hb3.trans (chg_below hchg5 h2c hb3.size)
      obtain ⟨a3, c3, rfl⟩ := own_form2 hown3
      obtain ⟨a9, c9, rfl⟩ := own_form2 hown5
      have hmod : (f i).tmod 8 = f i % 8 := Int.tmod_eq_emod_of_nonneg g0
      clear hy hy0 hown3 hown5 hchg3 hchg5 h2c h1c hb3
      go_wp2_with (first | (at_builtin; refine wpList_append_run rfl (.tmp 57) (.tmp 65) 25 rfl _ _ _ rfl rfl hrun3 ?_) | (at_builtin; refine wpList_append_run rfl (.tmp 67) (.tmp 68) 26 rfl _ _ _ rfl rfl hrun5 ?_))
      exact ⟨⟨_, _, i + 1, rfl, rfl, by omega, by omega, by go_num, H1.out, H2.out, HB.out⟩, by simp [intOf]; omega⟩
    · by_cases hf1 : i < cn
      · have hf2 : 6 ≤ i := by omega
        have hf3 : ¬ i < 6 := by omega
        by_cases hi0 : i = 0
        · have hi1 : ((i : Int) == 0) = true := by simp [hi0]
          clear hi0
          go_wp2_with fail
          go_ret
          exact ⟨rfl, hbel.out⟩
        · have hi1 : ((i : Int) == 0) = false := by rw [beq_eq_false_iff_ne]; omega
          have hi2 : ¬ (i : Int) = 0 := by omega
          have hwn := fun W h1' h2' => new_any (.slice a5 i c5) (.slice a6 i c6) (csT f i) (List.replicate i false) W (by rw [csT_len]; omega) h1' h2'
          have HFN : Hid (newE (csT f i) (List.replicate i false) = 0 ∧ Rn.Ok ⟨newQ (csT f i) (List.replicate i false), [], [], []⟩ (csT f i) 0) := fifo_new (by rw [csT_len]; simp) (by rw [csT_len]; exact hi6) (csT_rng f i (fun j hj => HC.out.2 j (by omega)))
          have HLN : Hid (lane % i < i) := Nat.mod_lt _ (by omega)
          go_wp2_with fail
          rw [show (lane : Int) % (i : Int) = ((lane % i : Nat) : Int) from rfl]
          generalize lane % i = own at *
          refine (hwn _ (cs_sl h1.out) (tw_sl2 h2.out)).mono ?_
          rintro e w2 ⟨ul, um, V2, rfl, hq2, hb2, hn2⟩
          rw [HFN.out.1]
          obtain ⟨a_a, a_c, hul, hz1⟩ := id hq2.l
          obtain ⟨a_ma, a_mc, hum, hz2⟩ := id hq2.m
          subst hul hum
          clear hz1 hz2
          have h1b := own_below h1.out hb2
          have h2b := own_below h2.out hb2
          have B2 : Hid (Below w.heap.size w w2) := Below.onto hbel.out hb2
          clear hb2
          have bA := below_new w2 (.cells #[.slice a_a (newQ (csT f i) (List.replicate i false)).ls.length a_c, .slice a_ma (newQ (csT f i) (List.replicate i false)).ms.length a_mc] 30)
          have kA : Hid (Blk (w2.alloc (.cells #[.slice a_a (newQ (csT f i) (List.replicate i false)).ls.length a_c, .slice a_ma (newQ (csT f i) (List.replicate i false)).ms.length a_mc] 30)) w2.heap.size 30 [.slice a_a (newQ (csT f i) (List.replicate i false)).ls.length a_c, .slice a_ma (newQ (csT f i) (List.replicate i false)).ms.length a_mc]) := blk_new w2 [.slice a_a (newQ (csT f i) (List.replicate i false)).ls.length a_c, .slice a_ma (newQ (csT f i) (List.replicate i false)).ms.length a_mc] 30
          have QA3 : Hid (QIs (w2.alloc (.cells #[.slice a_a (newQ (csT f i) (List.replicate i false)).ls.length a_c, .slice a_ma (newQ (csT f i) (List.replicate i false)).ms.length a_mc] 30)) _ _ (newQ (csT f i) (List.replicate i false)) V2) := hq2.below bA
          have r1 : Hid (World.ownsRow _ _ _ _ _ _ _) := own_below h1b bA
          have r2 : Hid (World.ownsRow _ _ _ _ _ _ _) := own_below h2b bA
          have B3 : Hid (Below w.heap.size w (w2.alloc (.cells #[.slice a_a (newQ (csT f i) (List.replicate i false)).ls.length a_c, .slice a_ma (newQ (csT f i) (List.replicate i false)).ms.length a_mc] 30))) := Below.onto B2.out bA
          have HPA : Hid (w.heap.size ≤ w2.heap.size) := B2.out.size
          clear bA h1b h2b hq2
          go_wp2_with fail
          generalize w2.alloc (.cells #[.slice a_a (newQ (csT f i) (List.replicate i false)).ls.length a_c, .slice a_ma (newQ (csT f i) (List.replicate i false)).ms.length a_mc] 30) = w3 at *
          generalize w2.heap.size = PA at *
          refine (hwn _ (cs_sl r1.out) (tw_sl2 r2.out)).mono ?_
          rintro e w4 ⟨ul, um, V4, rfl, hq4, hb4, hn4⟩
          rw [HFN.out.1]
          obtain ⟨b_a, b_c, hul, hz1⟩ := id hq4.l
          obtain ⟨b_ma, b_mc, hum, hz2⟩ := id hq4.m
          subst hul hum
          clear hz1 hz2 hwn
          have bB := below_new w4 (.cells #[.slice b_a (newQ (csT f i) (List.replicate i false)).ls.length b_c, .slice b_ma (newQ (csT f i) (List.replicate i false)).ms.length b_mc] 30)
          have HAJ : Hid (AJ w (w4.alloc (.cells #[.slice b_a (newQ (csT f i) (List.replicate i false)).ls.length b_c, .slice b_ma (newQ (csT f i) (List.replicate i false)).ms.length b_mc] 30)) PA w4.heap.size (.slice a_a (newQ (csT f i) (List.replicate i false)).ls.length a_c) (.slice a_ma (newQ (csT f i) (List.replicate i false)).ms.length a_mc) (.slice b_a (newQ (csT f i) (List.replicate i false)).ls.length b_c) (.slice b_ma (newQ (csT f i) (List.replicate i false)).ms.length b_mc) (.slice none 0 0) (.slice none 0 0) (.slice none 0 0) (newQ (csT f i) (List.replicate i false)) (newQ (csT f i) (List.replicate i false)) V2 V4 [] [] []) := by
            refine ⟨(kA.out.below hb4).below bB, blk_new w4 [.slice b_a (newQ (csT f i) (List.replicate i false)).ls.length b_c, .slice b_ma (newQ (csT f i) (List.replicate i false)).ms.length b_mc] 30, (QA3.out.below hb4).below bB, hq4.below bB, World.ownsRow_nil _ _ _ _, World.ownsRow_nil _ _ _ _, World.ownsRow_nil _ _ _ _, fun b e => (by cases e), ⟨QSep.nil, QSep.nil, QSep.nil⟩, ⟨QSep.nil, QSep.nil, QSep.nil⟩, Below.onto (Below.onto B3.out hb4) bB, HPA.out, (Below.onto B3.out hb4).size, ?_⟩
            have := kA.out.lt
            have := hb4.size
            omega
          have HAP : Hid (Ap (newQ (csT f i) (List.replicate i false)) (newQ (csT f i) (List.replicate i false)) [] [] [] i own 0) := ap_new HFN.out.1 HFN.out.2 (csT_len f i) HLN.out
          clear bB hb4 hq4 hn4 hn2 kA QA3 r1 r2
          go_wp2_with fail
          generalize w4.alloc (.cells #[.slice b_a (newQ (csT f i) (List.replicate i false)).ls.length b_c, .slice b_ma (newQ (csT f i) (List.replicate i false)).ms.length b_mc] 30) = w5 at *
          generalize w4.heap.size = PB at *
          clear h1 h2 hbel B2 B3 HPA
          generalize newQ (csT f i) (List.replicate i false) = A0 at *
          have hol := HLN.out
          refine wp_mono (ap_loop (w := w) (oa := oa) (on := on) (oc := oc) (own := own) (PA := PA) (PB := PB) (n := i) HO.out _ _ ⟨_, rfl, rfl, rfl, rfl, rfl, rfl, _, _, _, _, _, _, _, _, _, _, _, _, _, _, 0, rfl, rfl, rfl, rfl, Nat.zero_le _, HAJ.out, HAP.out⟩) ?_
          rintro e a7 w7 ⟨rfl, hI⟩
          obtain ⟨T, rfl, hs, h2, h10, h11, h13, vm, vo, vt, ql, qm, pl, pm, A, B, VA, VB, mn, ot, tk, k, h15, h16, h17, h18, hk, hJ, hP⟩ := hI
          clear h2 h15 h16 h17 h18 hk
          have hsm := hP.same
          obtain ⟨b, off, lc, ca, cc, rfl, _, _, _, x2, _, _, x5⟩ := hJ.qa.at (k := own) (by have := hP.la; have := hP.ol; omega)
          obtain ⟨b', off', lc', ca', cc', rfl, _, _, _, y2, _, _, y5⟩ := hJ.qb.at (k := own) (by have := hP.lb; have := hP.ol; omega)
          obtain ⟨x0, x1⟩ := hJ.ba.bx.two
          obtain ⟨y0, y1⟩ := hJ.bb.bx.two
          rw [hP.la] at x0
          rw [hP.lb] at y0
          rw [← hsm] at y2 y5
          have HB7 : Hid (Below w.heap.size w w7) := hJ.bel
          clear hJ hP hsm HAJ HAP
          generalize (atP A.ls own).lf = lf at *
          generalize (atP A.ls own).ep = ep at *
          revert h10 h11 h13
          revert hs
          revert T
          refine frame_open ?_
          intro u0 u1 u2 u3 u4 u5 u6 u7 u8 u9 u10 u11 u12 u13 u14 u15 u16 u17 u18 u19 u20 u21 u22 u23 u24 u25 u26 u27 u28 u29 u30 u31 u32 u33 u34 u35 u36 u37 u38 u39 u40 u41 u42 u43 u44 u45 u46 u47 u48 u49 u50 u51 u52 u53 u54 u55 u56 u57 u58 u59 u60 u61 u62 u63 u64 u65 u66 u67 u68 u69 u70 u71 u72 u73 u74 u75 u76 u77 u78 u79 u80 u81 u82 u83 u84 u85 u86 u87 u88 u89 u90 u91 u92 u93 u94 u95 u96 u97 u98 u99 u100 u101 u102 u103 u104 u105 u106 u107 u108 u109 u110 u111 u112 u113 u114 u115 u116 u117 u118 u119 u120 u121 u122 u123 u124 u125 u126 u127 u128 u129 u130 u131 u132 u133 u134 u135 u136 u137 u138 u139 u140 u141 u142 u143 u144 u145 u146 u147 u148 u149 u150 u151 u152 u153 u154 u155 u156 u157 u158 u159 u160 u161 u162 u163 u164 u165 u166 u167 u168 u169 u170 u171 u172 u173 u174 u175 u176 u177 u178 u179 u180 u181 u182 u183 u184 u185 u186 u187 u188 u189 u190 u191 u192 u193 u194 u195 u196 u197 u198 u199 u200 u201 u202 u203 u204 u205 u206 u207 u208 u209 u210 u211 u212 u213 u214 u215 u216 u217 u218 u219 u220 u221 u222 u223 u224 u225 u226 u227 u228 u229 u230 u231 u232 u233 u234 u235 u236 u237 u238 u239 u240 u241 u242 u243 u244 u245 u246 u247 u248 u249 u250 u251 u252 u253 u254 u255 u256 u257 u258 u259 u260 u261 u262 u263 u264 u265 u266 u267 u268 u269 u270 u271 u272 u273 u274 u275 u276 u277 u278 u279 u280 u281 u282 u283 u284 u285 u286 u287 u288 u289 u290 u291 u292 u293 u294 u295 u296 u297 u298 u299 u300 u301 u302 u303 u304 u305 u306 u307 u308 u309 u310 u311 u312 u313 u314 u315 u316 u317 u318 u319 u320 u321 u322 u323 u324 u325 u326 u327 u328 u329 u330 u331 u332 u333 u334 u335 u336 u337 u338 u339 u340 u341 u342 u343 u344 u345 u346 u347 u348 u349 u350 u351 u352 h10 h11 h13
          obtain rfl : u10 = _ := Option.some.inj h10
          obtain rfl : u11 = _ := Option.some.inj h11
          obtain rfl : u13 = _ := Option.some.inj h13
          clear h10 h11 h13 x1 y1
          have hol := HLN.out
          have hol2 : (own : Int) < (i : Int) := by omega
          have hol3 : (0 : Int) ≤ (own : Int) := Int.natCast_nonneg _
          go_wp2_with fail
          go_region_held3 (fun W => (W.cell? ⟨PA, 0, none⟩ = some (.slice (some ⟨b, off, none⟩) i lc) ∧ W.cell? ⟨PB, 0, none⟩ = some (.slice (some ⟨b', off', none⟩) i lc')) ∧ (W.cell? ⟨b, off + own * 6 + 2, none⟩ = some (.int .i64 lf) ∧ W.cell? ⟨b, off + own * 6 + 5, none⟩ = some (.int .i64 ep)) ∧ W.cell? ⟨b', off' + own * 6 + 2, none⟩ = some (.int .i64 lf) ∧ W.cell? ⟨b', off' + own * 6 + 5, none⟩ = some (.int .i64 ep)) (first | (with_reducible assumption) | exact ⟨⟨x0, y0⟩, ⟨x2, x5⟩, y2, y5⟩) (fail)
          go_wp2_with fail
          go_ret
          exact ⟨rfl, HB7.out.drew⟩
      · have hf2 : cn ≤ i := by omega
        by_cases hi0 : i = 0
        · have hi1 : ((i : Int) == 0) = true := by simp [hi0]
          clear hi0
          go_wp2_with fail
          go_ret
          exact ⟨rfl, hbel.out⟩
        · have hi1 : ((i : Int) == 0) = false := by rw [beq_eq_false_iff_ne]; omega
          have hi2 : ¬ (i : Int) = 0 := by omega
          have hwn := fun W h1' h2' => new_any (.slice a5 i c5) (.slice a6 i c6) (csT f i) (List.replicate i false) W (by rw [csT_len]; omega) h1' h2'
          have HFN : Hid (newE (csT f i) (List.replicate i false) = 0 ∧ Rn.Ok ⟨newQ (csT f i) (List.replicate i false), [], [], []⟩ (csT f i) 0) := fifo_new (by rw [csT_len]; simp) (by rw [csT_len]; exact hi6) (csT_rng f i (fun j hj => HC.out.2 j (by omega)))
          have HLN : Hid (lane % i < i) := Nat.mod_lt _ (by omega)
          go_wp2_with fail
          rw [show (lane : Int) % (i : Int) = ((lane % i : Nat) : Int) from rfl]
          generalize lane % i = own at *
          refine (hwn _ (cs_sl h1.out) (tw_sl2 h2.out)).mono ?_
          rintro e w2 ⟨ul, um, V2, rfl, hq2, hb2, hn2⟩
          rw [HFN.out.1]
          obtain ⟨a_a, a_c, hul, hz1⟩ := id hq2.l
          obtain ⟨a_ma, a_mc, hum, hz2⟩ := id hq2.m
          subst hul hum
          clear hz1 hz2
          have h1b := own_below h1.out hb2
          have h2b := own_below h2.out hb2
          have B2 : Hid (Below w.heap.size w w2) := Below.onto hbel.out hb2
          clear hb2
          have bA := below_new w2 (.cells #[.slice a_a (newQ (csT f i) (List.replicate i false)).ls.length a_c, .slice a_ma (newQ (csT f i) (List.replicate i false)).ms.length a_mc] 30)
          have kA : Hid (Blk (w2.alloc (.cells #[.slice a_a (newQ (csT f i) (List.replicate i false)).ls.length a_c, .slice a_ma (newQ (csT f i) (List.replicate i false)).ms.length a_mc] 30)) w2.heap.size 30 [.slice a_a (newQ (csT f i) (List.replicate i false)).ls.length a_c, .slice a_ma (newQ (csT f i) (List.replicate i false)).ms.length a_mc]) := blk_new w2 [.slice a_a (newQ (csT f i) (List.replicate i false)).ls.length a_c, .slice a_ma (newQ (csT f i) (List.replicate i false)).ms.length a_mc] 30
          have QA3 : Hid (QIs (w2.alloc (.cells #[.slice a_a (newQ (csT f i) (List.replicate i false)).ls.length a_c, .slice a_ma (newQ (csT f i) (List.replicate i false)).ms.length a_mc] 30)) _ _ (newQ (csT f i) (List.replicate i false)) V2) := hq2.below bA
          have r1 : Hid (World.ownsRow _ _ _ _ _ _ _) := own_below h1b bA
          have r2 : Hid (World.ownsRow _ _ _ _ _ _ _) := own_below h2b bA
          have B3 : Hid (Below w.heap.size w (w2.alloc (.cells #[.slice a_a (newQ (csT f i) (List.replicate i false)).ls.length a_c, .slice a_ma (newQ (csT f i) (List.replicate i false)).ms.length a_mc] 30))) := Below.onto B2.out bA
          have HPA : Hid (w.heap.size ≤ w2.heap.size) := B2.out.size
          clear bA h1b h2b hq2
          go_wp2_with fail
          generalize w2.alloc (.cells #[.slice a_a (newQ (csT f i) (List.replicate i false)).ls.length a_c, .slice a_ma (newQ (csT f i) (List.replicate i false)).ms.length a_mc] 30) = w3 at *
          generalize w2.heap.size = PA at *
          refine (hwn _ (cs_sl r1.out) (tw_sl2 r2.out)).mono ?_
          rintro e w4 ⟨ul, um, V4, rfl, hq4, hb4, hn4⟩
          rw [HFN.out.1]
          obtain ⟨b_a, b_c, hul, hz1⟩ := id hq4.l
          obtain ⟨b_ma, b_mc, hum, hz2⟩ := id hq4.m
          subst hul hum
          clear hz1 hz2 hwn
          have bB := below_new w4 (.cells #[.slice b_a (newQ (csT f i) (List.replicate i false)).ls.length b_c, .slice b_ma (newQ (csT f i) (List.replicate i false)).ms.length b_mc] 30)
          have HAJ : Hid (AJ w (w4.alloc (.cells #[.slice b_a (newQ (csT f i) (List.replicate i false)).ls.length b_c, .slice b_ma (newQ (csT f i) (List.replicate i false)).ms.length b_mc] 30)) PA w4.heap.size (.slice a_a (newQ (csT f i) (List.replicate i false)).ls.length a_c) (.slice a_ma (newQ (csT f i) (List.replicate i false)).ms.length a_mc) (.slice b_a (newQ (csT f i) (List.replicate i false)).ls.length b_c) (.slice b_ma (newQ (csT f i) (List.replicate i false)).ms.length b_mc) (.slice none 0 0) (.slice none 0 0) (.slice none 0 0) (newQ (csT f i) (List.replicate i false)) (newQ (csT f i) (List.replicate i false)) V2 V4 [] [] []) := by
            refine ⟨(kA.out.below hb4).below bB, blk_new w4 [.slice b_a (newQ (csT f i) (List.replicate i false)).ls.length b_c, .slice b_ma (newQ (csT f i) (List.replicate i false)).ms.length b_mc] 30, (QA3.out.below hb4).below bB, hq4.below bB, World.ownsRow_nil _ _ _ _, World.ownsRow_nil _ _ _ _, World.ownsRow_nil _ _ _ _, fun b e => (by cases e), ⟨QSep.nil, QSep.nil, QSep.nil⟩, ⟨QSep.nil, QSep.nil, QSep.nil⟩, Below.onto (Below.onto B3.out hb4) bB, HPA.out, (Below.onto B3.out hb4).size, ?_⟩
            have := kA.out.lt
            have := hb4.size
            omega
          have HAP : Hid (Ap (newQ (csT f i) (List.replicate i false)) (newQ (csT f i) (List.replicate i false)) [] [] [] i own 0) := ap_new HFN.out.1 HFN.out.2 (csT_len f i) HLN.out
          clear bB hb4 hq4 hn4 hn2 kA QA3 r1 r2
          go_wp2_with fail
          generalize w4.alloc (.cells #[.slice b_a (newQ (csT f i) (List.replicate i false)).ls.length b_c, .slice b_ma (newQ (csT f i) (List.replicate i false)).ms.length b_mc] 30) = w5 at *
          generalize w4.heap.size = PB at *
          clear h1 h2 hbel B2 B3 HPA
          generalize newQ (csT f i) (List.replicate i false) = A0 at *
          have hol := HLN.out
          refine wp_mono (ap_loop (w := w) (oa := oa) (on := on) (oc := oc) (own := own) (PA := PA) (PB := PB) (n := i) HO.out _ _ ⟨_, rfl, rfl, rfl, rfl, rfl, rfl, _, _, _, _, _, _, _, _, _, _, _, _, _, _, 0, rfl, rfl, rfl, rfl, Nat.zero_le _, HAJ.out, HAP.out⟩) ?_
          rintro e a7 w7 ⟨rfl, hI⟩
          obtain ⟨T, rfl, hs, h2, h10, h11, h13, vm, vo, vt, ql, qm, pl, pm, A, B, VA, VB, mn, ot, tk, k, h15, h16, h17, h18, hk, hJ, hP⟩ := hI
          clear h2 h15 h16 h17 h18 hk
          have hsm := hP.same
          obtain ⟨b, off, lc, ca, cc, rfl, _, _, _, x2, _, _, x5⟩ := hJ.qa.at (k := own) (by have := hP.la; have := hP.ol; omega)
          obtain ⟨b', off', lc', ca', cc', rfl, _, _, _, y2, _, _, y5⟩ := hJ.qb.at (k := own) (by have := hP.lb; have := hP.ol; omega)
          obtain ⟨x0, x1⟩ := hJ.ba.bx.two
          obtain ⟨y0, y1⟩ := hJ.bb.bx.two
          rw [hP.la] at x0
          rw [hP.lb] at y0
          rw [← hsm] at y2 y5
          have HB7 : Hid (Below w.heap.size w w7) := hJ.bel
          clear hJ hP hsm HAJ HAP
          generalize (atP A.ls own).lf = lf at *
          generalize (atP A.ls own).ep = ep at *
          revert h10 h11 h13
          revert hs
          revert T
          refine frame_open ?_
          intro u0 u1 u2 u3 u4 u5 u6 u7 u8 u9 u10 u11 u12 u13 u14 u15 u16 u17 u18 u19 u20 u21 u22 u23 u24 u25 u26 u27 u28 u29 u30 u31 u32 u33 u34 u35 u36 u37 u38 u39 u40 u41 u42 u43 u44 u45 u46 u47 u48 u49 u50 u51 u52 u53 u54 u55 u56 u57 u58 u59 u60 u61 u62 u63 u64 u65 u66 u67 u68 u69 u70 u71 u72 u73 u74 u75 u76 u77 u78 u79 u80 u81 u82 u83 u84 u85 u86 u87 u88 u89 u90 u91 u92 u93 u94 u95 u96 u97 u98 u99 u100 u101 u102 u103 u104 u105 u106 u107 u108 u109 u110 u111 u112 u113 u114 u115 u116 u117 u118 u119 u120 u121 u122 u123 u124 u125 u126 u127 u128 u129 u130 u131 u132 u133 u134 u135 u136 u137 u138 u139 u140 u141 u142 u143 u144 u145 u146 u147 u148 u149 u150 u151 u152 u153 u154 u155 u156 u157 u158 u159 u160 u161 u162 u163 u164 u165 u166 u167 u168 u169 u170 u171 u172 u173 u174 u175 u176 u177 u178 u179 u180 u181 u182 u183 u184 u185 u186 u187 u188 u189 u190 u191 u192 u193 u194 u195 u196 u197 u198 u199 u200 u201 u202 u203 u204 u205 u206 u207 u208 u209 u210 u211 u212 u213 u214 u215 u216 u217 u218 u219 u220 u221 u222 u223 u224 u225 u226 u227 u228 u229 u230 u231 u232 u233 u234 u235 u236 u237 u238 u239 u240 u241 u242 u243 u244 u245 u246 u247 u248 u249 u250 u251 u252 u253 u254 u255 u256 u257 u258 u259 u260 u261 u262 u263 u264 u265 u266 u267 u268 u269 u270 u271 u272 u273 u274 u275 u276 u277 u278 u279 u280 u281 u282 u283 u284 u285 u286 u287 u288 u289 u290 u291 u292 u293 u294 u295 u296 u297 u298 u299 u300 u301 u302 u303 u304 u305 u306 u307 u308 u309 u310 u311 u312 u313 u314 u315 u316 u317 u318 u319 u320 u321 u322 u323 u324 u325 u326 u327 u328 u329 u330 u331 u332 u333 u334 u335 u336 u337 u338 u339 u340 u341 u342 u343 u344 u345 u346 u347 u348 u349 u350 u351 u352 h10 h11 h13
          obtain rfl : u10 = _ := Option.some.inj h10
          obtain rfl : u11 = _ := Option.some.inj h11
          obtain rfl : u13 = _ := Option.some.inj h13
          clear h10 h11 h13 x1 y1
          have hol := HLN.out
          have hol2 : (own : Int) < (i : Int) := by omega
          have hol3 : (0 : Int) ≤ (own : Int) := Int.natCast_nonneg _
          go_wp2_with fail
          go_region_held3 (fun W => (W.cell? ⟨PA, 0, none⟩ = some (.slice (some ⟨b, off, none⟩) i lc) ∧ W.cell? ⟨PB, 0, none⟩ = some (.slice (some ⟨b', off', none⟩) i lc')) ∧ (W.cell? ⟨b, off + own * 6 + 2, none⟩ = some (.int .i64 lf) ∧ W.cell? ⟨b, off + own * 6 + 5, none⟩ = some (.int .i64 ep)) ∧ W.cell? ⟨b', off' + own * 6 + 2, none⟩ = some (.int .i64 lf) ∧ W.cell? ⟨b', off' + own * 6 + 5, none⟩ = some (.int .i64 ep)) (first | (with_reducible assumption) | exact ⟨⟨x0, y0⟩, ⟨x2, x5⟩, y2, y5⟩) (fail)
          go_wp2_with fail
          go_ret
          exact ⟨rfl, HB7.out.drew⟩
end Go.Proofs.Ytkgehbonijpdnaa
