/- QueueApart's round: others publish; retiring. -/
import Derived.Test.YtkgehbonijpdnaaUApL
import Derived.Test.YtkgehbonijpdnaaUPub
import Derived.Test.YtkgehbonijpdnaaUClaim
import Derived.Test.YtkgehbonijpdnaaURet
namespace Go.Proofs.Ytkgehbonijpdnaa
open Go.RowKit Go.Sort
set_option maxRecDepth 1000000

set_option maxHeartbeats 16000000 in
theorem ap_caseD {u0 u1 u3 u4 u5 u6 u7 u8 u9 u12 u14 u19 u20 u21 u22 u23 u24 u25 u26 u27 u28 u29 u30 u31 u32 u33 u34 u35 u36 u37 u38 u39 u40 u41 u42 u43 u44 u45 u46 u47 u48 u49 u50 u51 u52 u53 u54 u55 u56 u57 u58 u59 u60 u61 u62 u63 u64 u65 u66 u67 u68 u69 u70 u71 u72 u73 u74 u75 u76 u77 u78 u79 u80 u81 u82 u83 u84 u85 u86 u87 u88 u89 u90 u91 u92 u93 u94 u95 u96 u97 u98 u99 u100 u101 u102 u103 u104 u105 u106 u107 u108 u109 u110 u111 u112 u113 u114 u115 u116 u117 u118 u119 u120 u121 u122 u123 u124 u125 u126 u127 u128 u129 u130 u131 u132 u133 u134 u135 u136 u137 u138 u139 u140 u141 u142 u143 u144 u145 u146 u147 u148 u149 u150 u151 u152 u153 u154 u155 u156 u157 u158 u159 u160 u161 u162 u163 u164 u165 u166 u167 u168 u169 u170 u171 u172 u173 u174 u175 u176 u177 u178 u179 u180 u181 u182 u183 u184 u185 u186 u187 u188 u189 u190 u191 u192 u193 u194 u195 u196 u197 u198 u199 u200 u201 u202 u203 u204 u205 u206 u207 u208 u209 u210 u211 u212 u213 u214 u215 u216 u217 u218 u219 u220 u221 u222 u223 u224 u225 u226 u227 u228 u229 u230 u231 u232 u233 u234 u235 u236 u237 u238 u239 u240 u241 u242 u243 u244 u245 u246 u247 u248 u249 u250 u251 u252 u253 u254 u255 u256 u257 u258 u259 u260 u261 u262 u263 u264 u265 u266 u267 u268 u269 u270 u271 u272 u273 u274 u275 u276 u277 u278 u279 u280 u281 u282 u283 u284 u285 u286 u287 u288 u289 u290 u291 u292 u293 u294 u295 u296 u297 u298 u299 u300 u301 u302 u303 u304 u305 u306 u307 u308 u309 u310 u311 u312 u313 u314 u315 u316 u317 u318 u319 u320 u321 u322 u323 u324 u325 u326 u327 u328 u329 u330 u331 u332 u333 u334 u335 u336 u337 u338 u339 u340 u341 u342 u343 u344 u345 u346 u347 u348 u349 u350 u351 u352 : Value} {w wr : World} {ob oo on oc own PA PB n j nn : Nat} {ln x : Int} {Q0 : Exit → Act → World → Prop} {qla qma pla pma ma oa2 ta : Option Addr} {qln qlc qmn qmc pln plc2 pmn pmc mc oc2 tc : Nat} {A B : Qu} {VA VB : Nat → Value} {mn ot : List (Int × Int × Int)} {tk : List PMs}
    (hJ : AJ w wr PA PB (.slice qla qln qlc) (.slice qma qmn qmc) (.slice pla pln plc2) (.slice pma pmn pmc) (.slice ma mn.length mc) (.slice oa2 ot.length oc2) (.slice ta tk.length tc) A B VA VB mn ot tk) (hP0 : Ap A B mn ot tk n own j) (hf1 : j < on) (hf2 : j < 50)
    (y0 : wr.cell? ⟨ob, oo + j * 4, none⟩ = some (.int .i64 (2))) (y1 : wr.cell? ⟨ob, oo + j * 4 + 1, none⟩ = some (.int .i64 (ln))) (y2 : wr.cell? ⟨ob, oo + j * 4 + 2, none⟩ = some (.int .u8 (nn : Int))) (y3 : wr.cell? ⟨ob, oo + j * 4 + 3, none⟩ = some (.int .u64 x)) (hnn : nn < 256) (hot : 0 < ot.length) (hln : ln ≠ (own : Int)) (hQ0 : ∀ c a d v w, Q0 (.panic c) (Act.put a d v) w → Q0 (.panic c) a w) :
    Code.wp Try.prog ((((Try.f4.body.map uloops).getD [])[1]?).getD .skip) (Exit.then (fun a' w'' => AI w (some ⟨ob, oo, none⟩) on oc own PA PB n a' w'' ∧ amu on a' w'' < on - j) Q0) ⟨#[u0, u1, .slice (some ⟨ob, oo, none⟩) on oc, u3, u4, u5, u6, u7, u8, u9, .int .i64 (own : Int), .pointer (some ⟨PA, 0, none⟩), u12, .pointer (some ⟨PB, 0, none⟩), u14, .slice ma mn.length mc, .slice oa2 ot.length oc2, .slice ta tk.length tc, .int .i64 (j : Int), u19, u20, u21, u22, u23, u24, u25, u26, u27, u28, u29, u30, u31, u32, u33, u34, u35, u36, u37, u38, u39, u40, u41, u42, u43, u44, u45, u46, u47, u48, u49, u50, u51, u52, u53, u54, u55, u56, u57, u58, u59, u60, u61, u62, u63, u64, u65, u66, u67, u68, u69, u70, u71, u72, u73, u74, u75, u76, u77, u78, u79, u80, u81, u82, u83, u84, u85, u86, u87, u88, u89, u90, u91, u92, u93, u94, u95, u96, u97, u98, u99, u100, u101, u102, u103, u104, u105, u106, u107, u108, u109, u110, u111, u112, u113, u114, u115, u116, u117, u118, u119, u120, u121, u122, u123, u124, u125, u126, u127, u128, u129, u130, u131, u132, u133, u134, u135, u136, u137, u138, u139, u140, u141, u142, u143, u144, u145, u146, u147, u148, u149, u150, u151, u152, u153, u154, u155, u156, u157, u158, u159, u160, u161, u162, u163, u164, u165, u166, u167, u168, u169, u170, u171, u172, u173, u174, u175, u176, u177, u178, u179, u180, u181, u182, u183, u184, u185, u186, u187, u188, u189, u190, u191, u192, u193, u194, u195, u196, u197, u198, u199, u200, u201, u202, u203, u204, u205, u206, u207, u208, u209, u210, u211, u212, u213, u214, u215, u216, u217, u218, u219, u220, u221, u222, u223, u224, u225, u226, u227, u228, u229, u230, u231, u232, u233, u234, u235, u236, u237, u238, u239, u240, u241, u242, u243, u244, u245, u246, u247, u248, u249, u250, u251, u252, u253, u254, u255, u256, u257, u258, u259, u260, u261, u262, u263, u264, u265, u266, u267, u268, u269, u270, u271, u272, u273, u274, u275, u276, u277, u278, u279, u280, u281, u282, u283, u284, u285, u286, u287, u288, u289, u290, u291, u292, u293, u294, u295, u296, u297, u298, u299, u300, u301, u302, u303, u304, u305, u306, u307, u308, u309, u310, u311, u312, u313, u314, u315, u316, u317, u318, u319, u320, u321, u322, u323, u324, u325, u326, u327, u328, u329, u330, u331, u332, u333, u334, u335, u336, u337, u338, u339, u340, u341, u342, u343, u344, u345, u346, u347, u348, u349, u350, u351, u352], []⟩ wr := by
  have hP : Hid (Ap A B mn ot tk n own j) := hP0
  have hq00 := hQ0
  clear hq00
  have HJ2 : Hid (AJ w (wr.alloc (.cells #[.int .i64 2, .int .i64 ln, .int .u8 (nn : Int), .int .u64 x] 41)) PA PB (.slice qla qln qlc) (.slice qma qmn qmc) (.slice pla pln plc2) (.slice pma pmn pmc) (.slice ma mn.length mc) (.slice oa2 ot.length oc2) (.slice ta tk.length tc) A B VA VB mn ot tk) := hJ.grow (below_new _ _)
  have KO : Hid (Blk (wr.alloc (.cells #[.int .i64 2, .int .i64 ln, .int .u8 (nn : Int), .int .u64 x] 41)) wr.heap.size 41 [.int .i64 (2), .int .i64 (ln), .int .u8 (nn : Int), .int .u64 x]) := blk_new wr [.int .i64 (2), .int .i64 (ln), .int .u8 (nn : Int), .int .u64 x] 41
  have HLO : Hid (wr.heap.size ≠ PA ∧ wr.heap.size ≠ PB) := ⟨by have := hJ.ba.lt; omega, by have := hJ.bb.lt; omega⟩
  obtain ⟨z0, z1, z2, z3⟩ := KO.out.bx.four
  have zl := KO.out.lt
  have hlm : mn.length ≤ 50 := by have := hP0.nm; omega
  have hlo : ot.length ≤ 50 := by have := hP0.no; omega
  have hlt : tk.length ≤ 50 := by have := hP0.nt; omega
  have yl := cell_lt y0
  clear hJ hP0
  generalize hw2 : wr.alloc (.cells #[.int .i64 2, .int .i64 ln, .int .u8 (nn : Int), .int .u64 x] 41) = w2 at *
  obtain ⟨q0, q1⟩ := HJ2.out.ba.bx.two
  have q2 := HJ2.out.ba.lt
  obtain ⟨r0, r1⟩ := HJ2.out.bb.bx.two
  have r2 := HJ2.out.bb.lt
  conv => arg 2; whnf
  have hmod : (nn : Int).tmod (ot.length : Int) = ((nn % ot.length : Nat) : Int) := by rw [Int.tmod_eq_emod_of_nonneg (by omega)]; exact (Int.natCast_emod _ _).symm
  have hkl : nn % ot.length < ot.length := Nat.mod_lt _ (by omega)
  have hwi : IntKind.i64.wrap (nn : Int) = (nn : Int) := by rw [IntKind.wrap_i64]; omega
  obtain ⟨c, hc⟩ : ∃ c, ot[nn % ot.length]? = some c := ⟨_, List.getElem?_eq_getElem hkl⟩
  obtain ⟨bt, ot2, rfl, hbt, hbb, hcell⟩ := row_at clC3 3 (fun _ => rfl) (by decide) HJ2.out.ro hc
  have hne := hP.out.oth c (List.mem_of_getElem? hc)
  have HNE : Hid (c.1 ≠ (own : Int)) := hne
  obtain ⟨c0, c1, c2⟩ := c
  clear hne
  have hml : (0 : Int) < (ot.length : Int) := by omega
  have hmz : ¬ (ot.length : Int) = 0 := by omega
  have hmz2 : ¬ ot = [] := fun e => by rw [e] at hml; simp at hml
  have hmz3 : ((ot.length : Int) == 0) = false := by rw [beq_eq_false_iff_ne]; omega
  have hmz4 : ¬ ot.length = 0 := by omega
  generalize nn % ot.length = kk at *
  have hkl2 : (kk : Int) < (ot.length : Int) := by omega
  have hkn : ¬ (kk : Int) < 0 := Int.not_lt.2 (Int.natCast_nonneg _)
  have hk0 : (0 : Int) ≤ (kk : Int) := Int.natCast_nonneg _
  have hkg : ¬ (ot.length : Int) ≤ (kk : Int) := by omega
  have t0 : w2.cell? ⟨bt, ot2 + kk * 3 + 0, none⟩ = some (.int .i64 c0) := hcell 0 _ rfl
  have t1 : w2.cell? ⟨bt, ot2 + kk * 3 + 1, none⟩ = some (.int .i64 c1) := hcell 1 _ rfl
  have t2 : w2.cell? ⟨bt, ot2 + kk * 3 + 2, none⟩ = some (.int .i64 c2) := hcell 2 _ rfl
  have hbt2 : bt < w2.heap.size := hbt
  have toS : Hid (∀ W, Below w2.heap.size w2 W → (W.cell? ⟨PA, 0, none⟩ = some (.slice qla qln qlc) ∧ W.cell? ⟨PA, 1, none⟩ = some (.slice qma qmn qmc)) ∧ (W.cell? ⟨bt, ot2 + kk * 3, none⟩ = some (.int .i64 c0) ∧ W.cell? ⟨bt, ot2 + kk * 3 + 1, none⟩ = some (.int .i64 c1) ∧ W.cell? ⟨bt, ot2 + kk * 3 + 2, none⟩ = some (.int .i64 c2)) ∧ W.cell? ⟨wr.heap.size, 2, none⟩ = some (.int .u8 (nn : Int)) ∧ W.cell? ⟨wr.heap.size, 3, none⟩ = some (.int .u64 x)) := fun W hW =>
    ⟨(HJ2.out.ba.below hW).bx.two, ⟨(hW.cell (p := ⟨bt, ot2 + kk * 3 + 0, none⟩) hbt2).trans t0, (hW.cell (p := ⟨bt, ot2 + kk * 3 + 1, none⟩) hbt2).trans t1, (hW.cell (p := ⟨bt, ot2 + kk * 3 + 2, none⟩) hbt2).trans t2⟩, (KO.out.below hW).bx 2 _ rfl, (KO.out.below hW).bx 3 _ rfl⟩
  have HCP : Hid (∀ W, Below w2.heap.size w2 W → _) := fun W (hW : Below w2.heap.size w2 W) => publish_any _ _ A VA c0 c1 c2 x W (by have := hP.out.ma; omega) (hP.out.okqA (by omega)) (HJ2.out.qa.below hW)
  have D2 : Below w2.heap.size w2 w2.drew := (Below.refl _ _).drew
  have D3 : Below w2.heap.size w2 (w2.alloc (.cells #[.slice none 0 0, .slice none 0 0] 30)).drew := (below_new _ _).drew
  have D3s : w2.heap.size ≤ (w2.alloc (.cells #[.slice none 0 0, .slice none 0 0] 30)).drew.heap.size := D3.size
  have KB : Hid (Blk (w2.alloc (.cells #[.slice none 0 0, .slice none 0 0] 30)).drew w2.heap.size 30 [.slice none 0 0, .slice none 0 0]) := Blk.below (blk_new w2 [.slice none 0 0, .slice none 0 0] 30) ((Below.refl _ (w2.alloc (.cells #[.slice none 0 0, .slice none 0 0] 30))).drew)
  have HS : Hid (PA < w2.heap.size) := HJ2.out.ba.lt
  have hln1 : (ln == (own : Int)) = false := by simpa using hln
  clear hcell hc t0 t1 t2
  obtain ⟨⟨p0, p1⟩, ⟨s0, s1, s2⟩, p2, p3⟩ := toS.out _ (Below.refl _ w2)
  go_wp2_with fail
  go_region_held3 (fun W => (W.cell? ⟨PA, 0, none⟩ = some (.slice qla qln qlc) ∧ W.cell? ⟨PA, 1, none⟩ = some (.slice qma qmn qmc)) ∧ (W.cell? ⟨bt, ot2 + kk * 3, none⟩ = some (.int .i64 c0) ∧ W.cell? ⟨bt, ot2 + kk * 3 + 1, none⟩ = some (.int .i64 c1) ∧ W.cell? ⟨bt, ot2 + kk * 3 + 2, none⟩ = some (.int .i64 c2)) ∧ W.cell? ⟨wr.heap.size, 2, none⟩ = some (.int .u8 (nn : Int)) ∧ W.cell? ⟨wr.heap.size, 3, none⟩ = some (.int .u64 x)) (first | (with_reducible assumption) | exact toS.out _ (by assumption) | (refine toS.out _ ?_; exact Below.onto (by assumption) (below_new _ _)) | (refine toS.out _ ?_; exact Below.setCell (Below.setCell B5 (Nat.le_refl _) _) (Nat.le_refl _) _)) (first | (go_at_call 11; (with_reducible refine (HCP.out (w2.drew) D2).mono ?_); rintro e w5 ⟨sl, sm, V3, rfl, hq5, hb5, hn5⟩; have B5 : Below w2.heap.size w2 w5 := Below.onto D2 hb5; obtain ⟨sla, sln, slc, hsl⟩ := sl_form hq5.l; obtain ⟨sma, smn, smc, hsm⟩ := sl_form hq5.m; subst hsl; subst hsm) | (go_at_call 11; (with_reducible refine (HCP.out ((w2.alloc (.cells #[.slice none 0 0, .slice none 0 0] 30)).drew) D3).mono ?_); rintro e w5 ⟨sl, sm, V3, rfl, hq5, hb5, hn5⟩; have B5 : Below w2.heap.size w2 w5 := Below.onto D3 hb5; obtain ⟨sla, sln, slc, hsl⟩ := sl_form hq5.l; obtain ⟨sma, smn, smc, hsm⟩ := sl_form hq5.m; subst hsl; subst hsm; obtain ⟨v0, v1⟩ := (KB.out.below hb5).bx.two; have v2 := (KB.out.below hb5).fz; have v3 := (KB.out.below hb5).lt))
  all_goals clear toS HCP D2 D3 p0 p1 p2 p3 s0 s1 s2
  · have b6 : Below w5.heap.size w5 (w5.alloc (.cells #[.slice sla sln slc, .slice sma smn smc] 30)) := below_new _ _
    have J6 : Hid (AJ w (w5.alloc (.cells #[.slice sla sln slc, .slice sma smn smc] 30)) PA PB (.slice qla qln qlc) (.slice qma qmn qmc) (.slice pla pln plc2) (.slice pma pmn pmc) (.slice ma mn.length mc) (.slice (some ⟨bt, ot2, none⟩) ot.length oc2) (.slice ta tk.length tc) A B VA VB mn ot tk) := HJ2.out.grow (Below.onto B5 b6)
    have Q6 : Hid (QIs (w5.alloc (.cells #[.slice sla sln slc, .slice sma smn smc] 30)) (.slice sla sln slc) (.slice sma smn smc) (A.pbQ c0 c1 c2 x) V3) := hq5.below b6
    have SP : Hid (QSep (.slice sla sln slc) (.slice sma smn smc) (A.pbQ c0 c1 c2 x) V3 (.slice ma mn.length mc) ∧ QSep (.slice sla sln slc) (.slice sma smn smc) (A.pbQ c0 c1 c2 x) V3 (.slice (some ⟨bt, ot2, none⟩) ot.length oc2) ∧ QSep (.slice sla sln slc) (.slice sma smn smc) (A.pbQ c0 c1 c2 x) V3 (.slice ta tk.length tc)) := HJ2.out.sep hn5 (Nat.le_refl _)
    have K1 : Hid (Blk (w5.alloc (.cells #[.slice sla sln slc, .slice sma smn smc] 30)) w5.heap.size 30 [.slice sla sln slc, .slice sma smn smc]) := blk_new w5 [.slice sla sln slc, .slice sma smn smc] 30
    have hbx : ¬ w5.heap.size = PA := by have := HS.out; have := B5.size; omega
    clear b6
    clear HJ2 KO HLO KB hb5 hq5 hn5 B5 hbt hbt2 hbb
    generalize w5.alloc (.cells #[.slice sla sln slc, .slice sma smn smc] 30) = w6 at *
    generalize w5.heap.size = bx at *
    by_cases hE : A.pbE c0 c1 c2 = 0
    · have HE0 : Hid (A.pbE c0 c1 c2 = 0) := hE
      have hE1 : (A.pbE c0 c1 c2 == 0) = true := by simpa using hE
      have HP9 : Hid (Ap (A.pbQ c0 c1 c2 x) B mn ot tk n own (j + 1)) := hP.out.pub1 (x := x) HNE.out HE0.out
      have HJ9 : Hid _ := J6.out.storeA Q6.out SP.out
      obtain ⟨a0, a1⟩ := K1.out.bx.two
      obtain ⟨e0, e1⟩ := J6.out.ba.bx.two
      have e2 := J6.out.ba.fz
      have e3 := J6.out.ba.lt
      clear hE HS
      generalize A.pbE c0 c1 c2 = ee at hE1 ⊢
      go_wp2_with fail
      exact ⟨⟨_, rfl, rfl, rfl, rfl, rfl, rfl, _, _, _, _, _, _, _, _, _, _, _, _, _, _, j + 1, rfl, rfl, rfl, rfl, by omega, HJ9.out, HP9.out⟩, by simp [amu, intOf]; omega⟩
    · have hE1 : (A.pbE c0 c1 c2 == 0) = false := by simpa using hE
      clear HS
      generalize A.pbE c0 c1 c2 = ee at *
      go_wp2_with fail
      exact ⟨⟨_, rfl, rfl, rfl, rfl, rfl, rfl, _, _, _, _, _, _, _, _, _, _, _, _, _, _, j + 1, rfl, rfl, rfl, rfl, by omega, J6.out, hP.out.up⟩, by simp [amu, intOf]; omega⟩
  · have J6 : Hid (AJ w ((w5.setCell ⟨w2.heap.size, 0, none⟩ (.slice sla sln slc)).setCell ⟨w2.heap.size, 1, none⟩ (.slice sma smn smc)) PA PB (.slice qla qln qlc) (.slice qma qmn qmc) (.slice pla pln plc2) (.slice pma pmn pmc) (.slice ma mn.length mc) (.slice (some ⟨bt, ot2, none⟩) ot.length oc2) (.slice ta tk.length tc) A B VA VB mn ot tk) := HJ2.out.grow (Below.setCell (Below.setCell B5 (Nat.le_refl _) _) (Nat.le_refl _) _)
    have kb5 := KB.out.below hb5
    have Q6 : Hid (QIs ((w5.setCell ⟨w2.heap.size, 0, none⟩ (.slice sla sln slc)).setCell ⟨w2.heap.size, 1, none⟩ (.slice sma smn smc)) (.slice sla sln slc) (.slice sma smn smc) (A.pbQ c0 c1 c2 x) V3) := hq5.box kb5 (fun y hy => by simp at hy; subst hy; rfl) fun b hb => by rw [Below.heap_setCell _ _ _ _ hb, Below.heap_setCell _ _ _ _ hb]
    have SP : Hid (QSep (.slice sla sln slc) (.slice sma smn smc) (A.pbQ c0 c1 c2 x) V3 (.slice ma mn.length mc) ∧ QSep (.slice sla sln slc) (.slice sma smn smc) (A.pbQ c0 c1 c2 x) V3 (.slice (some ⟨bt, ot2, none⟩) ot.length oc2) ∧ QSep (.slice sla sln slc) (.slice sma smn smc) (A.pbQ c0 c1 c2 x) V3 (.slice ta tk.length tc)) := HJ2.out.sep hn5 D3s
    have K1 : Hid (Blk ((w5.setCell ⟨w2.heap.size, 0, none⟩ (.slice sla sln slc)).setCell ⟨w2.heap.size, 1, none⟩ (.slice sma smn smc)) w2.heap.size 30 [.slice sla sln slc, .slice sma smn smc]) := (kb5.set 0 _).set 1 _
    have hbx : ¬ w2.heap.size = PA := by have := HS.out; omega
    clear kb5 v0 v1 v2 v3
    clear HJ2 KO HLO KB hb5 hq5 hn5 B5 hbt hbt2 hbb
    generalize (w5.setCell ⟨w2.heap.size, 0, none⟩ (.slice sla sln slc)).setCell ⟨w2.heap.size, 1, none⟩ (.slice sma smn smc) = w6 at *
    generalize w2.heap.size = bx at *
    by_cases hE : A.pbE c0 c1 c2 = 0
    · have HE0 : Hid (A.pbE c0 c1 c2 = 0) := hE
      have hE1 : (A.pbE c0 c1 c2 == 0) = true := by simpa using hE
      have HP9 : Hid (Ap (A.pbQ c0 c1 c2 x) B mn ot tk n own (j + 1)) := hP.out.pub1 (x := x) HNE.out HE0.out
      have HJ9 : Hid _ := J6.out.storeA Q6.out SP.out
      obtain ⟨a0, a1⟩ := K1.out.bx.two
      obtain ⟨e0, e1⟩ := J6.out.ba.bx.two
      have e2 := J6.out.ba.fz
      have e3 := J6.out.ba.lt
      clear hE HS
      generalize A.pbE c0 c1 c2 = ee at hE1 ⊢
      go_wp2_with fail
      exact ⟨⟨_, rfl, rfl, rfl, rfl, rfl, rfl, _, _, _, _, _, _, _, _, _, _, _, _, _, _, j + 1, rfl, rfl, rfl, rfl, by omega, HJ9.out, HP9.out⟩, by simp [amu, intOf]; omega⟩
    · have hE1 : (A.pbE c0 c1 c2 == 0) = false := by simpa using hE
      clear HS
      generalize A.pbE c0 c1 c2 = ee at *
      go_wp2_with fail
      exact ⟨⟨_, rfl, rfl, rfl, rfl, rfl, rfl, _, _, _, _, _, _, _, _, _, _, _, _, _, _, j + 1, rfl, rfl, rfl, rfl, by omega, J6.out, hP.out.up⟩, by simp [amu, intOf]; omega⟩
set_option maxHeartbeats 16000000 in
theorem ap_caseD2 {u0 u1 u3 u4 u5 u6 u7 u8 u9 u12 u14 u19 u20 u21 u22 u23 u24 u25 u26 u27 u28 u29 u30 u31 u32 u33 u34 u35 u36 u37 u38 u39 u40 u41 u42 u43 u44 u45 u46 u47 u48 u49 u50 u51 u52 u53 u54 u55 u56 u57 u58 u59 u60 u61 u62 u63 u64 u65 u66 u67 u68 u69 u70 u71 u72 u73 u74 u75 u76 u77 u78 u79 u80 u81 u82 u83 u84 u85 u86 u87 u88 u89 u90 u91 u92 u93 u94 u95 u96 u97 u98 u99 u100 u101 u102 u103 u104 u105 u106 u107 u108 u109 u110 u111 u112 u113 u114 u115 u116 u117 u118 u119 u120 u121 u122 u123 u124 u125 u126 u127 u128 u129 u130 u131 u132 u133 u134 u135 u136 u137 u138 u139 u140 u141 u142 u143 u144 u145 u146 u147 u148 u149 u150 u151 u152 u153 u154 u155 u156 u157 u158 u159 u160 u161 u162 u163 u164 u165 u166 u167 u168 u169 u170 u171 u172 u173 u174 u175 u176 u177 u178 u179 u180 u181 u182 u183 u184 u185 u186 u187 u188 u189 u190 u191 u192 u193 u194 u195 u196 u197 u198 u199 u200 u201 u202 u203 u204 u205 u206 u207 u208 u209 u210 u211 u212 u213 u214 u215 u216 u217 u218 u219 u220 u221 u222 u223 u224 u225 u226 u227 u228 u229 u230 u231 u232 u233 u234 u235 u236 u237 u238 u239 u240 u241 u242 u243 u244 u245 u246 u247 u248 u249 u250 u251 u252 u253 u254 u255 u256 u257 u258 u259 u260 u261 u262 u263 u264 u265 u266 u267 u268 u269 u270 u271 u272 u273 u274 u275 u276 u277 u278 u279 u280 u281 u282 u283 u284 u285 u286 u287 u288 u289 u290 u291 u292 u293 u294 u295 u296 u297 u298 u299 u300 u301 u302 u303 u304 u305 u306 u307 u308 u309 u310 u311 u312 u313 u314 u315 u316 u317 u318 u319 u320 u321 u322 u323 u324 u325 u326 u327 u328 u329 u330 u331 u332 u333 u334 u335 u336 u337 u338 u339 u340 u341 u342 u343 u344 u345 u346 u347 u348 u349 u350 u351 u352 : Value} {w wr : World} {ob oo on oc own PA PB n j nn : Nat} {x : Int} {Q0 : Exit → Act → World → Prop} {qla qma pla pma ma oa2 ta : Option Addr} {qln qlc qmn qmc pln plc2 pmn pmc mc oc2 tc : Nat} {A B : Qu} {VA VB : Nat → Value} {mn ot : List (Int × Int × Int)} {tk : List PMs}
    (hJ : AJ w wr PA PB (.slice qla qln qlc) (.slice qma qmn qmc) (.slice pla pln plc2) (.slice pma pmn pmc) (.slice ma mn.length mc) (.slice oa2 ot.length oc2) (.slice ta tk.length tc) A B VA VB mn ot tk) (hP0 : Ap A B mn ot tk n own j) (hf1 : j < on) (hf2 : j < 50)
    (y0 : wr.cell? ⟨ob, oo + j * 4, none⟩ = some (.int .i64 (2))) (y1 : wr.cell? ⟨ob, oo + j * 4 + 1, none⟩ = some (.int .i64 ((own : Int)))) (y2 : wr.cell? ⟨ob, oo + j * 4 + 2, none⟩ = some (.int .u8 (nn : Int))) (y3 : wr.cell? ⟨ob, oo + j * 4 + 3, none⟩ = some (.int .u64 x)) (hnn : nn < 256) (hot : 0 < ot.length) (hm0 : mn.length = 0) (hQ0 : ∀ c a d v w, Q0 (.panic c) (Act.put a d v) w → Q0 (.panic c) a w) :
    Code.wp Try.prog ((((Try.f4.body.map uloops).getD [])[1]?).getD .skip) (Exit.then (fun a' w'' => AI w (some ⟨ob, oo, none⟩) on oc own PA PB n a' w'' ∧ amu on a' w'' < on - j) Q0) ⟨#[u0, u1, .slice (some ⟨ob, oo, none⟩) on oc, u3, u4, u5, u6, u7, u8, u9, .int .i64 (own : Int), .pointer (some ⟨PA, 0, none⟩), u12, .pointer (some ⟨PB, 0, none⟩), u14, .slice ma mn.length mc, .slice oa2 ot.length oc2, .slice ta tk.length tc, .int .i64 (j : Int), u19, u20, u21, u22, u23, u24, u25, u26, u27, u28, u29, u30, u31, u32, u33, u34, u35, u36, u37, u38, u39, u40, u41, u42, u43, u44, u45, u46, u47, u48, u49, u50, u51, u52, u53, u54, u55, u56, u57, u58, u59, u60, u61, u62, u63, u64, u65, u66, u67, u68, u69, u70, u71, u72, u73, u74, u75, u76, u77, u78, u79, u80, u81, u82, u83, u84, u85, u86, u87, u88, u89, u90, u91, u92, u93, u94, u95, u96, u97, u98, u99, u100, u101, u102, u103, u104, u105, u106, u107, u108, u109, u110, u111, u112, u113, u114, u115, u116, u117, u118, u119, u120, u121, u122, u123, u124, u125, u126, u127, u128, u129, u130, u131, u132, u133, u134, u135, u136, u137, u138, u139, u140, u141, u142, u143, u144, u145, u146, u147, u148, u149, u150, u151, u152, u153, u154, u155, u156, u157, u158, u159, u160, u161, u162, u163, u164, u165, u166, u167, u168, u169, u170, u171, u172, u173, u174, u175, u176, u177, u178, u179, u180, u181, u182, u183, u184, u185, u186, u187, u188, u189, u190, u191, u192, u193, u194, u195, u196, u197, u198, u199, u200, u201, u202, u203, u204, u205, u206, u207, u208, u209, u210, u211, u212, u213, u214, u215, u216, u217, u218, u219, u220, u221, u222, u223, u224, u225, u226, u227, u228, u229, u230, u231, u232, u233, u234, u235, u236, u237, u238, u239, u240, u241, u242, u243, u244, u245, u246, u247, u248, u249, u250, u251, u252, u253, u254, u255, u256, u257, u258, u259, u260, u261, u262, u263, u264, u265, u266, u267, u268, u269, u270, u271, u272, u273, u274, u275, u276, u277, u278, u279, u280, u281, u282, u283, u284, u285, u286, u287, u288, u289, u290, u291, u292, u293, u294, u295, u296, u297, u298, u299, u300, u301, u302, u303, u304, u305, u306, u307, u308, u309, u310, u311, u312, u313, u314, u315, u316, u317, u318, u319, u320, u321, u322, u323, u324, u325, u326, u327, u328, u329, u330, u331, u332, u333, u334, u335, u336, u337, u338, u339, u340, u341, u342, u343, u344, u345, u346, u347, u348, u349, u350, u351, u352], []⟩ wr := by
  have hP : Hid (Ap A B mn ot tk n own j) := hP0
  have hq00 := hQ0
  clear hq00
  have HJ2 : Hid (AJ w (wr.alloc (.cells #[.int .i64 2, .int .i64 (own : Int), .int .u8 (nn : Int), .int .u64 x] 41)) PA PB (.slice qla qln qlc) (.slice qma qmn qmc) (.slice pla pln plc2) (.slice pma pmn pmc) (.slice ma mn.length mc) (.slice oa2 ot.length oc2) (.slice ta tk.length tc) A B VA VB mn ot tk) := hJ.grow (below_new _ _)
  have KO : Hid (Blk (wr.alloc (.cells #[.int .i64 2, .int .i64 (own : Int), .int .u8 (nn : Int), .int .u64 x] 41)) wr.heap.size 41 [.int .i64 (2), .int .i64 ((own : Int)), .int .u8 (nn : Int), .int .u64 x]) := blk_new wr [.int .i64 (2), .int .i64 ((own : Int)), .int .u8 (nn : Int), .int .u64 x] 41
  have HLO : Hid (wr.heap.size ≠ PA ∧ wr.heap.size ≠ PB) := ⟨by have := hJ.ba.lt; omega, by have := hJ.bb.lt; omega⟩
  obtain ⟨z0, z1, z2, z3⟩ := KO.out.bx.four
  have zl := KO.out.lt
  have hlm : mn.length ≤ 50 := by have := hP0.nm; omega
  have hlo : ot.length ≤ 50 := by have := hP0.no; omega
  have hlt : tk.length ≤ 50 := by have := hP0.nt; omega
  have yl := cell_lt y0
  clear hJ hP0
  generalize hw2 : wr.alloc (.cells #[.int .i64 2, .int .i64 (own : Int), .int .u8 (nn : Int), .int .u64 x] 41) = w2 at *
  obtain ⟨q0, q1⟩ := HJ2.out.ba.bx.two
  have q2 := HJ2.out.ba.lt
  obtain ⟨r0, r1⟩ := HJ2.out.bb.bx.two
  have r2 := HJ2.out.bb.lt
  conv => arg 2; whnf
  have hmod : (nn : Int).tmod (ot.length : Int) = ((nn % ot.length : Nat) : Int) := by rw [Int.tmod_eq_emod_of_nonneg (by omega)]; exact (Int.natCast_emod _ _).symm
  have hkl : nn % ot.length < ot.length := Nat.mod_lt _ (by omega)
  have hwi : IntKind.i64.wrap (nn : Int) = (nn : Int) := by rw [IntKind.wrap_i64]; omega
  obtain ⟨c, hc⟩ : ∃ c, ot[nn % ot.length]? = some c := ⟨_, List.getElem?_eq_getElem hkl⟩
  obtain ⟨bt, ot2, rfl, hbt, hbb, hcell⟩ := row_at clC3 3 (fun _ => rfl) (by decide) HJ2.out.ro hc
  have hne := hP.out.oth c (List.mem_of_getElem? hc)
  have HNE : Hid (c.1 ≠ (own : Int)) := hne
  obtain ⟨c0, c1, c2⟩ := c
  clear hne
  have hml : (0 : Int) < (ot.length : Int) := by omega
  have hmz : ¬ (ot.length : Int) = 0 := by omega
  have hmz2 : ¬ ot = [] := fun e => by rw [e] at hml; simp at hml
  have hmz3 : ((ot.length : Int) == 0) = false := by rw [beq_eq_false_iff_ne]; omega
  have hmz4 : ¬ ot.length = 0 := by omega
  generalize nn % ot.length = kk at *
  have hkl2 : (kk : Int) < (ot.length : Int) := by omega
  have hkn : ¬ (kk : Int) < 0 := Int.not_lt.2 (Int.natCast_nonneg _)
  have hk0 : (0 : Int) ≤ (kk : Int) := Int.natCast_nonneg _
  have hkg : ¬ (ot.length : Int) ≤ (kk : Int) := by omega
  have t0 : w2.cell? ⟨bt, ot2 + kk * 3 + 0, none⟩ = some (.int .i64 c0) := hcell 0 _ rfl
  have t1 : w2.cell? ⟨bt, ot2 + kk * 3 + 1, none⟩ = some (.int .i64 c1) := hcell 1 _ rfl
  have t2 : w2.cell? ⟨bt, ot2 + kk * 3 + 2, none⟩ = some (.int .i64 c2) := hcell 2 _ rfl
  have hbt2 : bt < w2.heap.size := hbt
  have toS : Hid (∀ W, Below w2.heap.size w2 W → (W.cell? ⟨PA, 0, none⟩ = some (.slice qla qln qlc) ∧ W.cell? ⟨PA, 1, none⟩ = some (.slice qma qmn qmc)) ∧ (W.cell? ⟨bt, ot2 + kk * 3, none⟩ = some (.int .i64 c0) ∧ W.cell? ⟨bt, ot2 + kk * 3 + 1, none⟩ = some (.int .i64 c1) ∧ W.cell? ⟨bt, ot2 + kk * 3 + 2, none⟩ = some (.int .i64 c2)) ∧ W.cell? ⟨wr.heap.size, 2, none⟩ = some (.int .u8 (nn : Int)) ∧ W.cell? ⟨wr.heap.size, 3, none⟩ = some (.int .u64 x)) := fun W hW =>
    ⟨(HJ2.out.ba.below hW).bx.two, ⟨(hW.cell (p := ⟨bt, ot2 + kk * 3 + 0, none⟩) hbt2).trans t0, (hW.cell (p := ⟨bt, ot2 + kk * 3 + 1, none⟩) hbt2).trans t1, (hW.cell (p := ⟨bt, ot2 + kk * 3 + 2, none⟩) hbt2).trans t2⟩, (KO.out.below hW).bx 2 _ rfl, (KO.out.below hW).bx 3 _ rfl⟩
  have HCP : Hid (∀ W, Below w2.heap.size w2 W → _) := fun W (hW : Below w2.heap.size w2 W) => publish_any _ _ A VA c0 c1 c2 x W (by have := hP.out.ma; omega) (hP.out.okqA (by omega)) (HJ2.out.qa.below hW)
  have D2 : Below w2.heap.size w2 w2.drew := (Below.refl _ _).drew
  have D3 : Below w2.heap.size w2 (w2.alloc (.cells #[.slice none 0 0, .slice none 0 0] 30)).drew := (below_new _ _).drew
  have D3s : w2.heap.size ≤ (w2.alloc (.cells #[.slice none 0 0, .slice none 0 0] 30)).drew.heap.size := D3.size
  have KB : Hid (Blk (w2.alloc (.cells #[.slice none 0 0, .slice none 0 0] 30)).drew w2.heap.size 30 [.slice none 0 0, .slice none 0 0]) := Blk.below (blk_new w2 [.slice none 0 0, .slice none 0 0] 30) ((Below.refl _ (w2.alloc (.cells #[.slice none 0 0, .slice none 0 0] 30))).drew)
  have HS : Hid (PA < w2.heap.size) := HJ2.out.ba.lt
  have hm1 : ¬ (0 : Int) < (mn.length : Int) := by omega
  clear hm0
  clear hcell hc t0 t1 t2
  obtain ⟨⟨p0, p1⟩, ⟨s0, s1, s2⟩, p2, p3⟩ := toS.out _ (Below.refl _ w2)
  go_wp2_with fail
  go_region_held3 (fun W => (W.cell? ⟨PA, 0, none⟩ = some (.slice qla qln qlc) ∧ W.cell? ⟨PA, 1, none⟩ = some (.slice qma qmn qmc)) ∧ (W.cell? ⟨bt, ot2 + kk * 3, none⟩ = some (.int .i64 c0) ∧ W.cell? ⟨bt, ot2 + kk * 3 + 1, none⟩ = some (.int .i64 c1) ∧ W.cell? ⟨bt, ot2 + kk * 3 + 2, none⟩ = some (.int .i64 c2)) ∧ W.cell? ⟨wr.heap.size, 2, none⟩ = some (.int .u8 (nn : Int)) ∧ W.cell? ⟨wr.heap.size, 3, none⟩ = some (.int .u64 x)) (first | (with_reducible assumption) | exact toS.out _ (by assumption) | (refine toS.out _ ?_; exact Below.onto (by assumption) (below_new _ _)) | (refine toS.out _ ?_; exact Below.setCell (Below.setCell B5 (Nat.le_refl _) _) (Nat.le_refl _) _)) (first | (go_at_call 11; (with_reducible refine (HCP.out (w2.drew) D2).mono ?_); rintro e w5 ⟨sl, sm, V3, rfl, hq5, hb5, hn5⟩; have B5 : Below w2.heap.size w2 w5 := Below.onto D2 hb5; obtain ⟨sla, sln, slc, hsl⟩ := sl_form hq5.l; obtain ⟨sma, smn, smc, hsm⟩ := sl_form hq5.m; subst hsl; subst hsm) | (go_at_call 11; (with_reducible refine (HCP.out ((w2.alloc (.cells #[.slice none 0 0, .slice none 0 0] 30)).drew) D3).mono ?_); rintro e w5 ⟨sl, sm, V3, rfl, hq5, hb5, hn5⟩; have B5 : Below w2.heap.size w2 w5 := Below.onto D3 hb5; obtain ⟨sla, sln, slc, hsl⟩ := sl_form hq5.l; obtain ⟨sma, smn, smc, hsm⟩ := sl_form hq5.m; subst hsl; subst hsm; obtain ⟨v0, v1⟩ := (KB.out.below hb5).bx.two; have v2 := (KB.out.below hb5).fz; have v3 := (KB.out.below hb5).lt))
  all_goals clear toS HCP D2 D3 p0 p1 p2 p3 s0 s1 s2
  · have b6 : Below w5.heap.size w5 (w5.alloc (.cells #[.slice sla sln slc, .slice sma smn smc] 30)) := below_new _ _
    have J6 : Hid (AJ w (w5.alloc (.cells #[.slice sla sln slc, .slice sma smn smc] 30)) PA PB (.slice qla qln qlc) (.slice qma qmn qmc) (.slice pla pln plc2) (.slice pma pmn pmc) (.slice ma mn.length mc) (.slice (some ⟨bt, ot2, none⟩) ot.length oc2) (.slice ta tk.length tc) A B VA VB mn ot tk) := HJ2.out.grow (Below.onto B5 b6)
    have Q6 : Hid (QIs (w5.alloc (.cells #[.slice sla sln slc, .slice sma smn smc] 30)) (.slice sla sln slc) (.slice sma smn smc) (A.pbQ c0 c1 c2 x) V3) := hq5.below b6
    have SP : Hid (QSep (.slice sla sln slc) (.slice sma smn smc) (A.pbQ c0 c1 c2 x) V3 (.slice ma mn.length mc) ∧ QSep (.slice sla sln slc) (.slice sma smn smc) (A.pbQ c0 c1 c2 x) V3 (.slice (some ⟨bt, ot2, none⟩) ot.length oc2) ∧ QSep (.slice sla sln slc) (.slice sma smn smc) (A.pbQ c0 c1 c2 x) V3 (.slice ta tk.length tc)) := HJ2.out.sep hn5 (Nat.le_refl _)
    have K1 : Hid (Blk (w5.alloc (.cells #[.slice sla sln slc, .slice sma smn smc] 30)) w5.heap.size 30 [.slice sla sln slc, .slice sma smn smc]) := blk_new w5 [.slice sla sln slc, .slice sma smn smc] 30
    have hbx : ¬ w5.heap.size = PA := by have := HS.out; have := B5.size; omega
    clear b6
    clear HJ2 KO HLO KB hb5 hq5 hn5 B5 hbt hbt2 hbb
    generalize w5.alloc (.cells #[.slice sla sln slc, .slice sma smn smc] 30) = w6 at *
    generalize w5.heap.size = bx at *
    by_cases hE : A.pbE c0 c1 c2 = 0
    · have HE0 : Hid (A.pbE c0 c1 c2 = 0) := hE
      have hE1 : (A.pbE c0 c1 c2 == 0) = true := by simpa using hE
      have HP9 : Hid (Ap (A.pbQ c0 c1 c2 x) B mn ot tk n own (j + 1)) := hP.out.pub1 (x := x) HNE.out HE0.out
      have HJ9 : Hid _ := J6.out.storeA Q6.out SP.out
      obtain ⟨a0, a1⟩ := K1.out.bx.two
      obtain ⟨e0, e1⟩ := J6.out.ba.bx.two
      have e2 := J6.out.ba.fz
      have e3 := J6.out.ba.lt
      clear hE HS
      generalize A.pbE c0 c1 c2 = ee at hE1 ⊢
      go_wp2_with fail
      exact ⟨⟨_, rfl, rfl, rfl, rfl, rfl, rfl, _, _, _, _, _, _, _, _, _, _, _, _, _, _, j + 1, rfl, rfl, rfl, rfl, by omega, HJ9.out, HP9.out⟩, by simp [amu, intOf]; omega⟩
    · have hE1 : (A.pbE c0 c1 c2 == 0) = false := by simpa using hE
      clear HS
      generalize A.pbE c0 c1 c2 = ee at *
      go_wp2_with fail
      exact ⟨⟨_, rfl, rfl, rfl, rfl, rfl, rfl, _, _, _, _, _, _, _, _, _, _, _, _, _, _, j + 1, rfl, rfl, rfl, rfl, by omega, J6.out, hP.out.up⟩, by simp [amu, intOf]; omega⟩
  · have J6 : Hid (AJ w ((w5.setCell ⟨w2.heap.size, 0, none⟩ (.slice sla sln slc)).setCell ⟨w2.heap.size, 1, none⟩ (.slice sma smn smc)) PA PB (.slice qla qln qlc) (.slice qma qmn qmc) (.slice pla pln plc2) (.slice pma pmn pmc) (.slice ma mn.length mc) (.slice (some ⟨bt, ot2, none⟩) ot.length oc2) (.slice ta tk.length tc) A B VA VB mn ot tk) := HJ2.out.grow (Below.setCell (Below.setCell B5 (Nat.le_refl _) _) (Nat.le_refl _) _)
    have kb5 := KB.out.below hb5
    have Q6 : Hid (QIs ((w5.setCell ⟨w2.heap.size, 0, none⟩ (.slice sla sln slc)).setCell ⟨w2.heap.size, 1, none⟩ (.slice sma smn smc)) (.slice sla sln slc) (.slice sma smn smc) (A.pbQ c0 c1 c2 x) V3) := hq5.box kb5 (fun y hy => by simp at hy; subst hy; rfl) fun b hb => by rw [Below.heap_setCell _ _ _ _ hb, Below.heap_setCell _ _ _ _ hb]
    have SP : Hid (QSep (.slice sla sln slc) (.slice sma smn smc) (A.pbQ c0 c1 c2 x) V3 (.slice ma mn.length mc) ∧ QSep (.slice sla sln slc) (.slice sma smn smc) (A.pbQ c0 c1 c2 x) V3 (.slice (some ⟨bt, ot2, none⟩) ot.length oc2) ∧ QSep (.slice sla sln slc) (.slice sma smn smc) (A.pbQ c0 c1 c2 x) V3 (.slice ta tk.length tc)) := HJ2.out.sep hn5 D3s
    have K1 : Hid (Blk ((w5.setCell ⟨w2.heap.size, 0, none⟩ (.slice sla sln slc)).setCell ⟨w2.heap.size, 1, none⟩ (.slice sma smn smc)) w2.heap.size 30 [.slice sla sln slc, .slice sma smn smc]) := (kb5.set 0 _).set 1 _
    have hbx : ¬ w2.heap.size = PA := by have := HS.out; omega
    clear kb5 v0 v1 v2 v3
    clear HJ2 KO HLO KB hb5 hq5 hn5 B5 hbt hbt2 hbb
    generalize (w5.setCell ⟨w2.heap.size, 0, none⟩ (.slice sla sln slc)).setCell ⟨w2.heap.size, 1, none⟩ (.slice sma smn smc) = w6 at *
    generalize w2.heap.size = bx at *
    by_cases hE : A.pbE c0 c1 c2 = 0
    · have HE0 : Hid (A.pbE c0 c1 c2 = 0) := hE
      have hE1 : (A.pbE c0 c1 c2 == 0) = true := by simpa using hE
      have HP9 : Hid (Ap (A.pbQ c0 c1 c2 x) B mn ot tk n own (j + 1)) := hP.out.pub1 (x := x) HNE.out HE0.out
      have HJ9 : Hid _ := J6.out.storeA Q6.out SP.out
      obtain ⟨a0, a1⟩ := K1.out.bx.two
      obtain ⟨e0, e1⟩ := J6.out.ba.bx.two
      have e2 := J6.out.ba.fz
      have e3 := J6.out.ba.lt
      clear hE HS
      generalize A.pbE c0 c1 c2 = ee at hE1 ⊢
      go_wp2_with fail
      exact ⟨⟨_, rfl, rfl, rfl, rfl, rfl, rfl, _, _, _, _, _, _, _, _, _, _, _, _, _, _, j + 1, rfl, rfl, rfl, rfl, by omega, HJ9.out, HP9.out⟩, by simp [amu, intOf]; omega⟩
    · have hE1 : (A.pbE c0 c1 c2 == 0) = false := by simpa using hE
      clear HS
      generalize A.pbE c0 c1 c2 = ee at *
      go_wp2_with fail
      exact ⟨⟨_, rfl, rfl, rfl, rfl, rfl, rfl, _, _, _, _, _, _, _, _, _, _, _, _, _, _, j + 1, rfl, rfl, rfl, rfl, by omega, J6.out, hP.out.up⟩, by simp [amu, intOf]; omega⟩
set_option maxHeartbeats 16000000 in
theorem ap_caseG {u0 u1 u3 u4 u5 u6 u7 u8 u9 u12 u14 u19 u20 u21 u22 u23 u24 u25 u26 u27 u28 u29 u30 u31 u32 u33 u34 u35 u36 u37 u38 u39 u40 u41 u42 u43 u44 u45 u46 u47 u48 u49 u50 u51 u52 u53 u54 u55 u56 u57 u58 u59 u60 u61 u62 u63 u64 u65 u66 u67 u68 u69 u70 u71 u72 u73 u74 u75 u76 u77 u78 u79 u80 u81 u82 u83 u84 u85 u86 u87 u88 u89 u90 u91 u92 u93 u94 u95 u96 u97 u98 u99 u100 u101 u102 u103 u104 u105 u106 u107 u108 u109 u110 u111 u112 u113 u114 u115 u116 u117 u118 u119 u120 u121 u122 u123 u124 u125 u126 u127 u128 u129 u130 u131 u132 u133 u134 u135 u136 u137 u138 u139 u140 u141 u142 u143 u144 u145 u146 u147 u148 u149 u150 u151 u152 u153 u154 u155 u156 u157 u158 u159 u160 u161 u162 u163 u164 u165 u166 u167 u168 u169 u170 u171 u172 u173 u174 u175 u176 u177 u178 u179 u180 u181 u182 u183 u184 u185 u186 u187 u188 u189 u190 u191 u192 u193 u194 u195 u196 u197 u198 u199 u200 u201 u202 u203 u204 u205 u206 u207 u208 u209 u210 u211 u212 u213 u214 u215 u216 u217 u218 u219 u220 u221 u222 u223 u224 u225 u226 u227 u228 u229 u230 u231 u232 u233 u234 u235 u236 u237 u238 u239 u240 u241 u242 u243 u244 u245 u246 u247 u248 u249 u250 u251 u252 u253 u254 u255 u256 u257 u258 u259 u260 u261 u262 u263 u264 u265 u266 u267 u268 u269 u270 u271 u272 u273 u274 u275 u276 u277 u278 u279 u280 u281 u282 u283 u284 u285 u286 u287 u288 u289 u290 u291 u292 u293 u294 u295 u296 u297 u298 u299 u300 u301 u302 u303 u304 u305 u306 u307 u308 u309 u310 u311 u312 u313 u314 u315 u316 u317 u318 u319 u320 u321 u322 u323 u324 u325 u326 u327 u328 u329 u330 u331 u332 u333 u334 u335 u336 u337 u338 u339 u340 u341 u342 u343 u344 u345 u346 u347 u348 u349 u350 u351 u352 : Value} {w wr : World} {ob oo on oc own PA PB n j nn : Nat} {ln x : Int} {Q0 : Exit → Act → World → Prop} {qla qma pla pma ma oa2 ta : Option Addr} {qln qlc qmn qmc pln plc2 pmn pmc mc oc2 tc : Nat} {A B : Qu} {VA VB : Nat → Value} {mn ot : List (Int × Int × Int)} {tk : List PMs}
    (hJ : AJ w wr PA PB (.slice qla qln qlc) (.slice qma qmn qmc) (.slice pla pln plc2) (.slice pma pmn pmc) (.slice ma mn.length mc) (.slice oa2 ot.length oc2) (.slice ta tk.length tc) A B VA VB mn ot tk) (hP0 : Ap A B mn ot tk n own j) (hf1 : j < on) (hf2 : j < 50)
    (y0 : wr.cell? ⟨ob, oo + j * 4, none⟩ = some (.int .i64 (4))) (y1 : wr.cell? ⟨ob, oo + j * 4 + 1, none⟩ = some (.int .i64 (ln))) (y2 : wr.cell? ⟨ob, oo + j * 4 + 2, none⟩ = some (.int .u8 (nn : Int))) (y3 : wr.cell? ⟨ob, oo + j * 4 + 3, none⟩ = some (.int .u64 x)) (hnn : nn < 256) (htk : 0 < tk.length) (hQ0 : ∀ c a d v w, Q0 (.panic c) (Act.put a d v) w → Q0 (.panic c) a w) :
    Code.wp Try.prog ((((Try.f4.body.map uloops).getD [])[1]?).getD .skip) (Exit.then (fun a' w'' => AI w (some ⟨ob, oo, none⟩) on oc own PA PB n a' w'' ∧ amu on a' w'' < on - j) Q0) ⟨#[u0, u1, .slice (some ⟨ob, oo, none⟩) on oc, u3, u4, u5, u6, u7, u8, u9, .int .i64 (own : Int), .pointer (some ⟨PA, 0, none⟩), u12, .pointer (some ⟨PB, 0, none⟩), u14, .slice ma mn.length mc, .slice oa2 ot.length oc2, .slice ta tk.length tc, .int .i64 (j : Int), u19, u20, u21, u22, u23, u24, u25, u26, u27, u28, u29, u30, u31, u32, u33, u34, u35, u36, u37, u38, u39, u40, u41, u42, u43, u44, u45, u46, u47, u48, u49, u50, u51, u52, u53, u54, u55, u56, u57, u58, u59, u60, u61, u62, u63, u64, u65, u66, u67, u68, u69, u70, u71, u72, u73, u74, u75, u76, u77, u78, u79, u80, u81, u82, u83, u84, u85, u86, u87, u88, u89, u90, u91, u92, u93, u94, u95, u96, u97, u98, u99, u100, u101, u102, u103, u104, u105, u106, u107, u108, u109, u110, u111, u112, u113, u114, u115, u116, u117, u118, u119, u120, u121, u122, u123, u124, u125, u126, u127, u128, u129, u130, u131, u132, u133, u134, u135, u136, u137, u138, u139, u140, u141, u142, u143, u144, u145, u146, u147, u148, u149, u150, u151, u152, u153, u154, u155, u156, u157, u158, u159, u160, u161, u162, u163, u164, u165, u166, u167, u168, u169, u170, u171, u172, u173, u174, u175, u176, u177, u178, u179, u180, u181, u182, u183, u184, u185, u186, u187, u188, u189, u190, u191, u192, u193, u194, u195, u196, u197, u198, u199, u200, u201, u202, u203, u204, u205, u206, u207, u208, u209, u210, u211, u212, u213, u214, u215, u216, u217, u218, u219, u220, u221, u222, u223, u224, u225, u226, u227, u228, u229, u230, u231, u232, u233, u234, u235, u236, u237, u238, u239, u240, u241, u242, u243, u244, u245, u246, u247, u248, u249, u250, u251, u252, u253, u254, u255, u256, u257, u258, u259, u260, u261, u262, u263, u264, u265, u266, u267, u268, u269, u270, u271, u272, u273, u274, u275, u276, u277, u278, u279, u280, u281, u282, u283, u284, u285, u286, u287, u288, u289, u290, u291, u292, u293, u294, u295, u296, u297, u298, u299, u300, u301, u302, u303, u304, u305, u306, u307, u308, u309, u310, u311, u312, u313, u314, u315, u316, u317, u318, u319, u320, u321, u322, u323, u324, u325, u326, u327, u328, u329, u330, u331, u332, u333, u334, u335, u336, u337, u338, u339, u340, u341, u342, u343, u344, u345, u346, u347, u348, u349, u350, u351, u352], []⟩ wr := by
  have hP : Hid (Ap A B mn ot tk n own j) := hP0
  have hq00 := hQ0
  clear hq00
  have HJ2 : Hid (AJ w (wr.alloc (.cells #[.int .i64 4, .int .i64 ln, .int .u8 (nn : Int), .int .u64 x] 41)) PA PB (.slice qla qln qlc) (.slice qma qmn qmc) (.slice pla pln plc2) (.slice pma pmn pmc) (.slice ma mn.length mc) (.slice oa2 ot.length oc2) (.slice ta tk.length tc) A B VA VB mn ot tk) := hJ.grow (below_new _ _)
  have KO : Hid (Blk (wr.alloc (.cells #[.int .i64 4, .int .i64 ln, .int .u8 (nn : Int), .int .u64 x] 41)) wr.heap.size 41 [.int .i64 (4), .int .i64 (ln), .int .u8 (nn : Int), .int .u64 x]) := blk_new wr [.int .i64 (4), .int .i64 (ln), .int .u8 (nn : Int), .int .u64 x] 41
  have HLO : Hid (wr.heap.size ≠ PA ∧ wr.heap.size ≠ PB) := ⟨by have := hJ.ba.lt; omega, by have := hJ.bb.lt; omega⟩
  obtain ⟨z0, z1, z2, z3⟩ := KO.out.bx.four
  have zl := KO.out.lt
  have hlm : mn.length ≤ 50 := by have := hP0.nm; omega
  have hlo : ot.length ≤ 50 := by have := hP0.no; omega
  have hlt : tk.length ≤ 50 := by have := hP0.nt; omega
  have yl := cell_lt y0
  clear hJ hP0
  generalize hw2 : wr.alloc (.cells #[.int .i64 4, .int .i64 ln, .int .u8 (nn : Int), .int .u64 x] 41) = w2 at *
  obtain ⟨q0, q1⟩ := HJ2.out.ba.bx.two
  have q2 := HJ2.out.ba.lt
  obtain ⟨r0, r1⟩ := HJ2.out.bb.bx.two
  have r2 := HJ2.out.bb.lt
  conv => arg 2; whnf
  have hmod : (nn : Int).tmod (tk.length : Int) = ((nn % tk.length : Nat) : Int) := by rw [Int.tmod_eq_emod_of_nonneg (by omega)]; exact (Int.natCast_emod _ _).symm
  have hkl : nn % tk.length < tk.length := Nat.mod_lt _ (by omega)
  have hwi : IntKind.i64.wrap (nn : Int) = (nn : Int) := by rw [IntKind.wrap_i64]; omega
  obtain ⟨c, hc⟩ : ∃ c, tk[nn % tk.length]? = some c := ⟨_, List.getElem?_eq_getElem hkl⟩
  obtain ⟨bt, ot2, rfl, hbt, hbb, hcell⟩ := row_at msC4 4 (fun _ => rfl) (by decide) HJ2.out.rt hc
  obtain ⟨c0, c1, c2, c3⟩ := c
  have hml : (0 : Int) < (tk.length : Int) := by omega
  have hmz : ¬ (tk.length : Int) = 0 := by omega
  have hmz2 : ¬ tk = [] := fun e => by rw [e] at hml; simp at hml
  have hmz3 : ((tk.length : Int) == 0) = false := by rw [beq_eq_false_iff_ne]; omega
  have hmz4 : ¬ tk.length = 0 := by omega
  generalize nn % tk.length = kk at *
  have hkl2 : (kk : Int) < (tk.length : Int) := by omega
  have hkn : ¬ (kk : Int) < 0 := Int.not_lt.2 (Int.natCast_nonneg _)
  have hk0 : (0 : Int) ≤ (kk : Int) := Int.natCast_nonneg _
  have hkg : ¬ (tk.length : Int) ≤ (kk : Int) := by omega
  have t0 : w2.cell? ⟨bt, ot2 + kk * 4 + 0, none⟩ = some (.int .i64 c0) := hcell 0 _ rfl
  have t1 : w2.cell? ⟨bt, ot2 + kk * 4 + 1, none⟩ = some (.int .i64 c1) := hcell 1 _ rfl
  have t2 : w2.cell? ⟨bt, ot2 + kk * 4 + 2, none⟩ = some (.int .i64 c2) := hcell 2 _ rfl
  have t3 : w2.cell? ⟨bt, ot2 + kk * 4 + 3, none⟩ = some (.int .u64 c3) := hcell 3 _ rfl
  have hbt2 : bt < w2.heap.size := hbt
  have toS : Hid (∀ W, Below w2.heap.size w2 W → (W.cell? ⟨PA, 0, none⟩ = some (.slice qla qln qlc) ∧ W.cell? ⟨PA, 1, none⟩ = some (.slice qma qmn qmc)) ∧ (W.cell? ⟨bt, ot2 + kk * 4, none⟩ = some (.int .i64 c0) ∧ W.cell? ⟨bt, ot2 + kk * 4 + 1, none⟩ = some (.int .i64 c1) ∧ W.cell? ⟨bt, ot2 + kk * 4 + 2, none⟩ = some (.int .i64 c2) ∧ W.cell? ⟨bt, ot2 + kk * 4 + 3, none⟩ = some (.int .u64 c3)) ∧ W.cell? ⟨wr.heap.size, 2, none⟩ = some (.int .u8 (nn : Int)) ∧ W.cell? ⟨wr.heap.size, 3, none⟩ = some (.int .u64 x)) := fun W hW =>
    ⟨(HJ2.out.ba.below hW).bx.two, ⟨(hW.cell (p := ⟨bt, ot2 + kk * 4 + 0, none⟩) hbt2).trans t0, (hW.cell (p := ⟨bt, ot2 + kk * 4 + 1, none⟩) hbt2).trans t1, (hW.cell (p := ⟨bt, ot2 + kk * 4 + 2, none⟩) hbt2).trans t2, (hW.cell (p := ⟨bt, ot2 + kk * 4 + 3, none⟩) hbt2).trans t3⟩, (KO.out.below hW).bx 2 _ rfl, (KO.out.below hW).bx 3 _ rfl⟩
  have HCP : Hid (∀ W, Below w2.heap.size w2 W → _) := fun W (hW : Below w2.heap.size w2 W) => retire_any _ _ A VA c0 c1 c2 c3 W (hP.out.okqA (by omega)) (HJ2.out.qa.below hW)
  have D2 : Below w2.heap.size w2 w2.drew := (Below.refl _ _).drew
  have D3 : Below w2.heap.size w2 (w2.alloc (.cells #[.slice none 0 0, .slice none 0 0] 30)).drew := (below_new _ _).drew
  have D3s : w2.heap.size ≤ (w2.alloc (.cells #[.slice none 0 0, .slice none 0 0] 30)).drew.heap.size := D3.size
  have KB : Hid (Blk (w2.alloc (.cells #[.slice none 0 0, .slice none 0 0] 30)).drew w2.heap.size 30 [.slice none 0 0, .slice none 0 0]) := Blk.below (blk_new w2 [.slice none 0 0, .slice none 0 0] 30) ((Below.refl _ (w2.alloc (.cells #[.slice none 0 0, .slice none 0 0] 30))).drew)
  have HS : Hid (PA < w2.heap.size) := HJ2.out.ba.lt
  clear hcell hc t0 t1 t2 t3
  obtain ⟨⟨p0, p1⟩, ⟨s0, s1, s2, s3⟩, p2, p3⟩ := toS.out _ (Below.refl _ w2)
  go_wp2_with fail
  go_region_held3 (fun W => (W.cell? ⟨PA, 0, none⟩ = some (.slice qla qln qlc) ∧ W.cell? ⟨PA, 1, none⟩ = some (.slice qma qmn qmc)) ∧ (W.cell? ⟨bt, ot2 + kk * 4, none⟩ = some (.int .i64 c0) ∧ W.cell? ⟨bt, ot2 + kk * 4 + 1, none⟩ = some (.int .i64 c1) ∧ W.cell? ⟨bt, ot2 + kk * 4 + 2, none⟩ = some (.int .i64 c2) ∧ W.cell? ⟨bt, ot2 + kk * 4 + 3, none⟩ = some (.int .u64 c3)) ∧ W.cell? ⟨wr.heap.size, 2, none⟩ = some (.int .u8 (nn : Int)) ∧ W.cell? ⟨wr.heap.size, 3, none⟩ = some (.int .u64 x)) (first | (with_reducible assumption) | exact toS.out _ (by assumption) | (refine toS.out _ ?_; exact Below.onto (by assumption) (below_new _ _)) | (refine toS.out _ ?_; exact Below.setCell (Below.setCell B5 (Nat.le_refl _) _) (Nat.le_refl _) _)) (first | (go_at_call 15; (with_reducible refine (HCP.out (w2.drew) D2).mono ?_); rintro e w5 ⟨sl, sm, V3, rfl, hq5, hb5, hn5⟩; have B5 : Below w2.heap.size w2 w5 := Below.onto D2 hb5; obtain ⟨sla, sln, slc, hsl⟩ := sl_form hq5.l; obtain ⟨sma, smn, smc, hsm⟩ := sl_form hq5.m; subst hsl; subst hsm) | (go_at_call 15; (with_reducible refine (HCP.out ((w2.alloc (.cells #[.slice none 0 0, .slice none 0 0] 30)).drew) D3).mono ?_); rintro e w5 ⟨sl, sm, V3, rfl, hq5, hb5, hn5⟩; have B5 : Below w2.heap.size w2 w5 := Below.onto D3 hb5; obtain ⟨sla, sln, slc, hsl⟩ := sl_form hq5.l; obtain ⟨sma, smn, smc, hsm⟩ := sl_form hq5.m; subst hsl; subst hsm; obtain ⟨v0, v1⟩ := (KB.out.below hb5).bx.two; have v2 := (KB.out.below hb5).fz; have v3 := (KB.out.below hb5).lt))
  all_goals clear toS HCP D2 D3 p0 p1 p2 p3 s0 s1 s2 s3
  · have b6 : Below w5.heap.size w5 (w5.alloc (.cells #[.slice sla sln slc, .slice sma smn smc] 30)) := below_new _ _
    have J6 : Hid (AJ w (w5.alloc (.cells #[.slice sla sln slc, .slice sma smn smc] 30)) PA PB (.slice qla qln qlc) (.slice qma qmn qmc) (.slice pla pln plc2) (.slice pma pmn pmc) (.slice ma mn.length mc) (.slice oa2 ot.length oc2) (.slice (some ⟨bt, ot2, none⟩) tk.length tc) A B VA VB mn ot tk) := HJ2.out.grow (Below.onto B5 b6)
    have Q6 : Hid (QIs (w5.alloc (.cells #[.slice sla sln slc, .slice sma smn smc] 30)) (.slice sla sln slc) (.slice sma smn smc) (A.rtQ c0 c1) V3) := hq5.below b6
    have SP : Hid (QSep (.slice sla sln slc) (.slice sma smn smc) (A.rtQ c0 c1) V3 (.slice ma mn.length mc) ∧ QSep (.slice sla sln slc) (.slice sma smn smc) (A.rtQ c0 c1) V3 (.slice oa2 ot.length oc2) ∧ QSep (.slice sla sln slc) (.slice sma smn smc) (A.rtQ c0 c1) V3 (.slice (some ⟨bt, ot2, none⟩) tk.length tc)) := HJ2.out.sep hn5 (Nat.le_refl _)
    have K1 : Hid (Blk (w5.alloc (.cells #[.slice sla sln slc, .slice sma smn smc] 30)) w5.heap.size 30 [.slice sla sln slc, .slice sma smn smc]) := blk_new w5 [.slice sla sln slc, .slice sma smn smc] 30
    have hbx : ¬ w5.heap.size = PA := by have := HS.out; have := B5.size; omega
    clear b6
    clear HJ2 KO HLO KB hb5 hq5 hn5 B5 hbt hbt2 hbb
    generalize w5.alloc (.cells #[.slice sla sln slc, .slice sma smn smc] 30) = w6 at *
    generalize w5.heap.size = bx at *
    by_cases hE : A.rtE c0 c1 = 0
    · have HE0 : Hid (A.rtE c0 c1 = 0) := hE
      have hE1 : (A.rtE c0 c1 == 0) = true := by simpa using hE
      have HP9 : Hid (Ap (A.rtQ c0 c1) B mn ot tk n own (j + 1)) := (by have e := hP.out.ret1 HE0.out; rw [e]; exact hP.out.up)
      have HJ9 : Hid _ := J6.out.storeA Q6.out SP.out
      obtain ⟨a0, a1⟩ := K1.out.bx.two
      obtain ⟨e0, e1⟩ := J6.out.ba.bx.two
      have e2 := J6.out.ba.fz
      have e3 := J6.out.ba.lt
      clear hE HS
      generalize A.rtE c0 c1 = ee at hE1 ⊢
      go_wp2_with fail
      exact ⟨⟨_, rfl, rfl, rfl, rfl, rfl, rfl, _, _, _, _, _, _, _, _, _, _, _, _, _, _, j + 1, rfl, rfl, rfl, rfl, by omega, HJ9.out, HP9.out⟩, by simp [amu, intOf]; omega⟩
    · have hE1 : (A.rtE c0 c1 == 0) = false := by simpa using hE
      clear HS
      generalize A.rtE c0 c1 = ee at *
      go_wp2_with fail
      exact ⟨⟨_, rfl, rfl, rfl, rfl, rfl, rfl, _, _, _, _, _, _, _, _, _, _, _, _, _, _, j + 1, rfl, rfl, rfl, rfl, by omega, J6.out, hP.out.up⟩, by simp [amu, intOf]; omega⟩
  · have J6 : Hid (AJ w ((w5.setCell ⟨w2.heap.size, 0, none⟩ (.slice sla sln slc)).setCell ⟨w2.heap.size, 1, none⟩ (.slice sma smn smc)) PA PB (.slice qla qln qlc) (.slice qma qmn qmc) (.slice pla pln plc2) (.slice pma pmn pmc) (.slice ma mn.length mc) (.slice oa2 ot.length oc2) (.slice (some ⟨bt, ot2, none⟩) tk.length tc) A B VA VB mn ot tk) := HJ2.out.grow (Below.setCell (Below.setCell B5 (Nat.le_refl _) _) (Nat.le_refl _) _)
    have kb5 := KB.out.below hb5
    have Q6 : Hid (QIs ((w5.setCell ⟨w2.heap.size, 0, none⟩ (.slice sla sln slc)).setCell ⟨w2.heap.size, 1, none⟩ (.slice sma smn smc)) (.slice sla sln slc) (.slice sma smn smc) (A.rtQ c0 c1) V3) := hq5.box kb5 (fun y hy => by simp at hy; subst hy; rfl) fun b hb => by rw [Below.heap_setCell _ _ _ _ hb, Below.heap_setCell _ _ _ _ hb]
    have SP : Hid (QSep (.slice sla sln slc) (.slice sma smn smc) (A.rtQ c0 c1) V3 (.slice ma mn.length mc) ∧ QSep (.slice sla sln slc) (.slice sma smn smc) (A.rtQ c0 c1) V3 (.slice oa2 ot.length oc2) ∧ QSep (.slice sla sln slc) (.slice sma smn smc) (A.rtQ c0 c1) V3 (.slice (some ⟨bt, ot2, none⟩) tk.length tc)) := HJ2.out.sep hn5 D3s
    have K1 : Hid (Blk ((w5.setCell ⟨w2.heap.size, 0, none⟩ (.slice sla sln slc)).setCell ⟨w2.heap.size, 1, none⟩ (.slice sma smn smc)) w2.heap.size 30 [.slice sla sln slc, .slice sma smn smc]) := (kb5.set 0 _).set 1 _
    have hbx : ¬ w2.heap.size = PA := by have := HS.out; omega
    clear kb5 v0 v1 v2 v3
    clear HJ2 KO HLO KB hb5 hq5 hn5 B5 hbt hbt2 hbb
    generalize (w5.setCell ⟨w2.heap.size, 0, none⟩ (.slice sla sln slc)).setCell ⟨w2.heap.size, 1, none⟩ (.slice sma smn smc) = w6 at *
    generalize w2.heap.size = bx at *
    by_cases hE : A.rtE c0 c1 = 0
    · have HE0 : Hid (A.rtE c0 c1 = 0) := hE
      have hE1 : (A.rtE c0 c1 == 0) = true := by simpa using hE
      have HP9 : Hid (Ap (A.rtQ c0 c1) B mn ot tk n own (j + 1)) := (by have e := hP.out.ret1 HE0.out; rw [e]; exact hP.out.up)
      have HJ9 : Hid _ := J6.out.storeA Q6.out SP.out
      obtain ⟨a0, a1⟩ := K1.out.bx.two
      obtain ⟨e0, e1⟩ := J6.out.ba.bx.two
      have e2 := J6.out.ba.fz
      have e3 := J6.out.ba.lt
      clear hE HS
      generalize A.rtE c0 c1 = ee at hE1 ⊢
      go_wp2_with fail
      exact ⟨⟨_, rfl, rfl, rfl, rfl, rfl, rfl, _, _, _, _, _, _, _, _, _, _, _, _, _, _, j + 1, rfl, rfl, rfl, rfl, by omega, HJ9.out, HP9.out⟩, by simp [amu, intOf]; omega⟩
    · have hE1 : (A.rtE c0 c1 == 0) = false := by simpa using hE
      clear HS
      generalize A.rtE c0 c1 = ee at *
      go_wp2_with fail
      exact ⟨⟨_, rfl, rfl, rfl, rfl, rfl, rfl, _, _, _, _, _, _, _, _, _, _, _, _, _, _, j + 1, rfl, rfl, rfl, rfl, by omega, J6.out, hP.out.up⟩, by simp [amu, intOf]; omega⟩
end Go.Proofs.Ytkgehbonijpdnaa
