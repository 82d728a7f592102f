/- QueueApart's round: claims and takes. -/
import Derived.Test.YtkgehbonijpdnaaUApL
import Derived.Test.YtkgehbonijpdnaaUClaim
import Derived.Test.YtkgehbonijpdnaaUTake
namespace Go.Proofs.Ytkgehbonijpdnaa
open Go.RowKit Go.Sort
set_option maxRecDepth 1000000

set_option maxHeartbeats 16000000 in
theorem ap_caseA {u0 u1 u3 u4 u5 u6 u7 u8 u9 u12 u14 u19 u20 u21 u22 u23 u24 u25 u26 u27 u28 u29 u30 u31 u32 u33 u34 u35 u36 u37 u38 u39 u40 u41 u42 u43 u44 u45 u46 u47 u48 u49 u50 u51 u52 u53 u54 u55 u56 u57 u58 u59 u60 u61 u62 u63 u64 u65 u66 u67 u68 u69 u70 u71 u72 u73 u74 u75 u76 u77 u78 u79 u80 u81 u82 u83 u84 u85 u86 u87 u88 u89 u90 u91 u92 u93 u94 u95 u96 u97 u98 u99 u100 u101 u102 u103 u104 u105 u106 u107 u108 u109 u110 u111 u112 u113 u114 u115 u116 u117 u118 u119 u120 u121 u122 u123 u124 u125 u126 u127 u128 u129 u130 u131 u132 u133 u134 u135 u136 u137 u138 u139 u140 u141 u142 u143 u144 u145 u146 u147 u148 u149 u150 u151 u152 u153 u154 u155 u156 u157 u158 u159 u160 u161 u162 u163 u164 u165 u166 u167 u168 u169 u170 u171 u172 u173 u174 u175 u176 u177 u178 u179 u180 u181 u182 u183 u184 u185 u186 u187 u188 u189 u190 u191 u192 u193 u194 u195 u196 u197 u198 u199 u200 u201 u202 u203 u204 u205 u206 u207 u208 u209 u210 u211 u212 u213 u214 u215 u216 u217 u218 u219 u220 u221 u222 u223 u224 u225 u226 u227 u228 u229 u230 u231 u232 u233 u234 u235 u236 u237 u238 u239 u240 u241 u242 u243 u244 u245 u246 u247 u248 u249 u250 u251 u252 u253 u254 u255 u256 u257 u258 u259 u260 u261 u262 u263 u264 u265 u266 u267 u268 u269 u270 u271 u272 u273 u274 u275 u276 u277 u278 u279 u280 u281 u282 u283 u284 u285 u286 u287 u288 u289 u290 u291 u292 u293 u294 u295 u296 u297 u298 u299 u300 u301 u302 u303 u304 u305 u306 u307 u308 u309 u310 u311 u312 u313 u314 u315 u316 u317 u318 u319 u320 u321 u322 u323 u324 u325 u326 u327 u328 u329 u330 u331 u332 u333 u334 u335 u336 u337 u338 u339 u340 u341 u342 u343 u344 u345 u346 u347 u348 u349 u350 u351 u352 : Value} {w wr : World} {ob oo on oc own PA PB n j nn : Nat} {x : Int} {Q0 : Exit → Act → World → Prop} {qla qma pla pma ma oa2 ta : Option Addr} {qln qlc qmn qmc pln plc2 pmn pmc mc oc2 tc : Nat} {A B : Qu} {VA VB : Nat → Value} {mn ot : List (Int × Int × Int)} {tk : List PMs}
    (hJ : AJ w wr PA PB (.slice qla qln qlc) (.slice qma qmn qmc) (.slice pla pln plc2) (.slice pma pmn pmc) (.slice ma mn.length mc) (.slice oa2 ot.length oc2) (.slice ta tk.length tc) A B VA VB mn ot tk) (hP0 : Ap A B mn ot tk n own j) (hf1 : j < on) (hf2 : j < 50)
    (y0 : wr.cell? ⟨ob, oo + j * 4, none⟩ = some (.int .i64 (1))) (y1 : wr.cell? ⟨ob, oo + j * 4 + 1, none⟩ = some (.int .i64 ((own : Int)))) (y2 : wr.cell? ⟨ob, oo + j * 4 + 2, none⟩ = some (.int .u8 (nn : Int))) (y3 : wr.cell? ⟨ob, oo + j * 4 + 3, none⟩ = some (.int .u64 x))  (hQ0 : ∀ c a d v w, Q0 (.panic c) (Act.put a d v) w → Q0 (.panic c) a w) :
    Code.wp Try.prog ((((Try.f4.body.map uloops).getD [])[1]?).getD .skip) (Exit.then (fun a' w'' => AI w (some ⟨ob, oo, none⟩) on oc own PA PB n a' w'' ∧ amu on a' w'' < on - j) Q0) ⟨#[u0, u1, .slice (some ⟨ob, oo, none⟩) on oc, u3, u4, u5, u6, u7, u8, u9, .int .i64 (own : Int), .pointer (some ⟨PA, 0, none⟩), u12, .pointer (some ⟨PB, 0, none⟩), u14, .slice ma mn.length mc, .slice oa2 ot.length oc2, .slice ta tk.length tc, .int .i64 (j : Int), u19, u20, u21, u22, u23, u24, u25, u26, u27, u28, u29, u30, u31, u32, u33, u34, u35, u36, u37, u38, u39, u40, u41, u42, u43, u44, u45, u46, u47, u48, u49, u50, u51, u52, u53, u54, u55, u56, u57, u58, u59, u60, u61, u62, u63, u64, u65, u66, u67, u68, u69, u70, u71, u72, u73, u74, u75, u76, u77, u78, u79, u80, u81, u82, u83, u84, u85, u86, u87, u88, u89, u90, u91, u92, u93, u94, u95, u96, u97, u98, u99, u100, u101, u102, u103, u104, u105, u106, u107, u108, u109, u110, u111, u112, u113, u114, u115, u116, u117, u118, u119, u120, u121, u122, u123, u124, u125, u126, u127, u128, u129, u130, u131, u132, u133, u134, u135, u136, u137, u138, u139, u140, u141, u142, u143, u144, u145, u146, u147, u148, u149, u150, u151, u152, u153, u154, u155, u156, u157, u158, u159, u160, u161, u162, u163, u164, u165, u166, u167, u168, u169, u170, u171, u172, u173, u174, u175, u176, u177, u178, u179, u180, u181, u182, u183, u184, u185, u186, u187, u188, u189, u190, u191, u192, u193, u194, u195, u196, u197, u198, u199, u200, u201, u202, u203, u204, u205, u206, u207, u208, u209, u210, u211, u212, u213, u214, u215, u216, u217, u218, u219, u220, u221, u222, u223, u224, u225, u226, u227, u228, u229, u230, u231, u232, u233, u234, u235, u236, u237, u238, u239, u240, u241, u242, u243, u244, u245, u246, u247, u248, u249, u250, u251, u252, u253, u254, u255, u256, u257, u258, u259, u260, u261, u262, u263, u264, u265, u266, u267, u268, u269, u270, u271, u272, u273, u274, u275, u276, u277, u278, u279, u280, u281, u282, u283, u284, u285, u286, u287, u288, u289, u290, u291, u292, u293, u294, u295, u296, u297, u298, u299, u300, u301, u302, u303, u304, u305, u306, u307, u308, u309, u310, u311, u312, u313, u314, u315, u316, u317, u318, u319, u320, u321, u322, u323, u324, u325, u326, u327, u328, u329, u330, u331, u332, u333, u334, u335, u336, u337, u338, u339, u340, u341, u342, u343, u344, u345, u346, u347, u348, u349, u350, u351, u352], []⟩ wr := by
  have hP : Hid (Ap A B mn ot tk n own j) := hP0
  have hq00 := hQ0
  clear hq00
  have HJ2 : Hid (AJ w (wr.alloc (.cells #[.int .i64 1, .int .i64 (own : Int), .int .u8 (nn : Int), .int .u64 x] 41)) PA PB (.slice qla qln qlc) (.slice qma qmn qmc) (.slice pla pln plc2) (.slice pma pmn pmc) (.slice ma mn.length mc) (.slice oa2 ot.length oc2) (.slice ta tk.length tc) A B VA VB mn ot tk) := hJ.grow (below_new _ _)
  have KO : Hid (Blk (wr.alloc (.cells #[.int .i64 1, .int .i64 (own : Int), .int .u8 (nn : Int), .int .u64 x] 41)) wr.heap.size 41 [.int .i64 (1), .int .i64 ((own : Int)), .int .u8 (nn : Int), .int .u64 x]) := blk_new wr [.int .i64 (1), .int .i64 ((own : Int)), .int .u8 (nn : Int), .int .u64 x] 41
  have HLO : Hid (wr.heap.size ≠ PA ∧ wr.heap.size ≠ PB) := ⟨by have := hJ.ba.lt; omega, by have := hJ.bb.lt; omega⟩
  obtain ⟨z0, z1, z2, z3⟩ := KO.out.bx.four
  have zl := KO.out.lt
  have hlm : mn.length ≤ 50 := by have := hP0.nm; omega
  have hlo : ot.length ≤ 50 := by have := hP0.no; omega
  have hlt : tk.length ≤ 50 := by have := hP0.nt; omega
  have yl := cell_lt y0
  clear hJ hP0
  generalize hw2 : wr.alloc (.cells #[.int .i64 1, .int .i64 (own : Int), .int .u8 (nn : Int), .int .u64 x] 41) = w2 at *
  obtain ⟨q0, q1⟩ := HJ2.out.ba.bx.two
  have q2 := HJ2.out.ba.lt
  obtain ⟨r0, r1⟩ := HJ2.out.bb.bx.two
  have r2 := HJ2.out.bb.lt
  conv => arg 2; whnf
  go_wp2_with fail
  refine (claim_any _ _ A VA (own : Int) _ (hP.out.okqA (by omega)) HJ2.out.qa).mono ?_
  rintro e w3 ⟨sl, sm, V3, rfl, hq3, hb3, hn3⟩
  obtain ⟨sla, sln, slc, rfl⟩ := sl_form hq3.l
  obtain ⟨sma, smn, smc, rfl⟩ := sl_form hq3.m
  obtain ⟨k1, k2, b4, s4⟩ := alloc2 w3 [.slice sla sln slc, .slice sma smn smc] 30 [.int .i64 (A.clC (own : Int)).1, .int .i64 (A.clC (own : Int)).2.1, .int .i64 (A.clC (own : Int)).2.2] 47
  have J3 : Hid (AJ w w3 PA PB (.slice qla qln qlc) (.slice qma qmn qmc) (.slice pla pln plc2) (.slice pma pmn pmc) (.slice ma mn.length mc) (.slice oa2 ot.length oc2) (.slice ta tk.length tc) A B VA VB mn ot tk) := HJ2.out.grow hb3
  have J4 : Hid (AJ w ((w3.alloc (.cells #[.slice sla sln slc, .slice sma smn smc] 30)).alloc (.cells #[.int .i64 (A.clC (own : Int)).1, .int .i64 (A.clC (own : Int)).2.1, .int .i64 (A.clC (own : Int)).2.2] 47)) PA PB (.slice qla qln qlc) (.slice qma qmn qmc) (.slice pla pln plc2) (.slice pma pmn pmc) (.slice ma mn.length mc) (.slice oa2 ot.length oc2) (.slice ta tk.length tc) A B VA VB mn ot tk) := J3.out.grow b4
  have Q4 : Hid (QIs ((w3.alloc (.cells #[.slice sla sln slc, .slice sma smn smc] 30)).alloc (.cells #[.int .i64 (A.clC (own : Int)).1, .int .i64 (A.clC (own : Int)).2.1, .int .i64 (A.clC (own : Int)).2.2] 47)) _ _ (A.clQ (own : Int)) V3) := hq3.below b4
  have SP : Hid (QSep (.slice sla sln slc) (.slice sma smn smc) (A.clQ (own : Int)) V3 (.slice ma mn.length mc) ∧ QSep (.slice sla sln slc) (.slice sma smn smc) (A.clQ (own : Int)) V3 (.slice oa2 ot.length oc2) ∧ QSep (.slice sla sln slc) (.slice sma smn smc) (A.clQ (own : Int)) V3 (.slice ta tk.length tc)) := HJ2.out.sep hn3 (Nat.le_refl _)
  have K1 : Hid (Blk ((w3.alloc (.cells #[.slice sla sln slc, .slice sma smn smc] 30)).alloc (.cells #[.int .i64 (A.clC (own : Int)).1, .int .i64 (A.clC (own : Int)).2.1, .int .i64 (A.clC (own : Int)).2.2] 47)) _ _ _) := k1
  have K2 : Hid (Blk ((w3.alloc (.cells #[.slice sla sln slc, .slice sma smn smc] 30)).alloc (.cells #[.int .i64 (A.clC (own : Int)).1, .int .i64 (A.clC (own : Int)).2.1, .int .i64 (A.clC (own : Int)).2.2] 47)) _ _ _) := k2
  have HS3 : Hid (PA < w3.heap.size ∧ PB < w3.heap.size ∧ ∀ b, (Value.slice ma mn.length mc).ownBlock = some b → b < w3.heap.size) := ⟨J3.out.ba.lt, J3.out.bb.lt, fun b e => own_lt J3.out.rm e⟩
  have c2 := claim_any _ _ B VB (own : Int) _ (hP.out.okqB (by omega)) J4.out.qb
  rw [← hP.out.clE, ← hP.out.clC] at c2
  have HE : Hid (A.clE (own : Int) = A.clE (own : Int)) := rfl
  obtain ⟨r0', r1'⟩ := J4.out.bb.bx.two
  have r2' := J4.out.bb.lt
  have HW4 : Hid (((w3.alloc (.cells #[.slice sla sln slc, .slice sma smn smc] 30)).alloc (.cells #[.int .i64 (A.clC (own : Int)).1, .int .i64 (A.clC (own : Int)).2.1, .int .i64 (A.clC (own : Int)).2.2] 47)).heap.size = w3.heap.size + 1 + 1) := s4
  clear k1 k2 b4 s4 hb3 hq3 hn3 z0 z1 z2 z3 zl y0 y1 y2 y3 yl q0 q1 q2 r0 r1 r2 hw2
  generalize hee : A.clE (own : Int) = ee at *
  generalize hw4 : (w3.alloc (.cells #[.slice sla sln slc, .slice sma smn smc] 30)).alloc (.cells #[.int .i64 (A.clC (own : Int)).1, .int .i64 (A.clC (own : Int)).2.1, .int .i64 (A.clC (own : Int)).2.2] 47) = w4 at *
  go_wp2_with fail
  clear r0' r1' r2'
  refine c2.mono ?_
  rintro e w5 ⟨vl, vm', V5, rfl, hq5, hb5, hn5⟩
  obtain ⟨vla, vln, vlc, rfl⟩ := sl_form hq5.l
  obtain ⟨vma, vmn, vmc, rfl⟩ := sl_form hq5.m
  obtain ⟨k1, k2, b6, s6⟩ := alloc2 w5 [.slice vla vln vlc, .slice vma vmn vmc] 30 [.int .i64 (A.clC (own : Int)).1, .int .i64 (A.clC (own : Int)).2.1, .int .i64 (A.clC (own : Int)).2.2] 47
  have J6 : Hid (AJ w ((w5.alloc (.cells #[.slice vla vln vlc, .slice vma vmn vmc] 30)).alloc (.cells #[.int .i64 (A.clC (own : Int)).1, .int .i64 (A.clC (own : Int)).2.1, .int .i64 (A.clC (own : Int)).2.2] 47)) PA PB (.slice qla qln qlc) (.slice qma qmn qmc) (.slice pla pln plc2) (.slice pma pmn pmc) (.slice ma mn.length mc) (.slice oa2 ot.length oc2) (.slice ta tk.length tc) A B VA VB mn ot tk) := (J4.out.grow hb5).grow b6
  have QA6 : Hid (QIs ((w5.alloc (.cells #[.slice vla vln vlc, .slice vma vmn vmc] 30)).alloc (.cells #[.int .i64 (A.clC (own : Int)).1, .int .i64 (A.clC (own : Int)).2.1, .int .i64 (A.clC (own : Int)).2.2] 47)) _ _ (A.clQ (own : Int)) V3) := (Q4.out.below hb5).below b6
  have QB6 : Hid (QIs ((w5.alloc (.cells #[.slice vla vln vlc, .slice vma vmn vmc] 30)).alloc (.cells #[.int .i64 (A.clC (own : Int)).1, .int .i64 (A.clC (own : Int)).2.1, .int .i64 (A.clC (own : Int)).2.2] 47)) _ _ (B.clQ (own : Int)) V5) := hq5.below b6
  have SPB : Hid (QSep (.slice vla vln vlc) (.slice vma vmn vmc) (B.clQ (own : Int)) V5 (.slice ma mn.length mc) ∧ QSep (.slice vla vln vlc) (.slice vma vmn vmc) (B.clQ (own : Int)) V5 (.slice oa2 ot.length oc2) ∧ QSep (.slice vla vln vlc) (.slice vma vmn vmc) (B.clQ (own : Int)) V5 (.slice ta tk.length tc)) := J4.out.sep hn5 (Nat.le_refl _)
  have K1' : Hid (Blk ((w5.alloc (.cells #[.slice vla vln vlc, .slice vma vmn vmc] 30)).alloc (.cells #[.int .i64 (A.clC (own : Int)).1, .int .i64 (A.clC (own : Int)).2.1, .int .i64 (A.clC (own : Int)).2.2] 47)) w3.heap.size 30 [.slice sla sln slc, .slice sma smn smc]) := (K1.out.below hb5).below b6
  have K2' : Hid (Blk ((w5.alloc (.cells #[.slice vla vln vlc, .slice vma vmn vmc] 30)).alloc (.cells #[.int .i64 (A.clC (own : Int)).1, .int .i64 (A.clC (own : Int)).2.1, .int .i64 (A.clC (own : Int)).2.2] 47)) (w3.heap.size + 1) 47 [.int .i64 (A.clC (own : Int)).1, .int .i64 (A.clC (own : Int)).2.1, .int .i64 (A.clC (own : Int)).2.2]) := (K2.out.below hb5).below b6
  have K3' : Hid (Blk ((w5.alloc (.cells #[.slice vla vln vlc, .slice vma vmn vmc] 30)).alloc (.cells #[.int .i64 (A.clC (own : Int)).1, .int .i64 (A.clC (own : Int)).2.1, .int .i64 (A.clC (own : Int)).2.2] 47)) w5.heap.size 30 [.slice vla vln vlc, .slice vma vmn vmc]) := k1
  have K4' : Hid (Blk ((w5.alloc (.cells #[.slice vla vln vlc, .slice vma vmn vmc] 30)).alloc (.cells #[.int .i64 (A.clC (own : Int)).1, .int .i64 (A.clC (own : Int)).2.1, .int .i64 (A.clC (own : Int)).2.2] 47)) (w5.heap.size + 1) 47 [.int .i64 (A.clC (own : Int)).1, .int .i64 (A.clC (own : Int)).2.1, .int .i64 (A.clC (own : Int)).2.2]) := k2
  have HS5 : Hid (w3.heap.size + 1 + 1 ≤ w5.heap.size) := by have := hb5.size; have := HW4.out; show _ ≤ _; omega
  obtain ⟨a0, a1, a2⟩ := K2'.out.bx.three
  obtain ⟨d0, d1, d2⟩ := K4'.out.bx.three
  have a3 := K2'.out.lt
  have d3 := K4'.out.lt
  clear c2 k1 k2 b6 s6 hb5 hq5 hn5 hw4
  by_cases hE : ee = 0
  · have hE1 : (ee == 0) = true := by simpa using hE
    have HE0 : Hid (A.clE (own : Int) = 0) := hee.trans hE
    clear hE hee HE
    generalize hw6 : (w5.alloc (.cells #[.slice vla vln vlc, .slice vma vmn vmc] 30)).alloc (.cells #[.int .i64 (A.clC (own : Int)).1, .int .i64 (A.clC (own : Int)).2.1, .int .i64 (A.clC (own : Int)).2.2] 47) = w6 at *
    go_wp2_with fail
    refine ap_region28 (w0 := w) (PA := PA) (PB := PB) (bp := w3.heap.size) (bq := w5.heap.size) (bx := w3.heap.size + 1) (x := A.clC (own : Int))  rfl rfl (by kernel_rfl) (by kernel_rfl) (by kernel_rfl) rfl rfl rfl rfl rfl rfl rfl rfl rfl rfl rfl rfl rfl rfl rfl rfl rfl rfl rfl rfl rfl rfl rfl rfl rfl rfl rfl rfl rfl rfl K1'.out K3'.out K2'.out ⟨by have := HS3.out; omega, by have := HS3.out; omega, fun e => by have := HS3.out.2.2 _ e; omega⟩ ⟨by have := HS3.out; have := HS5.out; omega, by have := HS3.out; have := HS5.out; omega, fun e => by have := HS3.out.2.2 _ e; have := HS5.out; omega⟩ ⟨by have := HS3.out; omega, by have := HS3.out; omega, fun e => by have := HS3.out.2.2 _ e; omega⟩ J6.out QA6.out SP.out.1 QB6.out SPB.out.1 (by omega) (by kernel_rfl) (by kernel_rfl) (by kernel_rfl) (by kernel_rfl) (by kernel_rfl) (by kernel_rfl) (fun c a d v w h => hQ0 c a d v w h) ?_
    intro vA v' W hj' hqa' hqb' hl'
    have HL4 : v'.ownBlock = (Value.slice ma mn.length mc).ownBlock ∨ ∃ b, v'.ownBlock = some b ∧ w6.heap.size ≤ b := hl'
    have HJ9 : Hid _ := hj'.storeAB hqa' hqb' ⟨SP.out.1.app QA6.out HL4, SP.out.2⟩ ⟨SPB.out.1.app QB6.out HL4, SPB.out.2⟩
    have HP9 : Hid _ := hP.out.claim2 HE0.out
    clear hj' hqa' hqb' hw6
    simp only [Act.put, List.setIfInBounds_toArray, List.set_cons_zero, List.set_cons_succ]
    go_wp2_with fail
    exact ⟨⟨_, rfl, rfl, rfl, rfl, rfl, rfl, _, _, _, _, _, _, _, _, _, _, _, _, _, _, j + 1, rfl, rfl, rfl, rfl, by omega, HJ9.out, HP9.out⟩, by simp [amu, intOf]; omega⟩
  · have hE1 : (ee == 0) = false := by simpa using hE
    clear hee HE
    generalize hw6 : (w5.alloc (.cells #[.slice vla vln vlc, .slice vma vmn vmc] 30)).alloc (.cells #[.int .i64 (A.clC (own : Int)).1, .int .i64 (A.clC (own : Int)).2.1, .int .i64 (A.clC (own : Int)).2.2] 47) = w6 at *
    go_wp2_with fail
    exact ⟨⟨_, rfl, rfl, rfl, rfl, rfl, rfl, _, _, _, _, _, _, _, _, _, _, _, _, _, _, j + 1, rfl, rfl, rfl, rfl, by omega, J6.out, hP.out.up⟩, by simp [amu, intOf]; omega⟩
set_option maxHeartbeats 16000000 in
theorem ap_caseB {u0 u1 u3 u4 u5 u6 u7 u8 u9 u12 u14 u19 u20 u21 u22 u23 u24 u25 u26 u27 u28 u29 u30 u31 u32 u33 u34 u35 u36 u37 u38 u39 u40 u41 u42 u43 u44 u45 u46 u47 u48 u49 u50 u51 u52 u53 u54 u55 u56 u57 u58 u59 u60 u61 u62 u63 u64 u65 u66 u67 u68 u69 u70 u71 u72 u73 u74 u75 u76 u77 u78 u79 u80 u81 u82 u83 u84 u85 u86 u87 u88 u89 u90 u91 u92 u93 u94 u95 u96 u97 u98 u99 u100 u101 u102 u103 u104 u105 u106 u107 u108 u109 u110 u111 u112 u113 u114 u115 u116 u117 u118 u119 u120 u121 u122 u123 u124 u125 u126 u127 u128 u129 u130 u131 u132 u133 u134 u135 u136 u137 u138 u139 u140 u141 u142 u143 u144 u145 u146 u147 u148 u149 u150 u151 u152 u153 u154 u155 u156 u157 u158 u159 u160 u161 u162 u163 u164 u165 u166 u167 u168 u169 u170 u171 u172 u173 u174 u175 u176 u177 u178 u179 u180 u181 u182 u183 u184 u185 u186 u187 u188 u189 u190 u191 u192 u193 u194 u195 u196 u197 u198 u199 u200 u201 u202 u203 u204 u205 u206 u207 u208 u209 u210 u211 u212 u213 u214 u215 u216 u217 u218 u219 u220 u221 u222 u223 u224 u225 u226 u227 u228 u229 u230 u231 u232 u233 u234 u235 u236 u237 u238 u239 u240 u241 u242 u243 u244 u245 u246 u247 u248 u249 u250 u251 u252 u253 u254 u255 u256 u257 u258 u259 u260 u261 u262 u263 u264 u265 u266 u267 u268 u269 u270 u271 u272 u273 u274 u275 u276 u277 u278 u279 u280 u281 u282 u283 u284 u285 u286 u287 u288 u289 u290 u291 u292 u293 u294 u295 u296 u297 u298 u299 u300 u301 u302 u303 u304 u305 u306 u307 u308 u309 u310 u311 u312 u313 u314 u315 u316 u317 u318 u319 u320 u321 u322 u323 u324 u325 u326 u327 u328 u329 u330 u331 u332 u333 u334 u335 u336 u337 u338 u339 u340 u341 u342 u343 u344 u345 u346 u347 u348 u349 u350 u351 u352 : Value} {w wr : World} {ob oo on oc own PA PB n j nn : Nat} {ln x : Int} {Q0 : Exit → Act → World → Prop} {qla qma pla pma ma oa2 ta : Option Addr} {qln qlc qmn qmc pln plc2 pmn pmc mc oc2 tc : Nat} {A B : Qu} {VA VB : Nat → Value} {mn ot : List (Int × Int × Int)} {tk : List PMs}
    (hJ : AJ w wr PA PB (.slice qla qln qlc) (.slice qma qmn qmc) (.slice pla pln plc2) (.slice pma pmn pmc) (.slice ma mn.length mc) (.slice oa2 ot.length oc2) (.slice ta tk.length tc) A B VA VB mn ot tk) (hP0 : Ap A B mn ot tk n own j) (hf1 : j < on) (hf2 : j < 50)
    (y0 : wr.cell? ⟨ob, oo + j * 4, none⟩ = some (.int .i64 (1))) (y1 : wr.cell? ⟨ob, oo + j * 4 + 1, none⟩ = some (.int .i64 (ln))) (y2 : wr.cell? ⟨ob, oo + j * 4 + 2, none⟩ = some (.int .u8 (nn : Int))) (y3 : wr.cell? ⟨ob, oo + j * 4 + 3, none⟩ = some (.int .u64 x)) (hln : ln ≠ (own : Int)) (hQ0 : ∀ c a d v w, Q0 (.panic c) (Act.put a d v) w → Q0 (.panic c) a w) :
    Code.wp Try.prog ((((Try.f4.body.map uloops).getD [])[1]?).getD .skip) (Exit.then (fun a' w'' => AI w (some ⟨ob, oo, none⟩) on oc own PA PB n a' w'' ∧ amu on a' w'' < on - j) Q0) ⟨#[u0, u1, .slice (some ⟨ob, oo, none⟩) on oc, u3, u4, u5, u6, u7, u8, u9, .int .i64 (own : Int), .pointer (some ⟨PA, 0, none⟩), u12, .pointer (some ⟨PB, 0, none⟩), u14, .slice ma mn.length mc, .slice oa2 ot.length oc2, .slice ta tk.length tc, .int .i64 (j : Int), u19, u20, u21, u22, u23, u24, u25, u26, u27, u28, u29, u30, u31, u32, u33, u34, u35, u36, u37, u38, u39, u40, u41, u42, u43, u44, u45, u46, u47, u48, u49, u50, u51, u52, u53, u54, u55, u56, u57, u58, u59, u60, u61, u62, u63, u64, u65, u66, u67, u68, u69, u70, u71, u72, u73, u74, u75, u76, u77, u78, u79, u80, u81, u82, u83, u84, u85, u86, u87, u88, u89, u90, u91, u92, u93, u94, u95, u96, u97, u98, u99, u100, u101, u102, u103, u104, u105, u106, u107, u108, u109, u110, u111, u112, u113, u114, u115, u116, u117, u118, u119, u120, u121, u122, u123, u124, u125, u126, u127, u128, u129, u130, u131, u132, u133, u134, u135, u136, u137, u138, u139, u140, u141, u142, u143, u144, u145, u146, u147, u148, u149, u150, u151, u152, u153, u154, u155, u156, u157, u158, u159, u160, u161, u162, u163, u164, u165, u166, u167, u168, u169, u170, u171, u172, u173, u174, u175, u176, u177, u178, u179, u180, u181, u182, u183, u184, u185, u186, u187, u188, u189, u190, u191, u192, u193, u194, u195, u196, u197, u198, u199, u200, u201, u202, u203, u204, u205, u206, u207, u208, u209, u210, u211, u212, u213, u214, u215, u216, u217, u218, u219, u220, u221, u222, u223, u224, u225, u226, u227, u228, u229, u230, u231, u232, u233, u234, u235, u236, u237, u238, u239, u240, u241, u242, u243, u244, u245, u246, u247, u248, u249, u250, u251, u252, u253, u254, u255, u256, u257, u258, u259, u260, u261, u262, u263, u264, u265, u266, u267, u268, u269, u270, u271, u272, u273, u274, u275, u276, u277, u278, u279, u280, u281, u282, u283, u284, u285, u286, u287, u288, u289, u290, u291, u292, u293, u294, u295, u296, u297, u298, u299, u300, u301, u302, u303, u304, u305, u306, u307, u308, u309, u310, u311, u312, u313, u314, u315, u316, u317, u318, u319, u320, u321, u322, u323, u324, u325, u326, u327, u328, u329, u330, u331, u332, u333, u334, u335, u336, u337, u338, u339, u340, u341, u342, u343, u344, u345, u346, u347, u348, u349, u350, u351, u352], []⟩ wr := by
  have hP : Hid (Ap A B mn ot tk n own j) := hP0
  have hq00 := hQ0
  clear hq00
  have HJ2 : Hid (AJ w (wr.alloc (.cells #[.int .i64 1, .int .i64 ln, .int .u8 (nn : Int), .int .u64 x] 41)) PA PB (.slice qla qln qlc) (.slice qma qmn qmc) (.slice pla pln plc2) (.slice pma pmn pmc) (.slice ma mn.length mc) (.slice oa2 ot.length oc2) (.slice ta tk.length tc) A B VA VB mn ot tk) := hJ.grow (below_new _ _)
  have KO : Hid (Blk (wr.alloc (.cells #[.int .i64 1, .int .i64 ln, .int .u8 (nn : Int), .int .u64 x] 41)) wr.heap.size 41 [.int .i64 (1), .int .i64 (ln), .int .u8 (nn : Int), .int .u64 x]) := blk_new wr [.int .i64 (1), .int .i64 (ln), .int .u8 (nn : Int), .int .u64 x] 41
  have HLO : Hid (wr.heap.size ≠ PA ∧ wr.heap.size ≠ PB) := ⟨by have := hJ.ba.lt; omega, by have := hJ.bb.lt; omega⟩
  obtain ⟨z0, z1, z2, z3⟩ := KO.out.bx.four
  have zl := KO.out.lt
  have hlm : mn.length ≤ 50 := by have := hP0.nm; omega
  have hlo : ot.length ≤ 50 := by have := hP0.no; omega
  have hlt : tk.length ≤ 50 := by have := hP0.nt; omega
  have yl := cell_lt y0
  clear hJ hP0
  generalize hw2 : wr.alloc (.cells #[.int .i64 1, .int .i64 ln, .int .u8 (nn : Int), .int .u64 x] 41) = w2 at *
  obtain ⟨q0, q1⟩ := HJ2.out.ba.bx.two
  have q2 := HJ2.out.ba.lt
  obtain ⟨r0, r1⟩ := HJ2.out.bb.bx.two
  have r2 := HJ2.out.bb.lt
  conv => arg 2; whnf
  have hln1 : (ln == (own : Int)) = false := by simpa using hln
  go_wp2_with fail
  refine (claim_any _ _ A VA ln _ (hP.out.okqA (by omega)) HJ2.out.qa).mono ?_
  rintro e w3 ⟨ul, um, V3, rfl, hq3, hb3, hn3⟩
  obtain ⟨ula, uln, ulc, rfl⟩ := sl_form hq3.l
  obtain ⟨uma, umn, umc, rfl⟩ := sl_form hq3.m
  obtain ⟨k1, k2, b4, s4⟩ := alloc2 w3 [.slice ula uln ulc, .slice uma umn umc] 30 [.int .i64 (A.clC ln).1, .int .i64 (A.clC ln).2.1, .int .i64 (A.clC ln).2.2] 47
  have J3 : Hid (AJ w w3 PA PB (.slice qla qln qlc) (.slice qma qmn qmc) (.slice pla pln plc2) (.slice pma pmn pmc) (.slice ma mn.length mc) (.slice oa2 ot.length oc2) (.slice ta tk.length tc) A B VA VB mn ot tk) := HJ2.out.grow hb3
  have J4 : Hid (AJ w ((w3.alloc (.cells #[.slice ula uln ulc, .slice uma umn umc] 30)).alloc (.cells #[.int .i64 (A.clC ln).1, .int .i64 (A.clC ln).2.1, .int .i64 (A.clC ln).2.2] 47)) PA PB (.slice qla qln qlc) (.slice qma qmn qmc) (.slice pla pln plc2) (.slice pma pmn pmc) (.slice ma mn.length mc) (.slice oa2 ot.length oc2) (.slice ta tk.length tc) A B VA VB mn ot tk) := J3.out.grow b4
  have Q4 : Hid (QIs ((w3.alloc (.cells #[.slice ula uln ulc, .slice uma umn umc] 30)).alloc (.cells #[.int .i64 (A.clC ln).1, .int .i64 (A.clC ln).2.1, .int .i64 (A.clC ln).2.2] 47)) _ _ (A.clQ ln) V3) := hq3.below b4
  have SP : Hid (QSep (.slice ula uln ulc) (.slice uma umn umc) (A.clQ ln) V3 (.slice ma mn.length mc) ∧ QSep (.slice ula uln ulc) (.slice uma umn umc) (A.clQ ln) V3 (.slice oa2 ot.length oc2) ∧ QSep (.slice ula uln ulc) (.slice uma umn umc) (A.clQ ln) V3 (.slice ta tk.length tc)) := HJ2.out.sep hn3 (Nat.le_refl _)
  have K1 : Hid (Blk _ _ _ _) := k1
  have K2 : Hid (Blk _ _ _ _) := k2
  have hpa3 := J3.out.ba.lt
  have hpb3 := J3.out.bb.lt
  have hln3 : ∀ b, (Value.slice oa2 ot.length oc2).ownBlock = some b → b < w3.heap.size := fun b e => own_lt J3.out.ro e
  clear k1 k2 b4 s4 hb3 hq3 hn3 z0 z1 z2 z3 zl y0 y1 y2 y3 yl q0 q1 q2 r0 r1 r2 hw2
  by_cases hE : A.clE ln = 0
  · have HE : Hid (A.clE ln = 0) := hE
    have hE1 : (A.clE ln == 0) = true := by simpa using hE
    clear hE
    generalize A.clE ln = ee at hE1 ⊢
    go_wp2_with fail
    generalize (w3.alloc (.cells #[.slice ula uln ulc, .slice uma umn umc] 30)).alloc (.cells #[.int .i64 (A.clC ln).1, .int .i64 (A.clC ln).2.1, .int .i64 (A.clC ln).2.2] 47) = w4 at *
    refine ap_region32 (w0 := w) (PA := PA) (PB := PB) (bp := w3.heap.size) (bx := w3.heap.size + 1) (x := A.clC ln)  rfl rfl (by kernel_rfl) (by kernel_rfl) (by kernel_rfl) rfl rfl rfl rfl rfl rfl rfl rfl rfl rfl rfl rfl rfl rfl rfl rfl rfl rfl rfl rfl rfl rfl rfl K1.out K2.out ⟨by omega, by omega, fun e => by have := hln3 _ e; omega⟩ ⟨by omega, by omega, fun e => by have := hln3 _ e; omega⟩ J4.out Q4.out SP.out.2.1 (by omega) (by kernel_rfl) (by kernel_rfl) (by kernel_rfl) (by kernel_rfl) (by kernel_rfl) (fun c a d v w h => hQ0 c a d v w h) ?_
    intro vA v' W hj' hq' hl'
    have HL4 : v'.ownBlock = (Value.slice oa2 ot.length oc2).ownBlock ∨ ∃ b, v'.ownBlock = some b ∧ w4.heap.size ≤ b := hl'
    have HJ9 : Hid _ := hj'.storeA hq' ⟨SP.out.1, SP.out.2.1.app Q4.out HL4, SP.out.2.2⟩
    have HP9 : Hid _ := hP.out.claim1 hln HE.out
    clear hj' hq'
    simp only [Act.put, List.setIfInBounds_toArray, List.set_cons_zero, List.set_cons_succ]
    go_wp2_with fail
    exact ⟨⟨_, rfl, rfl, rfl, rfl, rfl, rfl, _, _, _, _, _, _, _, _, _, _, _, _, _, _, j + 1, rfl, rfl, rfl, rfl, by omega, HJ9.out, HP9.out⟩, by simp [amu, intOf]; omega⟩
  · have hE1 : (A.clE ln == 0) = false := by simpa using hE
    generalize A.clE ln = ee at *
    go_wp2_with fail
    generalize (w3.alloc (.cells #[.slice ula uln ulc, .slice uma umn umc] 30)).alloc (.cells #[.int .i64 (A.clC ln).1, .int .i64 (A.clC ln).2.1, .int .i64 (A.clC ln).2.2] 47) = w4 at *
    exact ⟨⟨_, rfl, rfl, rfl, rfl, rfl, rfl, _, _, _, _, _, _, _, _, _, _, _, _, _, _, j + 1, rfl, rfl, rfl, rfl, by omega, J4.out, hP.out.up⟩, by simp [amu, intOf]; omega⟩
set_option maxHeartbeats 16000000 in
theorem ap_caseF {u0 u1 u3 u4 u5 u6 u7 u8 u9 u12 u14 u19 u20 u21 u22 u23 u24 u25 u26 u27 u28 u29 u30 u31 u32 u33 u34 u35 u36 u37 u38 u39 u40 u41 u42 u43 u44 u45 u46 u47 u48 u49 u50 u51 u52 u53 u54 u55 u56 u57 u58 u59 u60 u61 u62 u63 u64 u65 u66 u67 u68 u69 u70 u71 u72 u73 u74 u75 u76 u77 u78 u79 u80 u81 u82 u83 u84 u85 u86 u87 u88 u89 u90 u91 u92 u93 u94 u95 u96 u97 u98 u99 u100 u101 u102 u103 u104 u105 u106 u107 u108 u109 u110 u111 u112 u113 u114 u115 u116 u117 u118 u119 u120 u121 u122 u123 u124 u125 u126 u127 u128 u129 u130 u131 u132 u133 u134 u135 u136 u137 u138 u139 u140 u141 u142 u143 u144 u145 u146 u147 u148 u149 u150 u151 u152 u153 u154 u155 u156 u157 u158 u159 u160 u161 u162 u163 u164 u165 u166 u167 u168 u169 u170 u171 u172 u173 u174 u175 u176 u177 u178 u179 u180 u181 u182 u183 u184 u185 u186 u187 u188 u189 u190 u191 u192 u193 u194 u195 u196 u197 u198 u199 u200 u201 u202 u203 u204 u205 u206 u207 u208 u209 u210 u211 u212 u213 u214 u215 u216 u217 u218 u219 u220 u221 u222 u223 u224 u225 u226 u227 u228 u229 u230 u231 u232 u233 u234 u235 u236 u237 u238 u239 u240 u241 u242 u243 u244 u245 u246 u247 u248 u249 u250 u251 u252 u253 u254 u255 u256 u257 u258 u259 u260 u261 u262 u263 u264 u265 u266 u267 u268 u269 u270 u271 u272 u273 u274 u275 u276 u277 u278 u279 u280 u281 u282 u283 u284 u285 u286 u287 u288 u289 u290 u291 u292 u293 u294 u295 u296 u297 u298 u299 u300 u301 u302 u303 u304 u305 u306 u307 u308 u309 u310 u311 u312 u313 u314 u315 u316 u317 u318 u319 u320 u321 u322 u323 u324 u325 u326 u327 u328 u329 u330 u331 u332 u333 u334 u335 u336 u337 u338 u339 u340 u341 u342 u343 u344 u345 u346 u347 u348 u349 u350 u351 u352 : Value} {w wr : World} {ob oo on oc own PA PB n j nn : Nat} {ln x : Int} {Q0 : Exit → Act → World → Prop} {qla qma pla pma ma oa2 ta : Option Addr} {qln qlc qmn qmc pln plc2 pmn pmc mc oc2 tc : Nat} {A B : Qu} {VA VB : Nat → Value} {mn ot : List (Int × Int × Int)} {tk : List PMs}
    (hJ : AJ w wr PA PB (.slice qla qln qlc) (.slice qma qmn qmc) (.slice pla pln plc2) (.slice pma pmn pmc) (.slice ma mn.length mc) (.slice oa2 ot.length oc2) (.slice ta tk.length tc) A B VA VB mn ot tk) (hP0 : Ap A B mn ot tk n own j) (hf1 : j < on) (hf2 : j < 50)
    (y0 : wr.cell? ⟨ob, oo + j * 4, none⟩ = some (.int .i64 (3))) (y1 : wr.cell? ⟨ob, oo + j * 4 + 1, none⟩ = some (.int .i64 (ln))) (y2 : wr.cell? ⟨ob, oo + j * 4 + 2, none⟩ = some (.int .u8 (nn : Int))) (y3 : wr.cell? ⟨ob, oo + j * 4 + 3, none⟩ = some (.int .u64 x))  (hQ0 : ∀ c a d v w, Q0 (.panic c) (Act.put a d v) w → Q0 (.panic c) a w) :
    Code.wp Try.prog ((((Try.f4.body.map uloops).getD [])[1]?).getD .skip) (Exit.then (fun a' w'' => AI w (some ⟨ob, oo, none⟩) on oc own PA PB n a' w'' ∧ amu on a' w'' < on - j) Q0) ⟨#[u0, u1, .slice (some ⟨ob, oo, none⟩) on oc, u3, u4, u5, u6, u7, u8, u9, .int .i64 (own : Int), .pointer (some ⟨PA, 0, none⟩), u12, .pointer (some ⟨PB, 0, none⟩), u14, .slice ma mn.length mc, .slice oa2 ot.length oc2, .slice ta tk.length tc, .int .i64 (j : Int), u19, u20, u21, u22, u23, u24, u25, u26, u27, u28, u29, u30, u31, u32, u33, u34, u35, u36, u37, u38, u39, u40, u41, u42, u43, u44, u45, u46, u47, u48, u49, u50, u51, u52, u53, u54, u55, u56, u57, u58, u59, u60, u61, u62, u63, u64, u65, u66, u67, u68, u69, u70, u71, u72, u73, u74, u75, u76, u77, u78, u79, u80, u81, u82, u83, u84, u85, u86, u87, u88, u89, u90, u91, u92, u93, u94, u95, u96, u97, u98, u99, u100, u101, u102, u103, u104, u105, u106, u107, u108, u109, u110, u111, u112, u113, u114, u115, u116, u117, u118, u119, u120, u121, u122, u123, u124, u125, u126, u127, u128, u129, u130, u131, u132, u133, u134, u135, u136, u137, u138, u139, u140, u141, u142, u143, u144, u145, u146, u147, u148, u149, u150, u151, u152, u153, u154, u155, u156, u157, u158, u159, u160, u161, u162, u163, u164, u165, u166, u167, u168, u169, u170, u171, u172, u173, u174, u175, u176, u177, u178, u179, u180, u181, u182, u183, u184, u185, u186, u187, u188, u189, u190, u191, u192, u193, u194, u195, u196, u197, u198, u199, u200, u201, u202, u203, u204, u205, u206, u207, u208, u209, u210, u211, u212, u213, u214, u215, u216, u217, u218, u219, u220, u221, u222, u223, u224, u225, u226, u227, u228, u229, u230, u231, u232, u233, u234, u235, u236, u237, u238, u239, u240, u241, u242, u243, u244, u245, u246, u247, u248, u249, u250, u251, u252, u253, u254, u255, u256, u257, u258, u259, u260, u261, u262, u263, u264, u265, u266, u267, u268, u269, u270, u271, u272, u273, u274, u275, u276, u277, u278, u279, u280, u281, u282, u283, u284, u285, u286, u287, u288, u289, u290, u291, u292, u293, u294, u295, u296, u297, u298, u299, u300, u301, u302, u303, u304, u305, u306, u307, u308, u309, u310, u311, u312, u313, u314, u315, u316, u317, u318, u319, u320, u321, u322, u323, u324, u325, u326, u327, u328, u329, u330, u331, u332, u333, u334, u335, u336, u337, u338, u339, u340, u341, u342, u343, u344, u345, u346, u347, u348, u349, u350, u351, u352], []⟩ wr := by
  have hP : Hid (Ap A B mn ot tk n own j) := hP0
  have hq00 := hQ0
  clear hq00
  have HJ2 : Hid (AJ w (wr.alloc (.cells #[.int .i64 3, .int .i64 ln, .int .u8 (nn : Int), .int .u64 x] 41)) PA PB (.slice qla qln qlc) (.slice qma qmn qmc) (.slice pla pln plc2) (.slice pma pmn pmc) (.slice ma mn.length mc) (.slice oa2 ot.length oc2) (.slice ta tk.length tc) A B VA VB mn ot tk) := hJ.grow (below_new _ _)
  have KO : Hid (Blk (wr.alloc (.cells #[.int .i64 3, .int .i64 ln, .int .u8 (nn : Int), .int .u64 x] 41)) wr.heap.size 41 [.int .i64 (3), .int .i64 (ln), .int .u8 (nn : Int), .int .u64 x]) := blk_new wr [.int .i64 (3), .int .i64 (ln), .int .u8 (nn : Int), .int .u64 x] 41
  have HLO : Hid (wr.heap.size ≠ PA ∧ wr.heap.size ≠ PB) := ⟨by have := hJ.ba.lt; omega, by have := hJ.bb.lt; omega⟩
  obtain ⟨z0, z1, z2, z3⟩ := KO.out.bx.four
  have zl := KO.out.lt
  have hlm : mn.length ≤ 50 := by have := hP0.nm; omega
  have hlo : ot.length ≤ 50 := by have := hP0.no; omega
  have hlt : tk.length ≤ 50 := by have := hP0.nt; omega
  have yl := cell_lt y0
  clear hJ hP0
  generalize hw2 : wr.alloc (.cells #[.int .i64 3, .int .i64 ln, .int .u8 (nn : Int), .int .u64 x] 41) = w2 at *
  obtain ⟨q0, q1⟩ := HJ2.out.ba.bx.two
  have q2 := HJ2.out.ba.lt
  obtain ⟨r0, r1⟩ := HJ2.out.bb.bx.two
  have r2 := HJ2.out.bb.lt
  conv => arg 2; whnf
  go_wp2_with fail
  refine (take_any _ _ A VA _ (hP.out.okqA (by omega)) HJ2.out.qa).mono ?_
  rintro e w3 ⟨sl, sm, V3, rfl, hq3, hb3, hn3⟩
  obtain ⟨sla, sln, slc, rfl⟩ := sl_form hq3.l
  obtain ⟨sma, smn, smc, rfl⟩ := sl_form hq3.m
  obtain ⟨k1, k2, b4, s4⟩ := alloc2 w3 [.slice sla sln slc, .slice sma smn smc] 30 [.int .i64 A.tkM.ln, .int .i64 A.tkM.ep, .int .i64 A.tkM.n, .int .u64 A.tkM.pay] 44
  have J3 : Hid (AJ w w3 PA PB (.slice qla qln qlc) (.slice qma qmn qmc) (.slice pla pln plc2) (.slice pma pmn pmc) (.slice ma mn.length mc) (.slice oa2 ot.length oc2) (.slice ta tk.length tc) A B VA VB mn ot tk) := HJ2.out.grow hb3
  have J4 : Hid (AJ w ((w3.alloc (.cells #[.slice sla sln slc, .slice sma smn smc] 30)).alloc (.cells #[.int .i64 A.tkM.ln, .int .i64 A.tkM.ep, .int .i64 A.tkM.n, .int .u64 A.tkM.pay] 44)) PA PB (.slice qla qln qlc) (.slice qma qmn qmc) (.slice pla pln plc2) (.slice pma pmn pmc) (.slice ma mn.length mc) (.slice oa2 ot.length oc2) (.slice ta tk.length tc) A B VA VB mn ot tk) := J3.out.grow b4
  have Q4 : Hid (QIs ((w3.alloc (.cells #[.slice sla sln slc, .slice sma smn smc] 30)).alloc (.cells #[.int .i64 A.tkM.ln, .int .i64 A.tkM.ep, .int .i64 A.tkM.n, .int .u64 A.tkM.pay] 44)) _ _ A.tkQ V3) := hq3.below b4
  have SP : Hid (QSep (.slice sla sln slc) (.slice sma smn smc) A.tkQ V3 (.slice ma mn.length mc) ∧ QSep (.slice sla sln slc) (.slice sma smn smc) A.tkQ V3 (.slice oa2 ot.length oc2) ∧ QSep (.slice sla sln slc) (.slice sma smn smc) A.tkQ V3 (.slice ta tk.length tc)) := HJ2.out.sep hn3 (Nat.le_refl _)
  have K1 : Hid (Blk ((w3.alloc (.cells #[.slice sla sln slc, .slice sma smn smc] 30)).alloc (.cells #[.int .i64 A.tkM.ln, .int .i64 A.tkM.ep, .int .i64 A.tkM.n, .int .u64 A.tkM.pay] 44)) _ _ _) := k1
  have K2 : Hid (Blk ((w3.alloc (.cells #[.slice sla sln slc, .slice sma smn smc] 30)).alloc (.cells #[.int .i64 A.tkM.ln, .int .i64 A.tkM.ep, .int .i64 A.tkM.n, .int .u64 A.tkM.pay] 44)) _ _ _) := k2
  have hpa3 := J3.out.ba.lt
  have hpb3 := J3.out.bb.lt
  have hln3 : ∀ b, (Value.slice ta tk.length tc).ownBlock = some b → b < w3.heap.size := fun b e => own_lt J3.out.rt e
  clear k1 k2 b4 s4 hb3 hq3 hn3 z0 z1 z2 z3 zl y0 y1 y2 y3 yl q0 q1 q2 r0 r1 r2 hw2
  by_cases hE : A.tkE = 0
  · have HE : Hid (A.tkE = 0) := hE
    have hE1 : (A.tkE == 0) = true := by simpa using hE
    clear hE
    generalize A.tkE = ee at hE1 ⊢
    go_wp2_with fail
    generalize (w3.alloc (.cells #[.slice sla sln slc, .slice sma smn smc] 30)).alloc (.cells #[.int .i64 A.tkM.ln, .int .i64 A.tkM.ep, .int .i64 A.tkM.n, .int .u64 A.tkM.pay] 44) = w4 at *
    refine ap_region55 (w0 := w) (PA := PA) (PB := PB) (bp := w3.heap.size) (bx := w3.heap.size + 1) (x := A.tkM)  rfl rfl (by kernel_rfl) (by kernel_rfl) (by kernel_rfl) rfl rfl rfl rfl rfl rfl rfl rfl rfl rfl rfl rfl rfl rfl rfl rfl rfl rfl rfl rfl rfl rfl rfl K1.out K2.out ⟨by omega, by omega, fun e => by have := hln3 _ e; omega⟩ ⟨by omega, by omega, fun e => by have := hln3 _ e; omega⟩ J4.out Q4.out SP.out.2.2 (by omega) (by kernel_rfl) (by kernel_rfl) (by kernel_rfl) (by kernel_rfl) (by kernel_rfl) (fun c a d v w h => hQ0 c a d v w h) ?_
    intro vA v' W hj' hq' hl'
    have HL4 : v'.ownBlock = (Value.slice ta tk.length tc).ownBlock ∨ ∃ b, v'.ownBlock = some b ∧ w4.heap.size ≤ b := hl'
    have HJ9 : Hid _ := hj'.storeA hq' ⟨SP.out.1, SP.out.2.1, SP.out.2.2.app Q4.out HL4⟩
    have HP9 : Hid _ := hP.out.take1 HE.out
    clear hj' hq'
    simp only [Act.put, List.setIfInBounds_toArray, List.set_cons_zero, List.set_cons_succ]
    go_wp2_with fail
    exact ⟨⟨_, rfl, rfl, rfl, rfl, rfl, rfl, _, _, _, _, _, _, _, _, _, _, _, _, _, _, j + 1, rfl, rfl, rfl, rfl, by omega, HJ9.out, HP9.out⟩, by simp [amu, intOf]; omega⟩
  · have hE1 : (A.tkE == 0) = false := by simpa using hE
    generalize A.tkE = ee at *
    go_wp2_with fail
    generalize (w3.alloc (.cells #[.slice sla sln slc, .slice sma smn smc] 30)).alloc (.cells #[.int .i64 A.tkM.ln, .int .i64 A.tkM.ep, .int .i64 A.tkM.n, .int .u64 A.tkM.pay] 44) = w4 at *
    exact ⟨⟨_, rfl, rfl, rfl, rfl, rfl, rfl, _, _, _, _, _, _, _, _, _, _, _, _, _, _, j + 1, rfl, rfl, rfl, rfl, by omega, J4.out, hP.out.up⟩, by simp [amu, intOf]; omega⟩
end Go.Proofs.Ytkgehbonijpdnaa
