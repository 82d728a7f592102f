/- QueueApart's round: C. -/
import Derived.Test.YtkgehbonijpdnaaUApL
import Derived.Test.YtkgehbonijpdnaaUPub
import Derived.Test.YtkgehbonijpdnaaUClaim
import Derived.Test.YtkgehbonijpdnaaULacks
namespace Go.Proofs.Ytkgehbonijpdnaa
open Go.RowKit Go.Sort
set_option maxRecDepth 1000000

set_option maxHeartbeats 16000000 in
theorem ap_caseC {u0 u1 u3 u4 u5 u6 u7 u8 u9 u12 u14 u19 u20 u21 u22 u23 u24 u25 u26 u27 u28 u29 u30 u31 u32 u33 u34 u35 u36 u37 u38 u39 u40 u41 u42 u43 u44 u45 u46 u47 u48 u49 u50 u51 u52 u53 u54 u55 u56 u57 u58 u59 u60 u61 u62 u63 u64 u65 u66 u67 u68 u69 u70 u71 u72 u73 u74 u75 u76 u77 u78 u79 u80 u81 u82 u83 u84 u85 u86 u87 u88 u89 u90 u91 u92 u93 u94 u95 u96 u97 u98 u99 u100 u101 u102 u103 u104 u105 u106 u107 u108 u109 u110 u111 u112 u113 u114 u115 u116 u117 u118 u119 u120 u121 u122 u123 u124 u125 u126 u127 u128 u129 u130 u131 u132 u133 u134 u135 u136 u137 u138 u139 u140 u141 u142 u143 u144 u145 u146 u147 u148 u149 u150 u151 u152 u153 u154 u155 u156 u157 u158 u159 u160 u161 u162 u163 u164 u165 u166 u167 u168 u169 u170 u171 u172 u173 u174 u175 u176 u177 u178 u179 u180 u181 u182 u183 u184 u185 u186 u187 u188 u189 u190 u191 u192 u193 u194 u195 u196 u197 u198 u199 u200 u201 u202 u203 u204 u205 u206 u207 u208 u209 u210 u211 u212 u213 u214 u215 u216 u217 u218 u219 u220 u221 u222 u223 u224 u225 u226 u227 u228 u229 u230 u231 u232 u233 u234 u235 u236 u237 u238 u239 u240 u241 u242 u243 u244 u245 u246 u247 u248 u249 u250 u251 u252 u253 u254 u255 u256 u257 u258 u259 u260 u261 u262 u263 u264 u265 u266 u267 u268 u269 u270 u271 u272 u273 u274 u275 u276 u277 u278 u279 u280 u281 u282 u283 u284 u285 u286 u287 u288 u289 u290 u291 u292 u293 u294 u295 u296 u297 u298 u299 u300 u301 u302 u303 u304 u305 u306 u307 u308 u309 u310 u311 u312 u313 u314 u315 u316 u317 u318 u319 u320 u321 u322 u323 u324 u325 u326 u327 u328 u329 u330 u331 u332 u333 u334 u335 u336 u337 u338 u339 u340 u341 u342 u343 u344 u345 u346 u347 u348 u349 u350 u351 u352 : Value} {w wr : World} {ob oo on oc own PA PB n j nn : Nat} {x : Int} {Q0 : Exit → Act → World → Prop} {qla qma pla pma ma oa2 ta : Option Addr} {qln qlc qmn qmc pln plc2 pmn pmc mc oc2 tc : Nat} {A B : Qu} {VA VB : Nat → Value} {mn ot : List (Int × Int × Int)} {tk : List PMs}
    (hJ : AJ w wr PA PB (.slice qla qln qlc) (.slice qma qmn qmc) (.slice pla pln plc2) (.slice pma pmn pmc) (.slice ma mn.length mc) (.slice oa2 ot.length oc2) (.slice ta tk.length tc) A B VA VB mn ot tk) (hP0 : Ap A B mn ot tk n own j) (hf1 : j < on) (hf2 : j < 50)
    (y0 : wr.cell? ⟨ob, oo + j * 4, none⟩ = some (.int .i64 (2))) (y1 : wr.cell? ⟨ob, oo + j * 4 + 1, none⟩ = some (.int .i64 ((own : Int)))) (y2 : wr.cell? ⟨ob, oo + j * 4 + 2, none⟩ = some (.int .u8 (nn : Int))) (y3 : wr.cell? ⟨ob, oo + j * 4 + 3, none⟩ = some (.int .u64 x)) (hnn : nn < 256) (hmn : 0 < mn.length) (hQ0 : ∀ c a d v w, Q0 (.panic c) (Act.put a d v) w → Q0 (.panic c) a w) :
    Code.wp Try.prog ((((Try.f4.body.map uloops).getD [])[1]?).getD .skip) (Exit.then (fun a' w'' => AI w (some ⟨ob, oo, none⟩) on oc own PA PB n a' w'' ∧ amu on a' w'' < on - j) Q0) ⟨#[u0, u1, .slice (some ⟨ob, oo, none⟩) on oc, u3, u4, u5, u6, u7, u8, u9, .int .i64 (own : Int), .pointer (some ⟨PA, 0, none⟩), u12, .pointer (some ⟨PB, 0, none⟩), u14, .slice ma mn.length mc, .slice oa2 ot.length oc2, .slice ta tk.length tc, .int .i64 (j : Int), u19, u20, u21, u22, u23, u24, u25, u26, u27, u28, u29, u30, u31, u32, u33, u34, u35, u36, u37, u38, u39, u40, u41, u42, u43, u44, u45, u46, u47, u48, u49, u50, u51, u52, u53, u54, u55, u56, u57, u58, u59, u60, u61, u62, u63, u64, u65, u66, u67, u68, u69, u70, u71, u72, u73, u74, u75, u76, u77, u78, u79, u80, u81, u82, u83, u84, u85, u86, u87, u88, u89, u90, u91, u92, u93, u94, u95, u96, u97, u98, u99, u100, u101, u102, u103, u104, u105, u106, u107, u108, u109, u110, u111, u112, u113, u114, u115, u116, u117, u118, u119, u120, u121, u122, u123, u124, u125, u126, u127, u128, u129, u130, u131, u132, u133, u134, u135, u136, u137, u138, u139, u140, u141, u142, u143, u144, u145, u146, u147, u148, u149, u150, u151, u152, u153, u154, u155, u156, u157, u158, u159, u160, u161, u162, u163, u164, u165, u166, u167, u168, u169, u170, u171, u172, u173, u174, u175, u176, u177, u178, u179, u180, u181, u182, u183, u184, u185, u186, u187, u188, u189, u190, u191, u192, u193, u194, u195, u196, u197, u198, u199, u200, u201, u202, u203, u204, u205, u206, u207, u208, u209, u210, u211, u212, u213, u214, u215, u216, u217, u218, u219, u220, u221, u222, u223, u224, u225, u226, u227, u228, u229, u230, u231, u232, u233, u234, u235, u236, u237, u238, u239, u240, u241, u242, u243, u244, u245, u246, u247, u248, u249, u250, u251, u252, u253, u254, u255, u256, u257, u258, u259, u260, u261, u262, u263, u264, u265, u266, u267, u268, u269, u270, u271, u272, u273, u274, u275, u276, u277, u278, u279, u280, u281, u282, u283, u284, u285, u286, u287, u288, u289, u290, u291, u292, u293, u294, u295, u296, u297, u298, u299, u300, u301, u302, u303, u304, u305, u306, u307, u308, u309, u310, u311, u312, u313, u314, u315, u316, u317, u318, u319, u320, u321, u322, u323, u324, u325, u326, u327, u328, u329, u330, u331, u332, u333, u334, u335, u336, u337, u338, u339, u340, u341, u342, u343, u344, u345, u346, u347, u348, u349, u350, u351, u352], []⟩ wr := by
  have hP : Hid (Ap A B mn ot tk n own j) := hP0
  have hq00 := hQ0
  clear hq00
  have HJ2 : Hid (AJ w (wr.alloc (.cells #[.int .i64 2, .int .i64 (own : Int), .int .u8 (nn : Int), .int .u64 x] 41)) PA PB (.slice qla qln qlc) (.slice qma qmn qmc) (.slice pla pln plc2) (.slice pma pmn pmc) (.slice ma mn.length mc) (.slice oa2 ot.length oc2) (.slice ta tk.length tc) A B VA VB mn ot tk) := hJ.grow (below_new _ _)
  have KO : Hid (Blk (wr.alloc (.cells #[.int .i64 2, .int .i64 (own : Int), .int .u8 (nn : Int), .int .u64 x] 41)) wr.heap.size 41 [.int .i64 (2), .int .i64 ((own : Int)), .int .u8 (nn : Int), .int .u64 x]) := blk_new wr [.int .i64 (2), .int .i64 ((own : Int)), .int .u8 (nn : Int), .int .u64 x] 41
  have HLO : Hid (wr.heap.size ≠ PA ∧ wr.heap.size ≠ PB) := ⟨by have := hJ.ba.lt; omega, by have := hJ.bb.lt; omega⟩
  obtain ⟨z0, z1, z2, z3⟩ := KO.out.bx.four
  have zl := KO.out.lt
  have hlm : mn.length ≤ 50 := by have := hP0.nm; omega
  have hlo : ot.length ≤ 50 := by have := hP0.no; omega
  have hlt : tk.length ≤ 50 := by have := hP0.nt; omega
  have yl := cell_lt y0
  clear hJ hP0
  generalize hw2 : wr.alloc (.cells #[.int .i64 2, .int .i64 (own : Int), .int .u8 (nn : Int), .int .u64 x] 41) = w2 at *
  obtain ⟨q0, q1⟩ := HJ2.out.ba.bx.two
  have q2 := HJ2.out.ba.lt
  obtain ⟨r0, r1⟩ := HJ2.out.bb.bx.two
  have r2 := HJ2.out.bb.lt
  conv => arg 2; whnf
  have hmod : (nn : Int).tmod (mn.length : Int) = ((nn % mn.length : Nat) : Int) := by rw [Int.tmod_eq_emod_of_nonneg (by omega)]; exact (Int.natCast_emod _ _).symm
  have hkl : nn % mn.length < mn.length := Nat.mod_lt _ (by omega)
  have hw64 : wrap64 (nn : Int) = (nn : Int) := by unfold wrap64; omega
  obtain ⟨c, hc⟩ : ∃ c, mn[nn % mn.length]? = some c := ⟨_, List.getElem?_eq_getElem hkl⟩
  obtain ⟨bt, ot2, rfl, hbt, hbb, hcell⟩ := row_at clC3 3 (fun _ => rfl) (by decide) HJ2.out.rm hc
  have hmine := hP.out.mine c (List.mem_of_getElem? hc)
  obtain ⟨c0, c1, c2⟩ := c
  simp only at hmine
  subst hmine
  have t0 : w2.cell? ⟨bt, ot2 + nn % mn.length * 3, none⟩ = some (.int .i64 (own : Int)) := hcell 0 _ rfl
  have t1 : w2.cell? ⟨bt, ot2 + nn % mn.length * 3 + 1, none⟩ = some (.int .i64 c1) := hcell 1 _ rfl
  have t2 : w2.cell? ⟨bt, ot2 + nn % mn.length * 3 + 2, none⟩ = some (.int .i64 c2) := hcell 2 _ rfl
  have kc : Hid (Blk (w2.alloc (.cells #[.int .i64 (own : Int), .int .i64 c1, .int .i64 c2] 47)) w2.heap.size 47 [.int .i64 (own : Int), .int .i64 c1, .int .i64 c2]) := blk_new w2 [.int .i64 (own : Int), .int .i64 c1, .int .i64 c2] 47
  have J3 : Hid (AJ w (w2.alloc (.cells #[.int .i64 (own : Int), .int .i64 c1, .int .i64 c2] 47)) PA PB (.slice qla qln qlc) (.slice qma qmn qmc) (.slice pla pln plc2) (.slice pma pmn pmc) (.slice (some ⟨bt, ot2, none⟩) mn.length mc) (.slice oa2 ot.length oc2) (.slice ta tk.length tc) A B VA VB mn ot tk) := HJ2.out.grow (below_new _ _)
  have KO3 : Hid (Blk (w2.alloc (.cells #[.int .i64 (own : Int), .int .i64 c1, .int .i64 c2] 47)) wr.heap.size _ _) := KO.out.below (below_new _ _)
  have hml : (0 : Int) < (mn.length : Int) := by omega
  have hmz : ¬ (mn.length : Int) = 0 := by omega
  generalize nn % mn.length = kk at *
  have hkl2 : (kk : Int) < (mn.length : Int) := by omega
  generalize hw3 : w2.alloc (.cells #[.int .i64 (own : Int), .int .i64 c1, .int .i64 c2] 47) = w3 at *
  obtain ⟨q0', q1'⟩ := J3.out.ba.bx.two
  have q2' := J3.out.ba.lt
  obtain ⟨_, _, _, z3'⟩ := KO3.out.bx.four
  have z4' := KO3.out.lt
  obtain ⟨x0, x1, x2⟩ := kc.out.bx.three
  have x3 := kc.out.lt
  have HBB : Hid (w.heap.size ≤ bt) := hbb
  clear hcell hc hbb
  go_wp2_with fail
  refine (publish_any _ _ A VA (own : Int) c1 c2 x _ (by have := hP.out.ma; omega) (hP.out.okqA (by omega)) J3.out.qa).mono ?_
  rintro e w4 ⟨sl, sm, V3, rfl, hq4, hb4, hn4⟩
  obtain ⟨sla, sln, slc, rfl⟩ := sl_form hq4.l
  obtain ⟨sma, smn, smc, rfl⟩ := sl_form hq4.m
  obtain ⟨k1, b4, s4⟩ := alloc1 w4 [.slice sla sln slc, .slice sma smn smc] 30
  have J4 : Hid (AJ w w4 PA PB (.slice qla qln qlc) (.slice qma qmn qmc) (.slice pla pln plc2) (.slice pma pmn pmc) (.slice (some ⟨bt, ot2, none⟩) mn.length mc) (.slice oa2 ot.length oc2) (.slice ta tk.length tc) A B VA VB mn ot tk) := J3.out.grow hb4
  have J5 : Hid (AJ w (w4.alloc (.cells #[.slice sla sln slc, .slice sma smn smc] 30)) PA PB (.slice qla qln qlc) (.slice qma qmn qmc) (.slice pla pln plc2) (.slice pma pmn pmc) (.slice (some ⟨bt, ot2, none⟩) mn.length mc) (.slice oa2 ot.length oc2) (.slice ta tk.length tc) A B VA VB mn ot tk) := J4.out.grow b4
  have Q5 : Hid (QIs (w4.alloc (.cells #[.slice sla sln slc, .slice sma smn smc] 30)) _ _ (A.pbQ (own : Int) c1 c2 x) V3) := hq4.below b4
  have SP : Hid (QSep (.slice sla sln slc) (.slice sma smn smc) (A.pbQ (own : Int) c1 c2 x) V3 (.slice (some ⟨bt, ot2, none⟩) mn.length mc) ∧ QSep (.slice sla sln slc) (.slice sma smn smc) (A.pbQ (own : Int) c1 c2 x) V3 (.slice oa2 ot.length oc2) ∧ QSep (.slice sla sln slc) (.slice sma smn smc) (A.pbQ (own : Int) c1 c2 x) V3 (.slice ta tk.length tc)) := J3.out.sep hn4 (Nat.le_refl _)
  have K1 : Hid (Blk (w4.alloc (.cells #[.slice sla sln slc, .slice sma smn smc] 30)) _ _ _) := k1
  have kc5 : Hid (Blk (w4.alloc (.cells #[.slice sla sln slc, .slice sma smn smc] 30)) w2.heap.size _ _) := (kc.out.below hb4).below b4
  have KO5 : Hid (Blk (w4.alloc (.cells #[.slice sla sln slc, .slice sma smn smc] 30)) wr.heap.size _ _) := (KO3.out.below hb4).below b4
  have HS3 : Hid (PA < w4.heap.size ∧ PB < w4.heap.size) := ⟨J4.out.ba.lt, J4.out.bb.lt⟩
  have cc := publish_any _ _ B VB (own : Int) c1 c2 x _ (by have := hP.out.mb; omega) (hP.out.okqB (by omega)) J5.out.qb
  have crA := fun W (h : Below (w4.alloc (.cells #[.slice sla sln slc, .slice sma smn smc] 30)).heap.size (w4.alloc (.cells #[.slice sla sln slc, .slice sma smn smc] 30)) W) => ready_any _ _ A VA (own : Int) c1 c2 W (hP.out.okqA (by omega)) (J5.out.qa.below h)
  have crB := fun W (h : Below (w4.alloc (.cells #[.slice sla sln slc, .slice sma smn smc] 30)).heap.size (w4.alloc (.cells #[.slice sla sln slc, .slice sma smn smc] 30)) W) => ready_any _ _ B VB (own : Int) c1 c2 W (hP.out.okqB (by omega)) (J5.out.qb.below h)
  rw [← hP.out.pbE c1 c2] at cc
  simp only [← hP.out.pbE c1 c2] at crB
  obtain ⟨r0', r1'⟩ := J5.out.bb.bx.two
  have r2' := J5.out.bb.lt
  obtain ⟨_, _, _, z3''⟩ := KO5.out.bx.four
  have z4'' := KO5.out.lt
  obtain ⟨y0', y1', y2'⟩ := kc5.out.bx.three
  have y3' := kc5.out.lt
  have HW4 : Hid ((w4.alloc (.cells #[.slice sla sln slc, .slice sma smn smc] 30)).heap.size = w4.heap.size + 1) := s4
  clear k1 b4 s4 hb4 hq4 hn4 q0' q1' q2' z3' z4' x0 x1 x2 x3 t0 t1 t2 hw3 z0 z1 z2 z3 zl y0 y1 y2 y3 yl q0 q1 q2 r0 r1 r2 hw2
  generalize hee : A.pbE (own : Int) c1 c2 = ee at *
  generalize hw5 : w4.alloc (.cells #[.slice sla sln slc, .slice sma smn smc] 30) = w5 at *
  go_wp2_with fail
  clear r0' r1' r2' z3'' z4'' y0' y1' y2' y3'
  refine cc.mono ?_
  rintro e w6 ⟨vl, vm', V6, rfl, hq6, hb6, hn6⟩
  obtain ⟨vla, vln, vlc, rfl⟩ := sl_form hq6.l
  obtain ⟨vma, vmn, vmc, rfl⟩ := sl_form hq6.m
  obtain ⟨k1, b7, s7⟩ := alloc1 w6 [.slice vla vln vlc, .slice vma vmn vmc] 30
  have B7 : Hid (Below w5.heap.size w5 (w6.alloc (.cells #[.slice vla vln vlc, .slice vma vmn vmc] 30))) := Below.onto hb6 b7
  have J7 : Hid (AJ w (w6.alloc (.cells #[.slice vla vln vlc, .slice vma vmn vmc] 30)) PA PB (.slice qla qln qlc) (.slice qma qmn qmc) (.slice pla pln plc2) (.slice pma pmn pmc) (.slice (some ⟨bt, ot2, none⟩) mn.length mc) (.slice oa2 ot.length oc2) (.slice ta tk.length tc) A B VA VB mn ot tk) := (J5.out.grow hb6).grow b7
  have QA7 : Hid (QIs (w6.alloc (.cells #[.slice vla vln vlc, .slice vma vmn vmc] 30)) _ _ (A.pbQ (own : Int) c1 c2 x) V3) := (Q5.out.below hb6).below b7
  have QB7 : Hid (QIs (w6.alloc (.cells #[.slice vla vln vlc, .slice vma vmn vmc] 30)) _ _ (B.pbQ (own : Int) c1 c2 x) V6) := hq6.below b7
  have SPB : Hid (QSep (.slice vla vln vlc) (.slice vma vmn vmc) (B.pbQ (own : Int) c1 c2 x) V6 (.slice (some ⟨bt, ot2, none⟩) mn.length mc) ∧ QSep (.slice vla vln vlc) (.slice vma vmn vmc) (B.pbQ (own : Int) c1 c2 x) V6 (.slice oa2 ot.length oc2) ∧ QSep (.slice vla vln vlc) (.slice vma vmn vmc) (B.pbQ (own : Int) c1 c2 x) V6 (.slice ta tk.length tc)) := J5.out.sep hn6 (Nat.le_refl _)
  have K1' : Hid (Blk (w6.alloc (.cells #[.slice vla vln vlc, .slice vma vmn vmc] 30)) w4.heap.size 30 [.slice sla sln slc, .slice sma smn smc]) := (K1.out.below hb6).below b7
  have K3' : Hid (Blk (w6.alloc (.cells #[.slice vla vln vlc, .slice vma vmn vmc] 30)) w6.heap.size 30 [.slice vla vln vlc, .slice vma vmn vmc]) := k1
  have kc7 : Hid (Blk (w6.alloc (.cells #[.slice vla vln vlc, .slice vma vmn vmc] 30)) w2.heap.size 47 [.int .i64 (own : Int), .int .i64 c1, .int .i64 c2]) := (kc5.out.below hb6).below b7
  have HS5 : Hid (w4.heap.size + 1 ≤ w6.heap.size) := by have := hb6.size; have := HW4.out; show _ ≤ _; omega
  clear cc k1 b7 s7 hb6 hq6 hn6 hw5
  generalize hw7 : w6.alloc (.cells #[.slice vla vln vlc, .slice vma vmn vmc] 30) = w7 at *
  have bd : Below w7.heap.size w7 w7.drew := (Below.refl _ w7).drew
  have toS : ∀ W, Below w7.heap.size w7 W → (W.cell? ⟨PA, 0, none⟩ = some (.slice qla qln qlc) ∧ W.cell? ⟨PA, 1, none⟩ = some (.slice qma qmn qmc)) ∧ (W.cell? ⟨PB, 0, none⟩ = some (.slice pla pln plc2) ∧ W.cell? ⟨PB, 1, none⟩ = some (.slice pma pmn pmc)) ∧ W.cell? ⟨w2.heap.size, 0, none⟩ = some (.int .i64 (own : Int)) ∧ W.cell? ⟨w2.heap.size, 1, none⟩ = some (.int .i64 c1) ∧ W.cell? ⟨w2.heap.size, 2, none⟩ = some (.int .i64 c2) := fun W hW =>
    ⟨(J7.out.ba.below hW).bx.two, (J7.out.bb.below hW).bx.two, (kc7.out.below hW).bx.three⟩
  have hrA := fun W (h : Below w7.heap.size w7 W) => (crA W (Below.onto B7.out h)).mono fun _ _ h' => (⟨h'.1, Below.onto h h'.2⟩ : _ ∧ Below w7.heap.size w7 _)
  have hrB := fun W (h : Below w7.heap.size w7 W) => (crB W (Below.onto B7.out h)).mono fun _ _ h' => (⟨h'.1, Below.onto h h'.2⟩ : _ ∧ Below w7.heap.size w7 _)
  clear crA crB
  have HEE : Hid (A.pbE (own : Int) c1 c2 = ee) := hee
  clear hee
  generalize (decide (ee = 0) : Bool) = rdy at hrA hrB
  go_wp2_with fail
  go_region_held3 (fun W => (W.cell? ⟨PA, 0, none⟩ = some (.slice qla qln qlc) ∧ W.cell? ⟨PA, 1, none⟩ = some (.slice qma qmn qmc)) ∧ (W.cell? ⟨PB, 0, none⟩ = some (.slice pla pln plc2) ∧ W.cell? ⟨PB, 1, none⟩ = some (.slice pma pmn pmc)) ∧ W.cell? ⟨w2.heap.size, 0, none⟩ = some (.int .i64 (own : Int)) ∧ W.cell? ⟨w2.heap.size, 1, none⟩ = some (.int .i64 c1) ∧ W.cell? ⟨w2.heap.size, 2, none⟩ = some (.int .i64 c2)) (first | (with_reducible assumption) | exact toS _ (by assumption)) (first | (go_at_call 12; (with_reducible refine (hrA _ bd).mono ?_); rintro v w8 ⟨rfl, B8⟩) | (go_at_call 12; (with_reducible refine (hrB _ (by assumption)).mono ?_); rintro v w8 ⟨rfl, B8⟩))
  all_goals
    have J8 : Hid (AJ w w8 PA PB (.slice qla qln qlc) (.slice qma qmn qmc) (.slice pla pln plc2) (.slice pma pmn pmc) (.slice (some ⟨bt, ot2, none⟩) mn.length mc) (.slice oa2 ot.length oc2) (.slice ta tk.length tc) A B VA VB mn ot tk) := J7.out.grow B8
    have QA8 : Hid (QIs w8 _ _ (A.pbQ (own : Int) c1 c2 x) V3) := QA7.out.below B8
    have QB8 : Hid (QIs w8 _ _ (B.pbQ (own : Int) c1 c2 x) V6) := QB7.out.below B8
    have K1'' : Hid (Blk w8 w4.heap.size 30 [.slice sla sln slc, .slice sma smn smc]) := K1'.out.below B8
    have K3'' : Hid (Blk w8 w6.heap.size 30 [.slice vla vln vlc, .slice vma vmn vmc]) := K3'.out.below B8
    clear hrA hrB toS bd B8
    by_cases hE : ee = 0
    · have hE1 : (ee == 0) = true := by simpa using hE
      have HE0 : Hid (A.pbE (own : Int) c1 c2 = 0) := HEE.out.trans hE
      clear hE
      have n1 : w4.heap.size ≠ PA := by have := HS3.out; omega
      have n2 : w4.heap.size ≠ PB := by have := HS3.out; omega
      have n3 : w6.heap.size ≠ PA := by have := HS3.out; have := HS5.out; omega
      have n4 : w6.heap.size ≠ PB := by have := HS3.out; have := HS5.out; omega
      have HJ9 : Hid _ := (J8.out.storeAB QA8.out QB8.out SP.out SPB.out).grow (Below.refl _ _).drew
      obtain ⟨a0, a1⟩ := K1''.out.bx.two
      obtain ⟨d0, d1⟩ := K3''.out.bx.two
      obtain ⟨e0, e1⟩ := J8.out.ba.bx.two
      obtain ⟨g0, g1⟩ := J8.out.bb.bx.two
      have e2 := J8.out.ba.fz
      have g2 := J8.out.bb.fz
      have e3 := J8.out.ba.lt
      have g3 := J8.out.bb.lt
      have n5 : PA ≠ PB := J8.out.ne
      have n6 : PB ≠ PA := Ne.symm J8.out.ne
      have HP9 : Hid _ := hP.out.pub2 (x := x) HE0.out
      go_wp2_with fail
      go_region_held3 (fun W => W.cell? ⟨w4.heap.size, 0, none⟩ = some (.slice sla sln slc) ∧ W.cell? ⟨w4.heap.size, 1, none⟩ = some (.slice sma smn smc) ∧ W.cell? ⟨w6.heap.size, 0, none⟩ = some (.slice vla vln vlc) ∧ W.cell? ⟨w6.heap.size, 1, none⟩ = some (.slice vma vmn vmc)) (first | (with_reducible assumption) | exact ⟨a0, a1, d0, d1⟩ | exact ⟨co n1 (co n1 a0), co n1 (co n1 a1), co n3 (co n3 d0), co n3 (co n3 d1)⟩ | exact ⟨co n2 (co n2 (co n1 (co n1 a0))), co n2 (co n2 (co n1 (co n1 a1))), co n4 (co n4 (co n3 (co n3 d0))), co n4 (co n4 (co n3 (co n3 d1)))⟩ | go_keep) (fail)
      clear a0 a1 d0 d1 e0 e1 g0 g1 e2 g2 e3 g3
      go_wp2_with fail
      exact ⟨⟨_, rfl, rfl, rfl, rfl, rfl, rfl, _, _, _, _, _, _, _, _, _, _, _, _, _, _, j + 1, rfl, rfl, rfl, rfl, by omega, HJ9.out, HP9.out⟩, by simp [amu, intOf]; omega⟩
    · have hE1 : (ee == 0) = false := by simpa using hE
      go_wp2_with fail
      exact ⟨⟨_, rfl, rfl, rfl, rfl, rfl, rfl, _, _, _, _, _, _, _, _, _, _, _, _, _, _, j + 1, rfl, rfl, rfl, rfl, by omega, J8.out, hP.out.up⟩, by simp [amu, intOf]; omega⟩
end Go.Proofs.Ytkgehbonijpdnaa
