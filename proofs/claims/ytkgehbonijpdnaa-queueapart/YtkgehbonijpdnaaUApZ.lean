/- QueueApart's round, and its loop. -/
import Derived.Test.YtkgehbonijpdnaaUApA
import Derived.Test.YtkgehbonijpdnaaUApC
import Derived.Test.YtkgehbonijpdnaaUApD
import Derived.Test.YtkgehbonijpdnaaUApE
import Derived.Test.YtkgehbonijpdnaaUApN
namespace Go.Proofs.Ytkgehbonijpdnaa
open Go.RowKit Go.Sort
set_option maxRecDepth 1000000

set_option maxHeartbeats 16000000 in
theorem ap_round {w : World} {oa : Option Addr} {on oc own PA PB n : Nat} {g : Nat → UOp} {Q0 : Exit → Act → World → Prop}
    (hO : Rd w oa on 4 (fun j => encO (g j)) ∧ ∀ j, j < on → 0 ≤ (g j).n ∧ (g j).n < 256) (hQ0 : ∀ c a d v w, Q0 (.panic c) (Act.put a d v) w → Q0 (.panic c) a w) (hX : ∀ a w'', AI w oa on oc own PA PB n a w'' → Q0 (.exit 2) a w'') (a : Act) (wr : World) (hI : AI w oa on oc own PA PB n a wr) :
    Code.wp Try.prog ((((Try.f4.body.map uloops).getD [])[1]?).getD .skip) (Exit.then (fun a' w'' => AI w oa on oc own PA PB n a' w'' ∧ amu on a' w'' < amu on a wr) Q0) a wr := by
  obtain ⟨T, rfl, hs, h2, h10, h11, h13, vm, vo, vt, ql, qm, pl, pm, A, B, VA, VB, mn, ot, tk, j, h15, h16, h17, h18, hj, hJ, hP⟩ := hI
  revert h2 h10 h11 h13 h15 h16 h17 h18
  refine frame_open (P := fun T => T[2]? = some (.slice oa on oc) → T[10]? = some (.int .i64 (own : Int)) → T[11]? = some (.pointer (some ⟨PA, 0, none⟩)) → T[13]? = some (.pointer (some ⟨PB, 0, none⟩)) → T[15]? = some vm → T[16]? = some vo → T[17]? = some vt → T[18]? = some (.int .i64 (j : Int)) → Code.wp Try.prog ((((Try.f4.body.map uloops).getD [])[1]?).getD .skip) (Exit.then (fun a' w'' => AI w oa on oc own PA PB n a' w'' ∧ amu on a' w'' < amu on ⟨T, []⟩ wr) Q0) ⟨T, []⟩ wr) ?_ T hs
  intro u0 u1 u2 u3 u4 u5 u6 u7 u8 u9 u10 u11 u12 u13 u14 u15 u16 u17 u18 u19 u20 u21 u22 u23 u24 u25 u26 u27 u28 u29 u30 u31 u32 u33 u34 u35 u36 u37 u38 u39 u40 u41 u42 u43 u44 u45 u46 u47 u48 u49 u50 u51 u52 u53 u54 u55 u56 u57 u58 u59 u60 u61 u62 u63 u64 u65 u66 u67 u68 u69 u70 u71 u72 u73 u74 u75 u76 u77 u78 u79 u80 u81 u82 u83 u84 u85 u86 u87 u88 u89 u90 u91 u92 u93 u94 u95 u96 u97 u98 u99 u100 u101 u102 u103 u104 u105 u106 u107 u108 u109 u110 u111 u112 u113 u114 u115 u116 u117 u118 u119 u120 u121 u122 u123 u124 u125 u126 u127 u128 u129 u130 u131 u132 u133 u134 u135 u136 u137 u138 u139 u140 u141 u142 u143 u144 u145 u146 u147 u148 u149 u150 u151 u152 u153 u154 u155 u156 u157 u158 u159 u160 u161 u162 u163 u164 u165 u166 u167 u168 u169 u170 u171 u172 u173 u174 u175 u176 u177 u178 u179 u180 u181 u182 u183 u184 u185 u186 u187 u188 u189 u190 u191 u192 u193 u194 u195 u196 u197 u198 u199 u200 u201 u202 u203 u204 u205 u206 u207 u208 u209 u210 u211 u212 u213 u214 u215 u216 u217 u218 u219 u220 u221 u222 u223 u224 u225 u226 u227 u228 u229 u230 u231 u232 u233 u234 u235 u236 u237 u238 u239 u240 u241 u242 u243 u244 u245 u246 u247 u248 u249 u250 u251 u252 u253 u254 u255 u256 u257 u258 u259 u260 u261 u262 u263 u264 u265 u266 u267 u268 u269 u270 u271 u272 u273 u274 u275 u276 u277 u278 u279 u280 u281 u282 u283 u284 u285 u286 u287 u288 u289 u290 u291 u292 u293 u294 u295 u296 u297 u298 u299 u300 u301 u302 u303 u304 u305 u306 u307 u308 u309 u310 u311 u312 u313 u314 u315 u316 u317 u318 u319 u320 u321 u322 u323 u324 u325 u326 u327 u328 u329 u330 u331 u332 u333 u334 u335 u336 u337 u338 u339 u340 u341 u342 u343 u344 u345 u346 u347 u348 u349 u350 u351 u352 h2 h10 h11 h13 h15 h16 h17 h18
  obtain rfl : u2 = _ := Option.some.inj h2
  obtain rfl : u10 = _ := Option.some.inj h10
  obtain rfl : u11 = _ := Option.some.inj h11
  obtain rfl : u13 = _ := Option.some.inj h13
  obtain rfl : u15 = _ := Option.some.inj h15
  obtain rfl : u16 = _ := Option.some.inj h16
  obtain rfl : u17 = _ := Option.some.inj h17
  obtain rfl : u18 = _ := Option.some.inj h18
  clear h2 h10 h11 h13 h15 h16 h17 h18 hs
  obtain ⟨ma, mc, rfl⟩ := own_form2 hJ.rm
  obtain ⟨oa2, oc2, rfl⟩ := own_form2 hJ.ro
  obtain ⟨ta, tc, rfl⟩ := own_form2 hJ.rt
  by_cases hfin : j < on ∧ j < 50
  · obtain ⟨hf1, hf2⟩ := hfin
    obtain ⟨qla, qln, qlc, rfl⟩ := sl_form hJ.qa.l
    obtain ⟨qma, qmn, qmc, rfl⟩ := sl_form hJ.qa.m
    obtain ⟨pla, pln, plc2, rfl⟩ := sl_form hJ.qb.l
    obtain ⟨pma, pmn, pmc, rfl⟩ := sl_form hJ.qb.m
    obtain ⟨ob, oo, rfl, y0, y1, y2, y3⟩ := uop_at (hO.1.below hJ.bel) hf1
    obtain ⟨g0, g1⟩ := hO.2 j hf1
    generalize g j = o at y0 y1 y2 y3 g0 g1
    obtain ⟨k, ln, nn, x⟩ := o
    dsimp only at y0 y1 y2 y3 g0 g1
    obtain ⟨nn, rfl⟩ := Int.eq_ofNat_of_zero_le g0
    have hnn : nn < 256 := by omega
    by_cases k1 : k = 1
    · subst k1
      by_cases hl : ln = (own : Int)
      · subst hl
        exact ap_caseA hJ hP hf1 hf2 y0 y1 y2 y3 hQ0
      · exact ap_caseB hJ hP hf1 hf2 y0 y1 y2 y3 hl hQ0
    · by_cases k2 : k = 2
      · subst k2
        by_cases hl : ln = (own : Int)
        · subst hl
          by_cases hm : mn.length = 0
          · by_cases ho : ot.length = 0
            · exact ap_caseN2 hJ hP hf1 hf2 y0 y1 y2 y3 hm ho hQ0
            · exact ap_caseD2 hJ hP hf1 hf2 y0 y1 y2 y3 hnn (Nat.pos_of_ne_zero ho) hm hQ0
          · exact ap_caseC hJ hP hf1 hf2 y0 y1 y2 y3 hnn (Nat.pos_of_ne_zero hm) hQ0
        · by_cases ho : ot.length = 0
          · exact ap_caseN3 hJ hP hf1 hf2 y0 y1 y2 y3 hl ho hQ0
          · exact ap_caseD hJ hP hf1 hf2 y0 y1 y2 y3 hnn (Nat.pos_of_ne_zero ho) hl hQ0
      · by_cases k3 : k = 3
        · subst k3
          exact ap_caseF hJ hP hf1 hf2 y0 y1 y2 y3 hQ0
        · by_cases k4 : k = 4
          · subst k4
            by_cases ht : tk.length = 0
            · exact ap_caseN4 hJ hP hf1 hf2 y0 y1 y2 y3 ht hQ0
            · exact ap_caseG hJ hP hf1 hf2 y0 y1 y2 y3 hnn (Nat.pos_of_ne_zero ht) hQ0
          · by_cases k5 : k = 5
            · subst k5
              by_cases hl : ln = (own : Int)
              · subst hl
                exact ap_caseE hJ hP hf1 hf2 y0 y1 y2 y3 hQ0
              · exact ap_caseN5 hJ hP hf1 hf2 y0 y1 y2 y3 hl hQ0
            · exact ap_caseN0 hJ hP hf1 hf2 y0 y1 y2 y3 k1 k2 k3 k4 k5 hQ0
  · exact ap_exit hJ hP hj hfin hX
theorem ap_loop {w : World} {oa : Option Addr} {on oc own PA PB n : Nat} {g : Nat → UOp} (hO : Rd w oa on 4 (fun j => encO (g j)) ∧ ∀ j, j < on → 0 ≤ (g j).n ∧ (g j).n < 256) (a : Act) (wr : World) (hI : AI w oa on oc own PA PB n a wr) :
    Code.wp Try.prog (Code.loop ((((Try.f4.body.map uloops).getD [])[1]?).getD .skip)) (fun e a' w'' => e = .exit 2 ∧ AI w oa on oc own PA PB n a' w'') a wr :=
  wp_loop (AI w oa on oc own PA PB n) (amu on) hI fun a' w'' h => ap_round hO (fun _ _ _ _ _ h => by cases h.1) (fun _ _ h => ⟨rfl, h⟩) a' w'' h
end Go.Proofs.Ytkgehbonijpdnaa
