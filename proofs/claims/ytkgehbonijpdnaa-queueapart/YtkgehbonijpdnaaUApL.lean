/- QueueApart's loop, cut out; its frame. -/
import Derived.Test.YtkgehbonijpdnaaUApR
import Derived.Test.YtkgehbonijpdnaaUFifoA
namespace Go.Proofs.Ytkgehbonijpdnaa
open Go.RowKit Go.Sort
set_option maxRecDepth 1000000

def uloops : Code → List Code
  | .loop c => [c]
  | .seq a b => uloops a ++ uloops b
  | .block _ c => uloops c
  | .scope c => uloops c
  | .cond _ a b => uloops a ++ uloops b
  | _ => []
/-- what the loop keeps -/
def AI (w0 : World) (oa : Option Addr) (on oc own PA PB n : Nat) (a : Act) (wr : World) : Prop :=
  ∃ T : Array Value, a = ⟨T, []⟩ ∧ T.size = 353 ∧ T[2]? = some (.slice oa on oc) ∧ T[10]? = some (.int .i64 (own : Int)) ∧ T[11]? = some (.pointer (some ⟨PA, 0, none⟩)) ∧ T[13]? = some (.pointer (some ⟨PB, 0, none⟩)) ∧
    ∃ (vm vo vt ql qm pl pm : Value) (A B : Qu) (VA VB : Nat → Value) (mn ot : List (Int × Int × Int)) (tk : List PMs) (j : Nat), T[15]? = some vm ∧ T[16]? = some vo ∧ T[17]? = some vt ∧ T[18]? = some (.int .i64 (j : Int)) ∧ j ≤ on ∧ AJ w0 wr PA PB ql qm pl pm vm vo vt A B VA VB mn ot tk ∧ Ap A B mn ot tk n own j
def amu (on : Nat) (a : Act) (_ : World) : Nat := on - (intOf (a.tmps[18]?.getD undef)).toNat
theorem ucons {n : Nat} {l : List Value} (h : l.length = n + 1) : ∃ x t, l = x :: t ∧ t.length = n := by
  match l, h with
  | x :: t, h => exact ⟨x, t, rfl, by simpa using h⟩
set_option maxHeartbeats 4000000 in
theorem frame_open {P : Array Value → Prop} (H : ∀ u0 u1 u2 u3 u4 u5 u6 u7 u8 u9 u10 u11 u12 u13 u14 u15 u16 u17 u18 u19 u20 u21 u22 u23 u24 u25 u26 u27 u28 u29 u30 u31 u32 u33 u34 u35 u36 u37 u38 u39 u40 u41 u42 u43 u44 u45 u46 u47 u48 u49 u50 u51 u52 u53 u54 u55 u56 u57 u58 u59 u60 u61 u62 u63 u64 u65 u66 u67 u68 u69 u70 u71 u72 u73 u74 u75 u76 u77 u78 u79 u80 u81 u82 u83 u84 u85 u86 u87 u88 u89 u90 u91 u92 u93 u94 u95 u96 u97 u98 u99 u100 u101 u102 u103 u104 u105 u106 u107 u108 u109 u110 u111 u112 u113 u114 u115 u116 u117 u118 u119 u120 u121 u122 u123 u124 u125 u126 u127 u128 u129 u130 u131 u132 u133 u134 u135 u136 u137 u138 u139 u140 u141 u142 u143 u144 u145 u146 u147 u148 u149 u150 u151 u152 u153 u154 u155 u156 u157 u158 u159 u160 u161 u162 u163 u164 u165 u166 u167 u168 u169 u170 u171 u172 u173 u174 u175 u176 u177 u178 u179 u180 u181 u182 u183 u184 u185 u186 u187 u188 u189 u190 u191 u192 u193 u194 u195 u196 u197 u198 u199 u200 u201 u202 u203 u204 u205 u206 u207 u208 u209 u210 u211 u212 u213 u214 u215 u216 u217 u218 u219 u220 u221 u222 u223 u224 u225 u226 u227 u228 u229 u230 u231 u232 u233 u234 u235 u236 u237 u238 u239 u240 u241 u242 u243 u244 u245 u246 u247 u248 u249 u250 u251 u252 u253 u254 u255 u256 u257 u258 u259 u260 u261 u262 u263 u264 u265 u266 u267 u268 u269 u270 u271 u272 u273 u274 u275 u276 u277 u278 u279 u280 u281 u282 u283 u284 u285 u286 u287 u288 u289 u290 u291 u292 u293 u294 u295 u296 u297 u298 u299 u300 u301 u302 u303 u304 u305 u306 u307 u308 u309 u310 u311 u312 u313 u314 u315 u316 u317 u318 u319 u320 u321 u322 u323 u324 u325 u326 u327 u328 u329 u330 u331 u332 u333 u334 u335 u336 u337 u338 u339 u340 u341 u342 u343 u344 u345 u346 u347 u348 u349 u350 u351 u352 : Value, P #[u0, u1, u2, u3, u4, u5, u6, u7, u8, u9, u10, u11, u12, u13, u14, u15, u16, u17, u18, u19, u20, u21, u22, u23, u24, u25, u26, u27, u28, u29, u30, u31, u32, u33, u34, u35, u36, u37, u38, u39, u40, u41, u42, u43, u44, u45, u46, u47, u48, u49, u50, u51, u52, u53, u54, u55, u56, u57, u58, u59, u60, u61, u62, u63, u64, u65, u66, u67, u68, u69, u70, u71, u72, u73, u74, u75, u76, u77, u78, u79, u80, u81, u82, u83, u84, u85, u86, u87, u88, u89, u90, u91, u92, u93, u94, u95, u96, u97, u98, u99, u100, u101, u102, u103, u104, u105, u106, u107, u108, u109, u110, u111, u112, u113, u114, u115, u116, u117, u118, u119, u120, u121, u122, u123, u124, u125, u126, u127, u128, u129, u130, u131, u132, u133, u134, u135, u136, u137, u138, u139, u140, u141, u142, u143, u144, u145, u146, u147, u148, u149, u150, u151, u152, u153, u154, u155, u156, u157, u158, u159, u160, u161, u162, u163, u164, u165, u166, u167, u168, u169, u170, u171, u172, u173, u174, u175, u176, u177, u178, u179, u180, u181, u182, u183, u184, u185, u186, u187, u188, u189, u190, u191, u192, u193, u194, u195, u196, u197, u198, u199, u200, u201, u202, u203, u204, u205, u206, u207, u208, u209, u210, u211, u212, u213, u214, u215, u216, u217, u218, u219, u220, u221, u222, u223, u224, u225, u226, u227, u228, u229, u230, u231, u232, u233, u234, u235, u236, u237, u238, u239, u240, u241, u242, u243, u244, u245, u246, u247, u248, u249, u250, u251, u252, u253, u254, u255, u256, u257, u258, u259, u260, u261, u262, u263, u264, u265, u266, u267, u268, u269, u270, u271, u272, u273, u274, u275, u276, u277, u278, u279, u280, u281, u282, u283, u284, u285, u286, u287, u288, u289, u290, u291, u292, u293, u294, u295, u296, u297, u298, u299, u300, u301, u302, u303, u304, u305, u306, u307, u308, u309, u310, u311, u312, u313, u314, u315, u316, u317, u318, u319, u320, u321, u322, u323, u324, u325, u326, u327, u328, u329, u330, u331, u332, u333, u334, u335, u336, u337, u338, u339, u340, u341, u342, u343, u344, u345, u346, u347, u348, u349, u350, u351, u352]) : ∀ T : Array Value, T.size = 353 → P T := by
  rintro ⟨l⟩ h
  replace h : l.length = 353 := h
  obtain ⟨u0, l0, rfl, h0⟩ := ucons h; clear h
  obtain ⟨u1, l1, rfl, h1⟩ := ucons h0; clear h0
  obtain ⟨u2, l2, rfl, h2⟩ := ucons h1; clear h1
  obtain ⟨u3, l3, rfl, h3⟩ := ucons h2; clear h2
  obtain ⟨u4, l4, rfl, h4⟩ := ucons h3; clear h3
  obtain ⟨u5, l5, rfl, h5⟩ := ucons h4; clear h4
  obtain ⟨u6, l6, rfl, h6⟩ := ucons h5; clear h5
  obtain ⟨u7, l7, rfl, h7⟩ := ucons h6; clear h6
  obtain ⟨u8, l8, rfl, h8⟩ := ucons h7; clear h7
  obtain ⟨u9, l9, rfl, h9⟩ := ucons h8; clear h8
  obtain ⟨u10, l10, rfl, h10⟩ := ucons h9; clear h9
  obtain ⟨u11, l11, rfl, h11⟩ := ucons h10; clear h10
  obtain ⟨u12, l12, rfl, h12⟩ := ucons h11; clear h11
  obtain ⟨u13, l13, rfl, h13⟩ := ucons h12; clear h12
  obtain ⟨u14, l14, rfl, h14⟩ := ucons h13; clear h13
  obtain ⟨u15, l15, rfl, h15⟩ := ucons h14; clear h14
  obtain ⟨u16, l16, rfl, h16⟩ := ucons h15; clear h15
  obtain ⟨u17, l17, rfl, h17⟩ := ucons h16; clear h16
  obtain ⟨u18, l18, rfl, h18⟩ := ucons h17; clear h17
  obtain ⟨u19, l19, rfl, h19⟩ := ucons h18; clear h18
  obtain ⟨u20, l20, rfl, h20⟩ := ucons h19; clear h19
  obtain ⟨u21, l21, rfl, h21⟩ := ucons h20; clear h20
  obtain ⟨u22, l22, rfl, h22⟩ := ucons h21; clear h21
  obtain ⟨u23, l23, rfl, h23⟩ := ucons h22; clear h22
  obtain ⟨u24, l24, rfl, h24⟩ := ucons h23; clear h23
  obtain ⟨u25, l25, rfl, h25⟩ := ucons h24; clear h24
  obtain ⟨u26, l26, rfl, h26⟩ := ucons h25; clear h25
  obtain ⟨u27, l27, rfl, h27⟩ := ucons h26; clear h26
  obtain ⟨u28, l28, rfl, h28⟩ := ucons h27; clear h27
  obtain ⟨u29, l29, rfl, h29⟩ := ucons h28; clear h28
  obtain ⟨u30, l30, rfl, h30⟩ := ucons h29; clear h29
  obtain ⟨u31, l31, rfl, h31⟩ := ucons h30; clear h30
  obtain ⟨u32, l32, rfl, h32⟩ := ucons h31; clear h31
  obtain ⟨u33, l33, rfl, h33⟩ := ucons h32; clear h32
  obtain ⟨u34, l34, rfl, h34⟩ := ucons h33; clear h33
  obtain ⟨u35, l35, rfl, h35⟩ := ucons h34; clear h34
  obtain ⟨u36, l36, rfl, h36⟩ := ucons h35; clear h35
  obtain ⟨u37, l37, rfl, h37⟩ := ucons h36; clear h36
  obtain ⟨u38, l38, rfl, h38⟩ := ucons h37; clear h37
  obtain ⟨u39, l39, rfl, h39⟩ := ucons h38; clear h38
  obtain ⟨u40, l40, rfl, h40⟩ := ucons h39; clear h39
  obtain ⟨u41, l41, rfl, h41⟩ := ucons h40; clear h40
  obtain ⟨u42, l42, rfl, h42⟩ := ucons h41; clear h41
  obtain ⟨u43, l43, rfl, h43⟩ := ucons h42; clear h42
  obtain ⟨u44, l44, rfl, h44⟩ := ucons h43; clear h43
  obtain ⟨u45, l45, rfl, h45⟩ := ucons h44; clear h44
  obtain ⟨u46, l46, rfl, h46⟩ := ucons h45; clear h45
  obtain ⟨u47, l47, rfl, h47⟩ := ucons h46; clear h46
  obtain ⟨u48, l48, rfl, h48⟩ := ucons h47; clear h47
  obtain ⟨u49, l49, rfl, h49⟩ := ucons h48; clear h48
  obtain ⟨u50, l50, rfl, h50⟩ := ucons h49; clear h49
  obtain ⟨u51, l51, rfl, h51⟩ := ucons h50; clear h50
  obtain ⟨u52, l52, rfl, h52⟩ := ucons h51; clear h51
  obtain ⟨u53, l53, rfl, h53⟩ := ucons h52; clear h52
  obtain ⟨u54, l54, rfl, h54⟩ := ucons h53; clear h53
  obtain ⟨u55, l55, rfl, h55⟩ := ucons h54; clear h54
  obtain ⟨u56, l56, rfl, h56⟩ := ucons h55; clear h55
  obtain ⟨u57, l57, rfl, h57⟩ := ucons h56; clear h56
  obtain ⟨u58, l58, rfl, h58⟩ := ucons h57; clear h57
  obtain ⟨u59, l59, rfl, h59⟩ := ucons h58; clear h58
  obtain ⟨u60, l60, rfl, h60⟩ := ucons h59; clear h59
  obtain ⟨u61, l61, rfl, h61⟩ := ucons h60; clear h60
  obtain ⟨u62, l62, rfl, h62⟩ := ucons h61; clear h61
  obtain ⟨u63, l63, rfl, h63⟩ := ucons h62; clear h62
  obtain ⟨u64, l64, rfl, h64⟩ := ucons h63; clear h63
  obtain ⟨u65, l65, rfl, h65⟩ := ucons h64; clear h64
  obtain ⟨u66, l66, rfl, h66⟩ := ucons h65; clear h65
  obtain ⟨u67, l67, rfl, h67⟩ := ucons h66; clear h66
  obtain ⟨u68, l68, rfl, h68⟩ := ucons h67; clear h67
  obtain ⟨u69, l69, rfl, h69⟩ := ucons h68; clear h68
  obtain ⟨u70, l70, rfl, h70⟩ := ucons h69; clear h69
  obtain ⟨u71, l71, rfl, h71⟩ := ucons h70; clear h70
  obtain ⟨u72, l72, rfl, h72⟩ := ucons h71; clear h71
  obtain ⟨u73, l73, rfl, h73⟩ := ucons h72; clear h72
  obtain ⟨u74, l74, rfl, h74⟩ := ucons h73; clear h73
  obtain ⟨u75, l75, rfl, h75⟩ := ucons h74; clear h74
  obtain ⟨u76, l76, rfl, h76⟩ := ucons h75; clear h75
  obtain ⟨u77, l77, rfl, h77⟩ := ucons h76; clear h76
  obtain ⟨u78, l78, rfl, h78⟩ := ucons h77; clear h77
  obtain ⟨u79, l79, rfl, h79⟩ := ucons h78; clear h78
  obtain ⟨u80, l80, rfl, h80⟩ := ucons h79; clear h79
  obtain ⟨u81, l81, rfl, h81⟩ := ucons h80; clear h80
  obtain ⟨u82, l82, rfl, h82⟩ := ucons h81; clear h81
  obtain ⟨u83, l83, rfl, h83⟩ := ucons h82; clear h82
  obtain ⟨u84, l84, rfl, h84⟩ := ucons h83; clear h83
  obtain ⟨u85, l85, rfl, h85⟩ := ucons h84; clear h84
  obtain ⟨u86, l86, rfl, h86⟩ := ucons h85; clear h85
  obtain ⟨u87, l87, rfl, h87⟩ := ucons h86; clear h86
  obtain ⟨u88, l88, rfl, h88⟩ := ucons h87; clear h87
  obtain ⟨u89, l89, rfl, h89⟩ := ucons h88; clear h88
  obtain ⟨u90, l90, rfl, h90⟩ := ucons h89; clear h89
  obtain ⟨u91, l91, rfl, h91⟩ := ucons h90; clear h90
  obtain ⟨u92, l92, rfl, h92⟩ := ucons h91; clear h91
  obtain ⟨u93, l93, rfl, h93⟩ := ucons h92; clear h92
  obtain ⟨u94, l94, rfl, h94⟩ := ucons h93; clear h93
  obtain ⟨u95, l95, rfl, h95⟩ := ucons h94; clear h94
  obtain ⟨u96, l96, rfl, h96⟩ := ucons h95; clear h95
  obtain ⟨u97, l97, rfl, h97⟩ := ucons h96; clear h96
  obtain ⟨u98, l98, rfl, h98⟩ := ucons h97; clear h97
  obtain ⟨u99, l99, rfl, h99⟩ := ucons h98; clear h98
  obtain ⟨u100, l100, rfl, h100⟩ := ucons h99; clear h99
  obtain ⟨u101, l101, rfl, h101⟩ := ucons h100; clear h100
  obtain ⟨u102, l102, rfl, h102⟩ := ucons h101; clear h101
  obtain ⟨u103, l103, rfl, h103⟩ := ucons h102; clear h102
  obtain ⟨u104, l104, rfl, h104⟩ := ucons h103; clear h103
  obtain ⟨u105, l105, rfl, h105⟩ := ucons h104; clear h104
  obtain ⟨u106, l106, rfl, h106⟩ := ucons h105; clear h105
  obtain ⟨u107, l107, rfl, h107⟩ := ucons h106; clear h106
  obtain ⟨u108, l108, rfl, h108⟩ := ucons h107; clear h107
  obtain ⟨u109, l109, rfl, h109⟩ := ucons h108; clear h108
  obtain ⟨u110, l110, rfl, h110⟩ := ucons h109; clear h109
  obtain ⟨u111, l111, rfl, h111⟩ := ucons h110; clear h110
  obtain ⟨u112, l112, rfl, h112⟩ := ucons h111; clear h111
  obtain ⟨u113, l113, rfl, h113⟩ := ucons h112; clear h112
  obtain ⟨u114, l114, rfl, h114⟩ := ucons h113; clear h113
  obtain ⟨u115, l115, rfl, h115⟩ := ucons h114; clear h114
  obtain ⟨u116, l116, rfl, h116⟩ := ucons h115; clear h115
  obtain ⟨u117, l117, rfl, h117⟩ := ucons h116; clear h116
  obtain ⟨u118, l118, rfl, h118⟩ := ucons h117; clear h117
  obtain ⟨u119, l119, rfl, h119⟩ := ucons h118; clear h118
  obtain ⟨u120, l120, rfl, h120⟩ := ucons h119; clear h119
  obtain ⟨u121, l121, rfl, h121⟩ := ucons h120; clear h120
  obtain ⟨u122, l122, rfl, h122⟩ := ucons h121; clear h121
  obtain ⟨u123, l123, rfl, h123⟩ := ucons h122; clear h122
  obtain ⟨u124, l124, rfl, h124⟩ := ucons h123; clear h123
  obtain ⟨u125, l125, rfl, h125⟩ := ucons h124; clear h124
  obtain ⟨u126, l126, rfl, h126⟩ := ucons h125; clear h125
  obtain ⟨u127, l127, rfl, h127⟩ := ucons h126; clear h126
  obtain ⟨u128, l128, rfl, h128⟩ := ucons h127; clear h127
  obtain ⟨u129, l129, rfl, h129⟩ := ucons h128; clear h128
  obtain ⟨u130, l130, rfl, h130⟩ := ucons h129; clear h129
  obtain ⟨u131, l131, rfl, h131⟩ := ucons h130; clear h130
  obtain ⟨u132, l132, rfl, h132⟩ := ucons h131; clear h131
  obtain ⟨u133, l133, rfl, h133⟩ := ucons h132; clear h132
  obtain ⟨u134, l134, rfl, h134⟩ := ucons h133; clear h133
  obtain ⟨u135, l135, rfl, h135⟩ := ucons h134; clear h134
  obtain ⟨u136, l136, rfl, h136⟩ := ucons h135; clear h135
  obtain ⟨u137, l137, rfl, h137⟩ := ucons h136; clear h136
  obtain ⟨u138, l138, rfl, h138⟩ := ucons h137; clear h137
  obtain ⟨u139, l139, rfl, h139⟩ := ucons h138; clear h138
  obtain ⟨u140, l140, rfl, h140⟩ := ucons h139; clear h139
  obtain ⟨u141, l141, rfl, h141⟩ := ucons h140; clear h140
  obtain ⟨u142, l142, rfl, h142⟩ := ucons h141; clear h141
  obtain ⟨u143, l143, rfl, h143⟩ := ucons h142; clear h142
  obtain ⟨u144, l144, rfl, h144⟩ := ucons h143; clear h143
  obtain ⟨u145, l145, rfl, h145⟩ := ucons h144; clear h144
  obtain ⟨u146, l146, rfl, h146⟩ := ucons h145; clear h145
  obtain ⟨u147, l147, rfl, h147⟩ := ucons h146; clear h146
  obtain ⟨u148, l148, rfl, h148⟩ := ucons h147; clear h147
  obtain ⟨u149, l149, rfl, h149⟩ := ucons h148; clear h148
  obtain ⟨u150, l150, rfl, h150⟩ := ucons h149; clear h149
  obtain ⟨u151, l151, rfl, h151⟩ := ucons h150; clear h150
  obtain ⟨u152, l152, rfl, h152⟩ := ucons h151; clear h151
  obtain ⟨u153, l153, rfl, h153⟩ := ucons h152; clear h152
  obtain ⟨u154, l154, rfl, h154⟩ := ucons h153; clear h153
  obtain ⟨u155, l155, rfl, h155⟩ := ucons h154; clear h154
  obtain ⟨u156, l156, rfl, h156⟩ := ucons h155; clear h155
  obtain ⟨u157, l157, rfl, h157⟩ := ucons h156; clear h156
  obtain ⟨u158, l158, rfl, h158⟩ := ucons h157; clear h157
  obtain ⟨u159, l159, rfl, h159⟩ := ucons h158; clear h158
  obtain ⟨u160, l160, rfl, h160⟩ := ucons h159; clear h159
  obtain ⟨u161, l161, rfl, h161⟩ := ucons h160; clear h160
  obtain ⟨u162, l162, rfl, h162⟩ := ucons h161; clear h161
  obtain ⟨u163, l163, rfl, h163⟩ := ucons h162; clear h162
  obtain ⟨u164, l164, rfl, h164⟩ := ucons h163; clear h163
  obtain ⟨u165, l165, rfl, h165⟩ := ucons h164; clear h164
  obtain ⟨u166, l166, rfl, h166⟩ := ucons h165; clear h165
  obtain ⟨u167, l167, rfl, h167⟩ := ucons h166; clear h166
  obtain ⟨u168, l168, rfl, h168⟩ := ucons h167; clear h167
  obtain ⟨u169, l169, rfl, h169⟩ := ucons h168; clear h168
  obtain ⟨u170, l170, rfl, h170⟩ := ucons h169; clear h169
  obtain ⟨u171, l171, rfl, h171⟩ := ucons h170; clear h170
  obtain ⟨u172, l172, rfl, h172⟩ := ucons h171; clear h171
  obtain ⟨u173, l173, rfl, h173⟩ := ucons h172; clear h172
  obtain ⟨u174, l174, rfl, h174⟩ := ucons h173; clear h173
  obtain ⟨u175, l175, rfl, h175⟩ := ucons h174; clear h174
  obtain ⟨u176, l176, rfl, h176⟩ := ucons h175; clear h175
  obtain ⟨u177, l177, rfl, h177⟩ := ucons h176; clear h176
  obtain ⟨u178, l178, rfl, h178⟩ := ucons h177; clear h177
  obtain ⟨u179, l179, rfl, h179⟩ := ucons h178; clear h178
  obtain ⟨u180, l180, rfl, h180⟩ := ucons h179; clear h179
  obtain ⟨u181, l181, rfl, h181⟩ := ucons h180; clear h180
  obtain ⟨u182, l182, rfl, h182⟩ := ucons h181; clear h181
  obtain ⟨u183, l183, rfl, h183⟩ := ucons h182; clear h182
  obtain ⟨u184, l184, rfl, h184⟩ := ucons h183; clear h183
  obtain ⟨u185, l185, rfl, h185⟩ := ucons h184; clear h184
  obtain ⟨u186, l186, rfl, h186⟩ := ucons h185; clear h185
  obtain ⟨u187, l187, rfl, h187⟩ := ucons h186; clear h186
  obtain ⟨u188, l188, rfl, h188⟩ := ucons h187; clear h187
  obtain ⟨u189, l189, rfl, h189⟩ := ucons h188; clear h188
  obtain ⟨u190, l190, rfl, h190⟩ := ucons h189; clear h189
  obtain ⟨u191, l191, rfl, h191⟩ := ucons h190; clear h190
  obtain ⟨u192, l192, rfl, h192⟩ := ucons h191; clear h191
  obtain ⟨u193, l193, rfl, h193⟩ := ucons h192; clear h192
  obtain ⟨u194, l194, rfl, h194⟩ := ucons h193; clear h193
  obtain ⟨u195, l195, rfl, h195⟩ := ucons h194; clear h194
  obtain ⟨u196, l196, rfl, h196⟩ := ucons h195; clear h195
  obtain ⟨u197, l197, rfl, h197⟩ := ucons h196; clear h196
  obtain ⟨u198, l198, rfl, h198⟩ := ucons h197; clear h197
  obtain ⟨u199, l199, rfl, h199⟩ := ucons h198; clear h198
  obtain ⟨u200, l200, rfl, h200⟩ := ucons h199; clear h199
  obtain ⟨u201, l201, rfl, h201⟩ := ucons h200; clear h200
  obtain ⟨u202, l202, rfl, h202⟩ := ucons h201; clear h201
  obtain ⟨u203, l203, rfl, h203⟩ := ucons h202; clear h202
  obtain ⟨u204, l204, rfl, h204⟩ := ucons h203; clear h203
  obtain ⟨u205, l205, rfl, h205⟩ := ucons h204; clear h204
  obtain ⟨u206, l206, rfl, h206⟩ := ucons h205; clear h205
  obtain ⟨u207, l207, rfl, h207⟩ := ucons h206; clear h206
  obtain ⟨u208, l208, rfl, h208⟩ := ucons h207; clear h207
  obtain ⟨u209, l209, rfl, h209⟩ := ucons h208; clear h208
  obtain ⟨u210, l210, rfl, h210⟩ := ucons h209; clear h209
  obtain ⟨u211, l211, rfl, h211⟩ := ucons h210; clear h210
  obtain ⟨u212, l212, rfl, h212⟩ := ucons h211; clear h211
  obtain ⟨u213, l213, rfl, h213⟩ := ucons h212; clear h212
  obtain ⟨u214, l214, rfl, h214⟩ := ucons h213; clear h213
  obtain ⟨u215, l215, rfl, h215⟩ := ucons h214; clear h214
  obtain ⟨u216, l216, rfl, h216⟩ := ucons h215; clear h215
  obtain ⟨u217, l217, rfl, h217⟩ := ucons h216; clear h216
  obtain ⟨u218, l218, rfl, h218⟩ := ucons h217; clear h217
  obtain ⟨u219, l219, rfl, h219⟩ := ucons h218; clear h218
  obtain ⟨u220, l220, rfl, h220⟩ := ucons h219; clear h219
  obtain ⟨u221, l221, rfl, h221⟩ := ucons h220; clear h220
  obtain ⟨u222, l222, rfl, h222⟩ := ucons h221; clear h221
  obtain ⟨u223, l223, rfl, h223⟩ := ucons h222; clear h222
  obtain ⟨u224, l224, rfl, h224⟩ := ucons h223; clear h223
  obtain ⟨u225, l225, rfl, h225⟩ := ucons h224; clear h224
  obtain ⟨u226, l226, rfl, h226⟩ := ucons h225; clear h225
  obtain ⟨u227, l227, rfl, h227⟩ := ucons h226; clear h226
  obtain ⟨u228, l228, rfl, h228⟩ := ucons h227; clear h227
  obtain ⟨u229, l229, rfl, h229⟩ := ucons h228; clear h228
  obtain ⟨u230, l230, rfl, h230⟩ := ucons h229; clear h229
  obtain ⟨u231, l231, rfl, h231⟩ := ucons h230; clear h230
  obtain ⟨u232, l232, rfl, h232⟩ := ucons h231; clear h231
  obtain ⟨u233, l233, rfl, h233⟩ := ucons h232; clear h232
  obtain ⟨u234, l234, rfl, h234⟩ := ucons h233; clear h233
  obtain ⟨u235, l235, rfl, h235⟩ := ucons h234; clear h234
  obtain ⟨u236, l236, rfl, h236⟩ := ucons h235; clear h235
  obtain ⟨u237, l237, rfl, h237⟩ := ucons h236; clear h236
  obtain ⟨u238, l238, rfl, h238⟩ := ucons h237; clear h237
  obtain ⟨u239, l239, rfl, h239⟩ := ucons h238; clear h238
  obtain ⟨u240, l240, rfl, h240⟩ := ucons h239; clear h239
  obtain ⟨u241, l241, rfl, h241⟩ := ucons h240; clear h240
  obtain ⟨u242, l242, rfl, h242⟩ := ucons h241; clear h241
  obtain ⟨u243, l243, rfl, h243⟩ := ucons h242; clear h242
  obtain ⟨u244, l244, rfl, h244⟩ := ucons h243; clear h243
  obtain ⟨u245, l245, rfl, h245⟩ := ucons h244; clear h244
  obtain ⟨u246, l246, rfl, h246⟩ := ucons h245; clear h245
  obtain ⟨u247, l247, rfl, h247⟩ := ucons h246; clear h246
  obtain ⟨u248, l248, rfl, h248⟩ := ucons h247; clear h247
  obtain ⟨u249, l249, rfl, h249⟩ := ucons h248; clear h248
  obtain ⟨u250, l250, rfl, h250⟩ := ucons h249; clear h249
  obtain ⟨u251, l251, rfl, h251⟩ := ucons h250; clear h250
  obtain ⟨u252, l252, rfl, h252⟩ := ucons h251; clear h251
  obtain ⟨u253, l253, rfl, h253⟩ := ucons h252; clear h252
  obtain ⟨u254, l254, rfl, h254⟩ := ucons h253; clear h253
  obtain ⟨u255, l255, rfl, h255⟩ := ucons h254; clear h254
  obtain ⟨u256, l256, rfl, h256⟩ := ucons h255; clear h255
  obtain ⟨u257, l257, rfl, h257⟩ := ucons h256; clear h256
  obtain ⟨u258, l258, rfl, h258⟩ := ucons h257; clear h257
  obtain ⟨u259, l259, rfl, h259⟩ := ucons h258; clear h258
  obtain ⟨u260, l260, rfl, h260⟩ := ucons h259; clear h259
  obtain ⟨u261, l261, rfl, h261⟩ := ucons h260; clear h260
  obtain ⟨u262, l262, rfl, h262⟩ := ucons h261; clear h261
  obtain ⟨u263, l263, rfl, h263⟩ := ucons h262; clear h262
  obtain ⟨u264, l264, rfl, h264⟩ := ucons h263; clear h263
  obtain ⟨u265, l265, rfl, h265⟩ := ucons h264; clear h264
  obtain ⟨u266, l266, rfl, h266⟩ := ucons h265; clear h265
  obtain ⟨u267, l267, rfl, h267⟩ := ucons h266; clear h266
  obtain ⟨u268, l268, rfl, h268⟩ := ucons h267; clear h267
  obtain ⟨u269, l269, rfl, h269⟩ := ucons h268; clear h268
  obtain ⟨u270, l270, rfl, h270⟩ := ucons h269; clear h269
  obtain ⟨u271, l271, rfl, h271⟩ := ucons h270; clear h270
  obtain ⟨u272, l272, rfl, h272⟩ := ucons h271; clear h271
  obtain ⟨u273, l273, rfl, h273⟩ := ucons h272; clear h272
  obtain ⟨u274, l274, rfl, h274⟩ := ucons h273; clear h273
  obtain ⟨u275, l275, rfl, h275⟩ := ucons h274; clear h274
  obtain ⟨u276, l276, rfl, h276⟩ := ucons h275; clear h275
  obtain ⟨u277, l277, rfl, h277⟩ := ucons h276; clear h276
  obtain ⟨u278, l278, rfl, h278⟩ := ucons h277; clear h277
  obtain ⟨u279, l279, rfl, h279⟩ := ucons h278; clear h278
  obtain ⟨u280, l280, rfl, h280⟩ := ucons h279; clear h279
  obtain ⟨u281, l281, rfl, h281⟩ := ucons h280; clear h280
  obtain ⟨u282, l282, rfl, h282⟩ := ucons h281; clear h281
  obtain ⟨u283, l283, rfl, h283⟩ := ucons h282; clear h282
  obtain ⟨u284, l284, rfl, h284⟩ := ucons h283; clear h283
  obtain ⟨u285, l285, rfl, h285⟩ := ucons h284; clear h284
  obtain ⟨u286, l286, rfl, h286⟩ := ucons h285; clear h285
  obtain ⟨u287, l287, rfl, h287⟩ := ucons h286; clear h286
  obtain ⟨u288, l288, rfl, h288⟩ := ucons h287; clear h287
  obtain ⟨u289, l289, rfl, h289⟩ := ucons h288; clear h288
  obtain ⟨u290, l290, rfl, h290⟩ := ucons h289; clear h289
  obtain ⟨u291, l291, rfl, h291⟩ := ucons h290; clear h290
  obtain ⟨u292, l292, rfl, h292⟩ := ucons h291; clear h291
  obtain ⟨u293, l293, rfl, h293⟩ := ucons h292; clear h292
  obtain ⟨u294, l294, rfl, h294⟩ := ucons h293; clear h293
  obtain ⟨u295, l295, rfl, h295⟩ := ucons h294; clear h294
  obtain ⟨u296, l296, rfl, h296⟩ := ucons h295; clear h295
  obtain ⟨u297, l297, rfl, h297⟩ := ucons h296; clear h296
  obtain ⟨u298, l298, rfl, h298⟩ := ucons h297; clear h297
  obtain ⟨u299, l299, rfl, h299⟩ := ucons h298; clear h298
  obtain ⟨u300, l300, rfl, h300⟩ := ucons h299; clear h299
  obtain ⟨u301, l301, rfl, h301⟩ := ucons h300; clear h300
  obtain ⟨u302, l302, rfl, h302⟩ := ucons h301; clear h301
  obtain ⟨u303, l303, rfl, h303⟩ := ucons h302; clear h302
  obtain ⟨u304, l304, rfl, h304⟩ := ucons h303; clear h303
  obtain ⟨u305, l305, rfl, h305⟩ := ucons h304; clear h304
  obtain ⟨u306, l306, rfl, h306⟩ := ucons h305; clear h305
  obtain ⟨u307, l307, rfl, h307⟩ := ucons h306; clear h306
  obtain ⟨u308, l308, rfl, h308⟩ := ucons h307; clear h307
  obtain ⟨u309, l309, rfl, h309⟩ := ucons h308; clear h308
  obtain ⟨u310, l310, rfl, h310⟩ := ucons h309; clear h309
  obtain ⟨u311, l311, rfl, h311⟩ := ucons h310; clear h310
  obtain ⟨u312, l312, rfl, h312⟩ := ucons h311; clear h311
  obtain ⟨u313, l313, rfl, h313⟩ := ucons h312; clear h312
  obtain ⟨u314, l314, rfl, h314⟩ := ucons h313; clear h313
  obtain ⟨u315, l315, rfl, h315⟩ := ucons h314; clear h314
  obtain ⟨u316, l316, rfl, h316⟩ := ucons h315; clear h315
  obtain ⟨u317, l317, rfl, h317⟩ := ucons h316; clear h316
  obtain ⟨u318, l318, rfl, h318⟩ := ucons h317; clear h317
  obtain ⟨u319, l319, rfl, h319⟩ := ucons h318; clear h318
  obtain ⟨u320, l320, rfl, h320⟩ := ucons h319; clear h319
  obtain ⟨u321, l321, rfl, h321⟩ := ucons h320; clear h320
  obtain ⟨u322, l322, rfl, h322⟩ := ucons h321; clear h321
  obtain ⟨u323, l323, rfl, h323⟩ := ucons h322; clear h322
  obtain ⟨u324, l324, rfl, h324⟩ := ucons h323; clear h323
  obtain ⟨u325, l325, rfl, h325⟩ := ucons h324; clear h324
  obtain ⟨u326, l326, rfl, h326⟩ := ucons h325; clear h325
  obtain ⟨u327, l327, rfl, h327⟩ := ucons h326; clear h326
  obtain ⟨u328, l328, rfl, h328⟩ := ucons h327; clear h327
  obtain ⟨u329, l329, rfl, h329⟩ := ucons h328; clear h328
  obtain ⟨u330, l330, rfl, h330⟩ := ucons h329; clear h329
  obtain ⟨u331, l331, rfl, h331⟩ := ucons h330; clear h330
  obtain ⟨u332, l332, rfl, h332⟩ := ucons h331; clear h331
  obtain ⟨u333, l333, rfl, h333⟩ := ucons h332; clear h332
  obtain ⟨u334, l334, rfl, h334⟩ := ucons h333; clear h333
  obtain ⟨u335, l335, rfl, h335⟩ := ucons h334; clear h334
  obtain ⟨u336, l336, rfl, h336⟩ := ucons h335; clear h335
  obtain ⟨u337, l337, rfl, h337⟩ := ucons h336; clear h336
  obtain ⟨u338, l338, rfl, h338⟩ := ucons h337; clear h337
  obtain ⟨u339, l339, rfl, h339⟩ := ucons h338; clear h338
  obtain ⟨u340, l340, rfl, h340⟩ := ucons h339; clear h339
  obtain ⟨u341, l341, rfl, h341⟩ := ucons h340; clear h340
  obtain ⟨u342, l342, rfl, h342⟩ := ucons h341; clear h341
  obtain ⟨u343, l343, rfl, h343⟩ := ucons h342; clear h342
  obtain ⟨u344, l344, rfl, h344⟩ := ucons h343; clear h343
  obtain ⟨u345, l345, rfl, h345⟩ := ucons h344; clear h344
  obtain ⟨u346, l346, rfl, h346⟩ := ucons h345; clear h345
  obtain ⟨u347, l347, rfl, h347⟩ := ucons h346; clear h346
  obtain ⟨u348, l348, rfl, h348⟩ := ucons h347; clear h347
  obtain ⟨u349, l349, rfl, h349⟩ := ucons h348; clear h348
  obtain ⟨u350, l350, rfl, h350⟩ := ucons h349; clear h349
  obtain ⟨u351, l351, rfl, h351⟩ := ucons h350; clear h350
  obtain ⟨u352, l352, rfl, h352⟩ := ucons h351; clear h351
  obtain rfl : l352 = [] := List.length_eq_zero_iff.1 h352
  exact H u0 u1 u2 u3 u4 u5 u6 u7 u8 u9 u10 u11 u12 u13 u14 u15 u16 u17 u18 u19 u20 u21 u22 u23 u24 u25 u26 u27 u28 u29 u30 u31 u32 u33 u34 u35 u36 u37 u38 u39 u40 u41 u42 u43 u44 u45 u46 u47 u48 u49 u50 u51 u52 u53 u54 u55 u56 u57 u58 u59 u60 u61 u62 u63 u64 u65 u66 u67 u68 u69 u70 u71 u72 u73 u74 u75 u76 u77 u78 u79 u80 u81 u82 u83 u84 u85 u86 u87 u88 u89 u90 u91 u92 u93 u94 u95 u96 u97 u98 u99 u100 u101 u102 u103 u104 u105 u106 u107 u108 u109 u110 u111 u112 u113 u114 u115 u116 u117 u118 u119 u120 u121 u122 u123 u124 u125 u126 u127 u128 u129 u130 u131 u132 u133 u134 u135 u136 u137 u138 u139 u140 u141 u142 u143 u144 u145 u146 u147 u148 u149 u150 u151 u152 u153 u154 u155 u156 u157 u158 u159 u160 u161 u162 u163 u164 u165 u166 u167 u168 u169 u170 u171 u172 u173 u174 u175 u176 u177 u178 u179 u180 u181 u182 u183 u184 u185 u186 u187 u188 u189 u190 u191 u192 u193 u194 u195 u196 u197 u198 u199 u200 u201 u202 u203 u204 u205 u206 u207 u208 u209 u210 u211 u212 u213 u214 u215 u216 u217 u218 u219 u220 u221 u222 u223 u224 u225 u226 u227 u228 u229 u230 u231 u232 u233 u234 u235 u236 u237 u238 u239 u240 u241 u242 u243 u244 u245 u246 u247 u248 u249 u250 u251 u252 u253 u254 u255 u256 u257 u258 u259 u260 u261 u262 u263 u264 u265 u266 u267 u268 u269 u270 u271 u272 u273 u274 u275 u276 u277 u278 u279 u280 u281 u282 u283 u284 u285 u286 u287 u288 u289 u290 u291 u292 u293 u294 u295 u296 u297 u298 u299 u300 u301 u302 u303 u304 u305 u306 u307 u308 u309 u310 u311 u312 u313 u314 u315 u316 u317 u318 u319 u320 u321 u322 u323 u324 u325 u326 u327 u328 u329 u330 u331 u332 u333 u334 u335 u336 u337 u338 u339 u340 u341 u342 u343 u344 u345 u346 u347 u348 u349 u350 u351 u352
theorem flat_at {α : Type} (f : α → List Value) (s : Nat) (hs : ∀ x, (f x).length = s) : ∀ (l : List α) (j k : Nat) (c : α), k < s → l[j]? = some c → (l.flatMap f)[j * s + k]? = (f c)[k]?
  | [], j, k, c, _, h => by simp at h
  | x :: l, 0, k, c, hk, h => by
    obtain rfl : x = c := by simpa using h
    rw [List.flatMap_cons, Nat.zero_mul, Nat.zero_add, List.getElem?_append_left (by rw [hs]; exact hk)]
  | x :: l, j + 1, k, c, hk, h => by
    have h' : l[j]? = some c := by simpa using h
    rw [List.flatMap_cons, List.getElem?_append_right (by rw [hs, Nat.succ_mul]; omega), hs, ← flat_at f s hs l j k c hk h']
    congr 1
    rw [Nat.succ_mul]
    omega
/-- a row's element -/
theorem row_at {α : Type} (f : α → List Value) (s : Nat) (hs : ∀ x, (f x).length = s) (h0 : 0 < s) {w : World} {base n c : Nat} {e : TypeId} {a : Option Addr} {l : List α} (h : w.ownsRow base e s (.slice a n c) n (l.flatMap f)) {k : Nat} {x : α} (hk : l[k]? = some x) :
    ∃ bt ot', a = some ⟨bt, ot', none⟩ ∧ bt < w.heap.size ∧ base ≤ bt ∧ ∀ i v, (f x)[i]? = some v → w.cell? ⟨bt, ot' + k * s + i, none⟩ = some v := by
  rcases h.2 with ⟨e1, e2⟩ | ⟨g, cap, cur, e1, _⟩
  · exfalso
    have hl := h.1
    obtain ⟨v, hv⟩ : ∃ v, (f x)[0]? = some v := by
      have := hs x
      exact ⟨_, List.getElem?_eq_getElem (by omega)⟩
    have h4 := flat_at f s hs l k 0 x h0 hk
    rw [hv] at h4
    have := (List.getElem?_eq_some_iff.1 h4).1
    rw [e2, Nat.zero_mul] at hl
    omega
  · injection e1 with e1 e2 e3
    subst e1
    refine ⟨g, 0, rfl, own_lt h rfl, own_base h rfl, fun i v hv => ?_⟩
    have hi : i < s := by have := (List.getElem?_eq_some_iff.1 hv).1; rw [hs] at this; exact this
    have h4 := flat_at f s hs l k i x hi hk
    rw [hv] at h4
    have h5 := h.cells (g := g) rfl _ _ h4
    rw [Go.WideShapes.add_plain] at h5
    rwa [Nat.add_assoc]
/-- two queues are stored, each into its box -/
theorem AJ.storeAB {w0 w : World} {PA PB : Nat} {ql qm pl pm vm vo vt : Value} {A B : Qu} {VA VB : Nat → Value} {mn ot : List (Int × Int × Int)} {tk : List PMs} (h : AJ w0 w PA PB ql qm pl pm vm vo vt A B VA VB mn ot tk) {ul um xl xm : Value} {A' B' : Qu} {V' V2 : Nat → Value} (hq : QIs w ul um A' V') (hr : QIs w xl xm B' V2) (hs : QSep ul um A' V' vm ∧ QSep ul um A' V' vo ∧ QSep ul um A' V' vt) (ht : QSep xl xm B' V2 vm ∧ QSep xl xm B' V2 vo ∧ QSep xl xm B' V2 vt) :
    AJ w0 ((((w.setCell ⟨PA, 0, none⟩ ul).setCell ⟨PA, 1, none⟩ um).setCell ⟨PB, 0, none⟩ xl).setCell ⟨PB, 1, none⟩ xm) PA PB ul um xl xm vm vo vt A' B' V' V2 mn ot tk :=
  (h.storeA hq hs).storeB (hr.box h.ba (qis_no h.qa) fun b hb => by rw [Below.heap_setCell _ _ _ _ hb, Below.heap_setCell _ _ _ _ hb]) ht
end Go.Proofs.Ytkgehbonijpdnaa
