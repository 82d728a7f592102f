/- AuditRuns, walked. -/
import Derived.Test.YtcfmbppnghlkaaaYRef4
import Derived.Test.YtcfmbppnghlkaaaYArg
namespace Go.Proofs.Ytcfmbppnghlkaaa
open Go.RowKit Go.Sort Go.Shelf
set_option maxRecDepth 100000

/-- program and document side by side -/
structure Wr (w0 w : World) (p q : Nat) (R : List Int) (L M : List Rc) (o : Yo) (rv lv : Value) : Prop where
  y : Yw w0 w p R L o
  g : Rg w q rv lv R M
  sq : ¬ o.has R p q
  sr : ∀ b, rv.ownBlock = some b → ¬ o.has R p b
  sl : ∀ b, lv.ownBlock = some b → ¬ o.has R p b
  gq : w0.heap.size ≤ q
section
variable {w0 w w' : World} {p q : Nat} {R : List Int} {L M : List Rc} {o : Yo} {rv lv : Value}
theorem Rg.but {S : Nat → Prop} (x : Rg w q rv lv R M) (hb : But S w w') (h1 : ¬ S q) (h2 : ∀ b, rv.ownBlock = some b → ¬ S b) (h3 : ∀ b, lv.ownBlock = some b → ¬ S b) : Rg w' q rv lv R M :=
  ⟨x.pb.but hb h1, eown_block x.rr fun b h => hb.block b (x.rr.lt b h).2 (h2 b h), eown_block x.ll fun b h => hb.block b (x.ll.lt b h).2 (h3 b h)⟩
theorem Wr.below (x : Wr w0 w p q R L M o rv lv) (h : Below w.heap.size w w') : Wr w0 w' p q R L M o rv lv := ⟨x.y.below h, x.g.below h, x.sq, x.sr, x.sl, x.gq⟩
theorem Wr.addA (x : Wr w0 w p q R L M o rv lv) {r : Rc} (hr : r.Ok) : Calls Try.prog 12 #[ptr p, recV r] w fun e w' => e = .returned (.int .i64 (addE R L r)) ∧ ∃ o', Wr w0 w' p q R (addL R L r) M o' rv lv := by
  refine (x.y.addB hr).mono ?_
  rintro e w' ⟨rfl, o', h1, h2, h3⟩
  have far : ∀ b, b < w.heap.size → ¬ o.has R p b → ¬ o'.has R p b := fun b hb h h' => (h3 b h').elim h (fun h => by omega)
  exact ⟨rfl, o', h1, x.g.but h2 x.sq x.sr x.sl, far q x.g.pb.lt x.sq, fun b h => far b (x.g.rr.lt b h).2 (x.sr b h), fun b h => far b (x.g.ll.lt b h).2 (x.sl b h), x.gq⟩
/-- the document's Add, whatever the gate -/
theorem rAdd15_any (x : Rg w q rv lv R M) (lo : Lo R M) {r : Rc} (hr : r.Ok) : Calls Try.prog 13 #[ptr q, recV r] w fun e w' => e = .returned (.int .i64 (addE R M r)) ∧ ∃ lv', Rg w' q rv lv' R (addL R M r) ∧ But (fun b => b = q) w w' ∧ ∀ b, lv'.ownBlock = some b → lv.ownBlock = some b ∨ w.heap.size ≤ b := by
  by_cases hg : inG R r.g
  · exact rAdd15 w q rv lv R M x lo r hr hg
  · refine (rAdd15_no w q rv lv R M x lo r hg).mono ?_
    rintro e w' ⟨rfl, hb⟩
    have e1 : addE R M r = 5 := by unfold addE; rw [if_pos hg]
    rw [e1, addL_no (by rw [e1]; decide)]
    exact ⟨rfl, lv, x.below hb, But.of hb, fun b h => .inl h⟩
theorem Wr.addR (x : Wr w0 w p q R L M o rv lv) (lo : Lo R M) {r : Rc} (hr : r.Ok) : Calls Try.prog 13 #[ptr q, recV r] w fun e w' => e = .returned (.int .i64 (addE R M r)) ∧ ∃ lv', Wr w0 w' p q R L (addL R M r) o rv lv' := by
  refine (rAdd15_any x.g lo hr).mono ?_
  rintro e w' ⟨rfl, lv', h1, h2, h3⟩
  refine ⟨rfl, lv', ⟨x.y.x.but h2 fun b hb e => x.sq (e ▸ hb), below_but x.y.b h2 fun b e => by rw [e]; exact x.gq, x.y.ge⟩, h1, x.sq, x.sr, fun b h => ?_, x.gq⟩
  rcases h3 b h with h | h
  · exact x.sl b h
  · exact fun h' => by have := x.y.x.lt h'; omega
/-- both tell the same of any gate -/
theorem rLeft15_any (x : Rg w q rv lv R M) (lo : Lo R M) (g : Int) : Calls Try.prog 17 #[ptr q, .int .i64 g] w fun e w' => e = .returned (if inG R g then .tuple #[.int .i64 (atR R g.toNat - (ownR M g.toNat).length), .int .i64 0] else .tuple #[.int .i64 0, .int .i64 5]) ∧ Below w.heap.size w w' := by
  by_cases hg : inG R g
  · rw [if_pos hg]; exact rLeft15 w q rv lv R M x lo g hg
  · rw [if_neg hg]; exact rLeft15_no w q rv lv R M x g hg
theorem yLeft_any (x : Yx w p o R L) (g : Int) : Calls Try.prog 16 #[ptr p, .int .i64 g] w fun e w' => e = .returned (if inG R g then .tuple #[.int .i64 (atR R g.toNat - (ownR L g.toNat).length), .int .i64 0] else .tuple #[.int .i64 0, .int .i64 5]) ∧ Below w.heap.size w w' := by
  by_cases hg : inG R g
  · rw [if_pos hg]; exact yLeft w p o R L x g hg
  · rw [if_neg hg]
    have hl := ylog w p o R L x g
    rw [logV, if_neg hg] at hl
    refine (yLeft_bad w (ptr p) g 5 (by decide) hl).mono ?_
    rintro e w' ⟨rfl, rfl⟩
    exact ⟨rfl, Below.refl _ _⟩
theorem yOf_any (x : Yx w p o R L) (g : Int) : Calls Try.prog 19 #[ptr p, .int .i64 g] w fun e w' => ∃ a c, e = .returned (.slice a (rofR R L g).length c) ∧ RcAt w' a (rofR R L g) ∧ Below w.heap.size w w' := by
  by_cases hg : inG R g
  · obtain ⟨k, rfl⟩ : ∃ k : Nat, g = k := ⟨g.toNat, by omega⟩
    refine (yOf w p o R L x (k : Int) hg).mono ?_
    rintro e w' ⟨v, rfl, ho, hb⟩
    simp only [Int.toNat_natCast] at ho
    rw [← rofR_in hg] at ho
    obtain ⟨a, c, hv, hr⟩ := rcAt_own ho
    exact ⟨a, c, by rw [hv], hr, hb⟩
  · have hl := ylog w p o R L x g
    rw [logV, if_neg hg] at hl
    refine (yOf_bad w (ptr p) g 5 (by decide) hl).mono ?_
    rintro e w' ⟨rfl, rfl⟩
    rw [rofR_out hg]
    exact ⟨none, 0, rfl, fun j r h => by simp at h, Below.refl _ _⟩
theorem rOf_any (x : Rg w q rv lv R M) (hl : M.length ≤ 100000) (g : Int) : Calls Try.prog 20 #[ptr q, .int .i64 g] w fun e w' => ∃ a c, e = .returned (.slice a (rofR R M g).length c) ∧ RcAt w' a (rofR R M g) ∧ Below w.heap.size w w' := by
  refine (rOf15 w q rv lv R M x hl g).mono ?_
  rintro e w' ⟨v, rfl, ho, hb⟩
  obtain ⟨a, c, hv, hr⟩ := rcAt_own ho
  exact ⟨a, c, by rw [hv], hr, hb⟩
/-- a row that is told -/
theorem tells_of {f : Nat} {args : Array Value} {W : World} {l : List Rc} (c : Calls Try.prog f args W fun e w' => ∃ u, e = .returned u ∧ w'.ownsRow W.heap.size 38 4 u l.length (encRs l) ∧ Below W.heap.size W w') :
    Calls Try.prog f args W fun e w' => ∃ a c, e = .returned (.slice a l.length c) ∧ RcAt w' a l ∧ Below W.heap.size W w' := by
  refine c.mono ?_
  rintro e w' ⟨u, rfl, h2, h3⟩
  obtain ⟨a, c, hv, hr⟩ := rcAt_own h2
  exact ⟨a, c, by rw [hv], hr, h3⟩
theorem tells_on {f : Nat} {args : Array Value} {w0 W : World} {Q : Ending → World → Prop} (c : Calls Try.prog f args W Q) (hW : Below w0.heap.size w0 W) : Calls Try.prog f args W fun e w' => Q e w' ∧ Below w0.heap.size w0 W := c.mono fun _ _ h => ⟨h, hW⟩
end
theorem rows_list {w : World} {la : Option Addr} {ll lc : Nat} {lg : Nat → Rc} (h : RcRow w la ll lc lg) : ∃ Lq : List Rc, Lq.length = ll ∧ RcAt w la Lq := by
  refine ⟨(List.range ll).map lg, by simp, fun j r hj => ?_⟩
  obtain ⟨hjl, rfl⟩ : j < ll ∧ lg j = r := by
    rw [List.getElem?_map] at hj
    by_cases hjl : j < ll
    · rw [List.getElem?_range hjl] at hj
      exact ⟨hjl, by simpa using hj⟩
    · rw [List.getElem?_eq_none (by simp; omega)] at hj
      cases hj
  obtain ⟨bl, off, e, hc⟩ := h.1 j hjl
  refine ⟨bl, off, e, fun k v hv => ?_⟩
  have hk : k < 4 := by
    have := (List.getElem?_eq_some_iff.1 hv).1
    simpa [encR] using this
  have h1 : w.cell? ⟨bl, off + j * 4 + k, none⟩ = some (encRf (lg j) k) := hc k hk
  have e1 : encRf (lg j) k = v := by unfold encRf; rw [List.getD_eq_getElem?_getD, hv]; rfl
  rw [e1] at h1
  exact h1
set_option maxHeartbeats 16000000 in
theorem yruns (a1 : Option Addr) (n1 c1 : Nat) (z1 : Nat → Int) (la : Option Addr) (ll lc : Nat) (lg : Nat → Rc) (s : Int) (mt ms : Int) (w : World) (hs : 0 ≤ s ∧ s < 18446744073709551616) (hts : Rc.Ok ⟨mt, ms, 0, 0⟩)
    (h1 : Cells w .i64 a1 n1 z1) (hc1 : n1 ≤ c1) (hnil : a1 = none → c1 = 0) (h3 : RcRow w la ll lc lg) (hll : ll ≤ 9223372036854775807) :
    Calls Try.prog 3 #[.slice a1 n1 c1, .slice la ll lc, .int .u64 s, stV mt ms] w fun e w' => e = .returned (.bool true) ∧ Below w.heap.size w w' := by
  have b0 : Below w.heap.size w (w.alloc (.cells #[.int .i64 mt, .int .i64 ms] 26)) := (Below.refl _ w).alloc (Nat.le_refl _) _
  have k0 := blk_new w [.int .i64 mt, .int .i64 ms] 26
  obtain ⟨w1, hw1⟩ : ∃ w1, w.alloc (.cells #[.int .i64 mt, .int .i64 ms] 26) = w1 := ⟨_, rfl⟩
  have k0' : Blk w1 w.heap.size 26 [.int .i64 mt, .int .i64 ms] := by rw [← hw1]; exact k0
  rw [hw1] at b0
  have f1 := yfew a1 n1 c1 hc1 w1
  have g1 : Cells w1 .i64 a1 (min n1 18) z1 := (h1.mono (Nat.min_le_left _ _)).below b0
  have H3 : Hid (RcRow w1 la ll lc lg ∧ Blk w1 w.heap.size 26 [.int .i64 mt, .int .i64 ms] ∧ Below w.heap.size w w1) := ⟨⟨h3.1.below b0, h3.2⟩, k0', b0⟩
  have HS : Hid ((0 ≤ s ∧ s < 18446744073709551616) ∧ Rc.Ok ⟨mt, ms, 0, 0⟩ ∧ ll ≤ 9223372036854775807 ∧ (a1 = none → c1 = 0)) := ⟨hs, hts, hll, hnil⟩
  clear h1 h3 hs hts hll hnil b0 k0 k0'
  generalize min n1 18 = m1 at *
  have HG : Hid (Cells w1 .i64 a1 m1 z1) := g1
  have cA := yNewE2 w1 a1 m1 c1 z1 g1
  clear g1
  unfold stV
  go_enter Try.func3, Try.ntmps3
  go_wp2_with fail
  refine f1.mono ?_
  rintro e w2 ⟨rfl, hw⟩
  subst hw
  clear f1 hw1
  go_wp2_with fail
  refine cA.mono ?_
  rintro e w3 ⟨P, er, rfl, her, hN, hb3⟩
  have HN : Hid (NewIs w2 w3 (roomsI m1 z1) P er ∧ Below w2.heap.size w2 w3) := ⟨hN, hb3⟩
  have cR := rNewE w3 a1 m1 c1 z1 (HG.out.below hb3) HS.out.2.2.2
  have HER : Hid (er = if 16 < m1 then 3 else if badR (roomsI m1 z1) then 1 else 0) := her
  clear cA hN hb3 her HG
  go_wp2_with fail
  refine cR.mono ?_
  rintro e w4 ⟨Q, fr, rfl, hfr, hN, hb4⟩
  have HM : Hid (RNewIs w3 w4 (roomsI m1 z1) Q fr ∧ Below w3.heap.size w3 w4 ∧ Below w2.heap.size w2 w4) := ⟨hN, hb4, Below.onto HN.out.2 hb4⟩
  obtain rfl : er = fr := HER.out.trans hfr.symm
  clear cR hN hb4 hfr HER
  rcases HN.out.1 with ⟨her, rfl⟩ | ⟨rfl, p, o, rfl, xa, hlo⟩
  · rcases HM.out.1 with ⟨_, rfl⟩ | ⟨h0, _⟩
    · go_wp2_with fail
      refine (yalive _).mono ?_
      rintro e w9 ⟨rfl, hb9⟩
      have HE : Hid (Below w.heap.size w w9) := Below.onto (Below.onto H3.out.2.2 HM.out.2.2) hb9
      clear hb9
      go_wp2_with fail
      go_ret
      exact ⟨rfl, HE.out⟩
    · exact absurd h0 her
  rcases HM.out.1 with ⟨h0, _⟩ | ⟨_, q, rv, rfl, xg, hq, hrv⟩
  · exact absurd rfl h0
  have A0 : Hid (Wr w2 w4 p q (roomsI m1 z1) [] [] o rv (.slice none 0 0)) := by
    refine ⟨⟨xa.below HM.out.2.1, HM.out.2.2, hlo⟩, xg, fun h => ?_, fun b hb h => ?_, fun b hb => (by cases hb), Nat.le_trans HN.out.2.size hq⟩
    · have := xa.lt h; omega
    · have := xa.lt h; have := hrv b hb; omega
  clear xa hlo xg hq hrv HN HM hc1
  generalize roomsI m1 z1 = RA at *
  go_wp2_with fail
  go_loopw [13] (fun i wr => ∃ (j : Nat), j ≤ 60 ∧ i = .int .i64 j ∧ Hid (∃ (L : List Rc) (o : Yo) (rv lv : Value), Wr w2 wr p q RA L L o rv lv)) (fun i _ => 60 - (intOf i).toNat)
  case atStart => exact ⟨0, by omega, rfl, [], o, rv, _, A0.out⟩
  case round =>
    obtain ⟨j, hj, rfl, hM⟩ := hrel
    clear A0
    by_cases hlt : j < ll ∧ j < 60
    · obtain ⟨hlt, hlt2⟩ := hlt
      obtain ⟨L, o, rv, lv, ya⟩ := hM.out
      obtain ⟨bl, off, rfl, hcell⟩ := H3.out.1.1 j hlt
      have hok := H3.out.1.2 j hlt
      have q0 := hcell 0 (by decide)
      have q1 := hcell 1 (by decide)
      have q2 := hcell 2 (by decide)
      have q3 := hcell 3 (by decide)
      have q2x : w2.cell? ⟨bl, off + j * 4 + 2, none⟩ = some (.int .i64 (lg j).g) := q2
      have toS : ∀ W, Below w2.heap.size w2 W → W.cell? ⟨bl, off + j * 4, none⟩ = some (.int .i64 (lg j).t) ∧ W.cell? ⟨bl, off + j * 4 + 1, none⟩ = some (.int .i64 (lg j).s) ∧ W.cell? ⟨bl, off + j * 4 + 2, none⟩ = some (.int .i64 (lg j).g) ∧ W.cell? ⟨bl, off + j * 4 + 3, none⟩ = some (.int .u64 (lg j).p) := fun W hW =>
        ⟨(hW.cell (p := ⟨bl, off + j * 4, none⟩) (cell_lt q0)).trans q0, (hW.cell (p := ⟨bl, off + j * 4 + 1, none⟩) (cell_lt q0)).trans q1, (hW.cell (p := ⟨bl, off + j * 4 + 2, none⟩) (cell_lt q0)).trans q2, (hW.cell (p := ⟨bl, off + j * 4 + 3, none⟩) (cell_lt q0)).trans q3⟩
      have hbr : Below w2.heap.size w2 wr := ya.y.b
      have hbd : Below w2.heap.size w2 wr.drew := Below.onto hbr (Below.refl _ wr).drew
      have X0 : Hid (Wr w2 wr.drew p q RA L L o rv lv) := ya.below (Below.refl _ wr).drew
      have cA := X0.out.addA hok
      have cR : ∀ W o', Wr w2 W p q RA (addL RA L (lg j)) L o' rv lv → Calls Try.prog 13 #[ptr q, recV (lg j)] W fun e w' => e = .returned (.int .i64 (addE RA L (lg j))) ∧ ∃ lv', Wr w2 w' p q RA (addL RA L (lg j)) (addL RA L (lg j)) o' rv lv' := fun W o' y => y.addR X0.out.y.x.ok hok
      unfold recV at cA cR
      generalize addL RA L (lg j) = LA at *
      generalize addE RA L (lg j) = eA at *
      clear hcell q0 q1 q2 q3 q2x ya hM
      obtain ⟨k0, k1, k2, k3⟩ := toS _ hbr
      go_wp2_with fail
      go_region_held3 (fun W => W.cell? ⟨bl, off + j * 4, none⟩ = some (.int .i64 (lg j).t) ∧ W.cell? ⟨bl, off + j * 4 + 1, none⟩ = some (.int .i64 (lg j).s) ∧ W.cell? ⟨bl, off + j * 4 + 2, none⟩ = some (.int .i64 (lg j).g) ∧ W.cell? ⟨bl, off + j * 4 + 3, none⟩ = some (.int .u64 (lg j).p)) (first | (with_reducible assumption) | exact toS _ (by assumption)) (first | (go_at_call 12; (with_reducible refine cA.mono ?_); rintro v w5 ⟨rfl, o5, y5⟩; have hb5 : Below w2.heap.size w2 w5 := y5.y.b; have cR5 := cR _ _ y5; clear y5) | (go_at_call 13; (with_reducible refine cR5.mono ?_); rintro v w6 ⟨rfl, lv6, y6⟩; have hb6 : Below w2.heap.size w2 w6 := y6.y.b; have Y6 : Hid (∃ o' lv', Wr w2 w6 p q RA LA LA o' rv lv') := ⟨_, _, y6⟩; clear y6))
      all_goals
        obtain ⟨o6, lv6, y6⟩ := Y6.out
        have HLA : LA.length ≤ 100000 := by have := y6.y.x.ok.total; omega
        have c1 := yLast w6 p o6 RA LA y6.y.x
        have c2 := fun W (hW : Below w6.heap.size w6 W) => rLast15 W q rv lv6 RA LA (y6.below hW).g HLA
        have W6 : Hid (Wr w2 w6 p q RA LA LA o6 rv lv6) := y6
        unfold recV at c1 c2
        generalize lastR LA = lr at c1 c2
        obtain ⟨lt, ls, lgg, lp⟩ := lr
        dsimp only at c1 c2
        generalize (!LA.isEmpty) = em at *
        clear cR cR5 cA k0 k1 k2 k3 y6 Y6 X0 hbr hbd hb5 hb6
        go_wp2_with fail
        refine c1.mono ?_
        rintro e w7 ⟨rfl, hb7⟩
        go_wp2_with fail
        have B7 : Below w6.heap.size w6 (w7.alloc (.cells #[.int .i64 lt, .int .i64 ls, .int .i64 lgg, .int .u64 lp] 38)) := Below.onto hb7 ((Below.refl _ w7).alloc (Nat.le_refl _) _)
        have X7 := blk_new w7 [.int .i64 lt, .int .i64 ls, .int .i64 lgg, .int .u64 lp] 38
        simp only [List.toArray] at X7
        generalize w7.alloc (.cells #[.int .i64 lt, .int .i64 ls, .int .i64 lgg, .int .u64 lp] 38) = w7a at *
        generalize w7.heap.size = n14 at *
        have H7 : Hid (Below w6.heap.size w6 w7a ∧ Blk w7a n14 38 [.int .i64 lt, .int .i64 ls, .int .i64 lgg, .int .u64 lp]) := ⟨B7, X7⟩
        refine (c2 w7a B7).mono ?_
        rintro e w8 ⟨rfl, hb8⟩
        have B8 : Below w6.heap.size w6 (w8.alloc (.cells #[.int .i64 lt, .int .i64 ls, .int .i64 lgg, .int .u64 lp] 38)) := Below.onto (Below.onto B7 hb8) ((Below.refl _ w8).alloc (Nat.le_refl _) _)
        have X8 := blk_new w8 [.int .i64 lt, .int .i64 ls, .int .i64 lgg, .int .u64 lp] 38
        have X7' := X7.below (Below.onto hb8 ((Below.refl _ w8).alloc (Nat.le_refl _) (.cells #[.int .i64 lt, .int .i64 ls, .int .i64 lgg, .int .u64 lp] 38)))
        obtain ⟨_, _, g2, _⟩ := toS _ (Below.onto W6.out.y.b B8)
        simp only [List.toArray] at X8
        obtain ⟨w8a, h8a⟩ : ∃ W, W = w8.alloc (.cells #[.int .i64 lt, .int .i64 ls, .int .i64 lgg, .int .u64 lp] 38) := ⟨_, rfl⟩
        have H8 : Hid (w8a = w8.alloc (.cells #[.int .i64 lt, .int .i64 ls, .int .i64 lgg, .int .u64 lp] 38) ∧ Wr w2 w8a p q RA LA LA o6 rv lv6 ∧ Below w2.heap.size w2 w8a ∧ Blk w8a n14 38 [.int .i64 lt, .int .i64 ls, .int .i64 lgg, .int .u64 lp] ∧ Blk w8a w8.heap.size 38 [.int .i64 lt, .int .i64 ls, .int .i64 lgg, .int .u64 lp]) := by
          subst h8a
          exact ⟨rfl, W6.out.below B8, Below.onto W6.out.y.b B8, X7', X8⟩
        clear c1 c2 hb7 B7 X7 X7' X8 B8 hb8 h8a
        obtain ⟨dn, de, hdd⟩ : ∃ dn de : Int, (if inG RA (lg j).g then Value.tuple #[.int .i64 (atR RA (lg j).g.toNat - (ownR LA (lg j).g.toNat).length), .int .i64 0] else .tuple #[.int .i64 0, .int .i64 5]) = .tuple #[.int .i64 dn, .int .i64 de] := by
          split
          · exact ⟨_, _, rfl⟩
          · exact ⟨_, _, rfl⟩
        have c3 := yLeft_any H8.out.2.1.y.x (lg j).g
        have c4 := fun W (hW : Below w8a.heap.size w8a W) => rLeft15_any (H8.out.2.1.below hW).g H8.out.2.1.y.x.ok (lg j).g
        rw [hdd] at c3 c4
        clear hdd
        go_wp2_with fail
        rw [← H8.out.1]
        refine c3.mono ?_
        rintro e w9 ⟨rfl, hb9⟩
        have B9 : Below w8a.heap.size w8a w9 := hb9
        obtain ⟨_, _, g9, _⟩ := toS _ (Below.onto H8.out.2.2.1 B9)
        clear c3 hb9 g2
        go_wp2_with fail
        refine (c4 _ B9).mono ?_
        rintro e w10 ⟨rfl, hb10⟩
        have B10 : Below w8a.heap.size w8a w10 := Below.onto B9 hb10
        have B10d : Below w8a.heap.size w8a w10.drew := Below.onto B10 (Below.refl _ w10).drew
        have hlen : (rofR RA LA (lg j).g).length ≤ LA.length := List.length_filter_le _ _
        have cO1 := fun W (hW : Below w8a.heap.size w8a W) => (yOf_any (H8.out.2.1.y.x.below hW) (lg j).g).mono fun e w' h => (⟨h, hW⟩ : _ ∧ Below w8a.heap.size w8a W)
        have cO2 := fun W (hW : Below w8a.heap.size w8a W) => (rOf_any (H8.out.2.1.below hW).g HLA (lg j).g).mono fun e w' h => (⟨h, hW⟩ : _ ∧ Below w8a.heap.size w8a W)
        generalize rofR RA LA (lg j).g = LG at *
        have cS : ∀ W a c a' c', RcAt W a LG → RcAt W a' LG → Below w8a.heap.size w8a W → Calls Try.prog 18 #[.slice a LG.length c, .slice a' LG.length c'] W fun e w' => e = .returned (.bool true) ∧ Below w8a.heap.size w8a w' := fun W a c a' c' h h' hW => (rsame15 a a' c c' LG LG W (by omega) h h').mono fun e w' ⟨t, h1, h2, h3⟩ => by
          obtain rfl : t = true := h2.2 rfl
          exact ⟨h1, Below.onto hW h3⟩
        have toS2 : ∀ W, Below w8a.heap.size w8a W → (W.cell? ⟨n14, 0, none⟩ = some (.int .i64 lt) ∧ W.cell? ⟨n14, 1, none⟩ = some (.int .i64 ls) ∧ W.cell? ⟨n14, 2, none⟩ = some (.int .i64 lgg) ∧ W.cell? ⟨n14, 3, none⟩ = some (.int .u64 lp)) ∧ (W.cell? ⟨w8.heap.size, 0, none⟩ = some (.int .i64 lt) ∧ W.cell? ⟨w8.heap.size, 1, none⟩ = some (.int .i64 ls) ∧ W.cell? ⟨w8.heap.size, 2, none⟩ = some (.int .i64 lgg) ∧ W.cell? ⟨w8.heap.size, 3, none⟩ = some (.int .u64 lp)) ∧ W.cell? ⟨bl, off + j * 4 + 2, none⟩ = some (.int .i64 (lg j).g) := fun W hW => by
          have x14 := H8.out.2.2.2.1.below hW
          have x16 := H8.out.2.2.2.2.below hW
          exact ⟨⟨x14.cell (i := 0) rfl, x14.cell (i := 1) rfl, x14.cell (i := 2) rfl, x14.cell (i := 3) rfl⟩, ⟨x16.cell (i := 0) rfl, x16.cell (i := 1) rfl, x16.cell (i := 2) rfl, x16.cell (i := 3) rfl⟩, (toS _ (Below.onto H8.out.2.2.1 hW)).2.2.1⟩
        generalize w8.heap.size = n16 at *
        clear hb10 B10 B9 g9 c4
        go_wp2_with fail
        go_region_held3 (fun W => (W.cell? ⟨n14, 0, none⟩ = some (.int .i64 lt) ∧ W.cell? ⟨n14, 1, none⟩ = some (.int .i64 ls) ∧ W.cell? ⟨n14, 2, none⟩ = some (.int .i64 lgg) ∧ W.cell? ⟨n14, 3, none⟩ = some (.int .u64 lp)) ∧ (W.cell? ⟨n16, 0, none⟩ = some (.int .i64 lt) ∧ W.cell? ⟨n16, 1, none⟩ = some (.int .i64 ls) ∧ W.cell? ⟨n16, 2, none⟩ = some (.int .i64 lgg) ∧ W.cell? ⟨n16, 3, none⟩ = some (.int .u64 lp)) ∧ W.cell? ⟨bl, off + j * 4 + 2, none⟩ = some (.int .i64 (lg j).g)) (first | (with_reducible assumption) | exact toS2 _ (by assumption)) (first | (go_at_call 19; (with_reducible refine (cO1 _ (by assumption)).mono ?_); rintro v w11 ⟨⟨xa, xc, rfl, hx, hb11⟩, hW11⟩; have B11 := Below.onto hW11 hb11; have cO3 := cO2 _ B11) | (go_at_call 20; (with_reducible refine cO3.mono ?_); rintro v w12 ⟨⟨ya, yc, rfl, hy, hb12⟩, hW12⟩; have B12 := Below.onto hW12 hb12; have cS3 := fun c c' => cS _ xa c ya c' (hx.below hb12) hy B12) | (go_at_call 18; (with_reducible refine (cS3 _ _).mono ?_); rintro v w13 ⟨rfl, B13⟩))
        all_goals
          have W13 : Hid (∃ (L : List Rc) (o : Yo) (rv lv : Value), Wr w2 w13 p q RA L L o rv lv) := ⟨_, _, _, _, H8.out.2.1.below B13⟩
          clear cO1 cO2 cS toS2 B13 hlen B10d
          try clear cO3
          try clear cS3
          try clear hx hy
          go_wp2_with fail
          go_roundw
          case rel => exact ⟨j + 1, by omega, by go_num, W13.out⟩
          case measure => simp [intOf]; omega
    · have hge : ¬ ((j : Int) < (ll : Int) ∧ (j : Int) < 60) := by omega
      obtain ⟨L, o, rv, lv, ya⟩ := hM.out
      have hbr : Below w2.heap.size w2 wr := ya.y.b
      have HLL : L.length ≤ 100000 := by have := ya.y.x.ok.total; omega
      have hok : ∀ r, r ∈ L → r.Ok := ya.y.x.ok.rok
      obtain ⟨Lq, hLq, hrq⟩ : ∃ Lq : List Rc, Lq.length = ll ∧ RcAt w2 la Lq := rows_list H3.out.1
      have z0 : w2.cell? ⟨w.heap.size, 0, none⟩ = some (.int .i64 mt) := H3.out.2.1.cell (i := 0) rfl
      have z1 : w2.cell? ⟨w.heap.size, 1, none⟩ = some (.int .i64 ms) := H3.out.2.1.cell (i := 1) rfl
      have toS : ∀ W, Below wr.heap.size wr W → W.cell? ⟨w.heap.size, 0, none⟩ = some (.int .i64 mt) ∧ W.cell? ⟨w.heap.size, 1, none⟩ = some (.int .i64 ms) := fun W hW =>
        have hW' := Below.onto hbr hW
        ⟨(hW'.cell (p := ⟨w.heap.size, 0, none⟩) (cell_lt z0)).trans z0, (hW'.cell (p := ⟨w.heap.size, 1, none⟩) (cell_lt z1)).trans z1⟩
      have hbd : Below wr.heap.size wr wr.drew := (Below.refl _ wr).drew
      have hl1 : (allR L s).length ≤ L.length := List.length_filter_le _ _
      have hl2 : (uptoR L mt ms).length ≤ L.length := List.length_filter_le _ _
      have hl3 : (rofR RA L 0).length ≤ L.length := List.length_filter_le _ _
      have c1 := fun W (hW : Below wr.heap.size wr W) => tells_on (tells_of (yAll W p o RA L (ya.y.x.below hW) s HS.out.1)) hW
      have c2 := fun W (hW : Below wr.heap.size wr W) => tells_on (tells_of (rAll15 W q rv lv RA L (ya.below hW).g HLL s HS.out.1)) hW
      have c4 := fun W (hW : Below wr.heap.size wr W) => tells_on (tells_of (yUpto W p o RA L (ya.y.x.below hW) mt ms HS.out.2.1)) hW
      have c5 := fun W (hW : Below wr.heap.size wr W) => tells_on (tells_of (rUpto15 W q rv lv RA L (ya.below hW).g HLL mt ms HS.out.2.1 hok)) hW
      have c6 := fun W (hW : Below wr.heap.size wr W) => tells_on (yOf_any (ya.y.x.below hW) 0) hW
      have c7 := fun W (hW : Below wr.heap.size wr W) => tells_on (rOf_any (ya.below hW).g HLL 0) hW
      generalize allR L s = l1 at *
      generalize uptoR L mt ms = l2 at *
      generalize rofR RA L 0 = l3 at *
      have c3 : ∀ W (m : List Rc) a c a' c', m.length ≤ L.length → RcAt W a m → RcAt W a' m → Below wr.heap.size wr W → Calls Try.prog 18 #[.slice a m.length c, .slice a' m.length c'] W fun e w' => e = .returned (.bool true) ∧ Below wr.heap.size wr w' := fun W m a c a' c' hm h h' hW => (rsame15 a a' c c' m m W (by omega) h h').mono fun e w' ⟨t, h1, h2, h3⟩ => by
        obtain rfl : t = true := h2.2 rfl
        exact ⟨h1, Below.onto hW h3⟩
      obtain ⟨tb, htb⟩ : ∃ tb : Bool, tb = true ↔ Lq = l3 := by classical exact ⟨decide (Lq = l3), by simp⟩
      have c8 : ∀ W a c, RcAt W a l3 → Below wr.heap.size wr W → Calls Try.prog 25 #[.slice la ll lc, .slice a l3.length c] W fun e w' => e = .returned (.bool tb) ∧ Below wr.heap.size wr w' := fun W a c h hW => by
        have hh := ySame la a lc c Lq l3 W (by rw [hLq]; exact HS.out.2.2.1) (hrq.below (Below.onto hbr hW)) h
        rw [hLq] at hh
        exact hh.mono fun e w' ⟨t, h1, h2, h3⟩ => by
          obtain rfl : t = tb := by rw [Bool.eq_iff_iff, h2, htb]
          exact ⟨h1, Below.onto hW h3⟩
      have c9 : ∀ W a c, RcAt W a l3 → Below wr.heap.size wr W → Calls Try.prog 18 #[.slice la ll lc, .slice a l3.length c] W fun e w' => e = .returned (.bool tb) ∧ Below wr.heap.size wr w' := fun W a c h hW => by
        have hh := rsame15 la a lc c Lq l3 W (by rw [hLq]; exact HS.out.2.2.1) (hrq.below (Below.onto hbr hW)) h
        rw [hLq] at hh
        exact hh.mono fun e w' ⟨t, h1, h2, h3⟩ => by
          obtain rfl : t = tb := by rw [Bool.eq_iff_iff, h2, htb]
          exact ⟨h1, Below.onto hW h3⟩
      have c10 := fun W (hW : Below wr.heap.size wr W) => tells_on (yalive W) hW
      have HB : Hid (Below w.heap.size w wr) := Below.onto H3.out.2.2 hbr
      unfold stV at c4 c5
      clear ya hok htb hM z0 z1
      go_wp2_with fail
      all_goals go_region_held3 (fun W => W.cell? ⟨w.heap.size, 0, none⟩ = some (.int .i64 mt) ∧ W.cell? ⟨w.heap.size, 1, none⟩ = some (.int .i64 ms)) (first | (with_reducible assumption) | exact toS _ (by assumption)) (first | (go_at_call 21; (with_reducible refine (c1 _ (by assumption)).mono ?_); rintro v u1 ⟨⟨a1, k1, rfl, x1, hb⟩, hW⟩; have B1 := Below.onto hW hb; have d2 := c2 _ B1) | (go_at_call 22; (with_reducible refine d2.mono ?_); rintro v u2 ⟨⟨a2, k2, rfl, x2, hb⟩, hW⟩; have B2 := Below.onto hW hb; have d3 := fun c c' => c3 _ l1 a1 c a2 c' hl1 (x1.below hb) x2 B2) | (go_at_call 18; (with_reducible refine (d3 _ _).mono ?_); rintro v u3 ⟨rfl, B3⟩; have d4 := c4 _ B3; clear d3) | (go_at_call 23; (with_reducible refine d4.mono ?_); rintro v u4 ⟨⟨a4, k4, rfl, x4, hb⟩, hW⟩; have B4 := Below.onto hW hb; have d5 := c5 _ B4) | (go_at_call 24; (with_reducible refine d5.mono ?_); rintro v u5 ⟨⟨a5, k5, rfl, x5, hb⟩, hW⟩; have B5 := Below.onto hW hb; have d6 := fun c c' => c3 _ l2 a4 c a5 c' hl2 (x4.below hb) x5 B5) | (go_at_call 18; (with_reducible refine (d6 _ _).mono ?_); rintro v u6 ⟨rfl, B6⟩; have d7 := c6 _ B6; clear d6) | (go_at_call 19; (with_reducible refine d7.mono ?_); rintro v u7 ⟨⟨a7, k7, rfl, x7, hb⟩, hW⟩; have B7 := Below.onto hW hb; have d8 := fun c => c8 _ a7 c x7 B7) | (go_at_call 25; (with_reducible refine (d8 _).mono ?_); rintro v u8 ⟨rfl, B8⟩; have d9 := c7 _ B8) | (go_at_call 20; (with_reducible refine d9.mono ?_); rintro v u9 ⟨⟨a9, k9, rfl, x9, hb⟩, hW⟩; have B9 := Below.onto hW hb; have d10 := fun c => c9 _ a9 c x9 B9) | (go_at_call 18; (with_reducible refine (d10 _).mono ?_); rintro v u10 ⟨rfl, B10⟩; have d11 := c10 _ B10) | (go_at_call 11; (with_reducible refine d11.mono ?_); rintro v u11 ⟨⟨rfl, hb⟩, hW⟩; have B11 := Below.onto hW hb))
      all_goals
        have HE : Hid (Below w.heap.size w u11) := Below.onto HB.out B11
        clear c1 c2 c3 c4 c5 c6 c7 c8 c9 c10 toS hbd hbr B11
        go_wp2_with fail
        go_ret
        exact ⟨rfl, HE.out⟩
end Go.Proofs.Ytcfmbppnghlkaaa
