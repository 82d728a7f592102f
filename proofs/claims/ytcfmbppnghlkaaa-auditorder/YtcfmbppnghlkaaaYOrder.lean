/- AuditOrder, walked. -/
import Derived.Test.YtcfmbppnghlkaaaYAppends
import Derived.Test.YtcfmbppnghlkaaaUMem
namespace Go.Proofs.Ytcfmbppnghlkaaa
open Go.RowKit Go.Sort Go.Shelf
set_option maxRecDepth 100000

/-- a gate's own, whatever its number -/
def ownG (L : List Rc) (g : Int) : List Rc := L.filter fun r => decide (r.g = g)
theorem ownG_nat (L : List Rc) (k : Nat) : ownG L (k : Int) = ownR L k := rfl
theorem ownG_snoc (L : List Rc) (r : Rc) (g : Int) : ownG (L ++ [r]) g = if r.g = g then ownG L g ++ [r] else ownG L g := by
  unfold ownG
  rw [List.filter_append]
  by_cases h : r.g = g <;> simp [h]
theorem ownG_out {R : List Int} {L : List Rc} (h : Lo R L) {g : Int} (hg : ¬ (0 ≤ g ∧ g < R.length)) : ownG L g = [] := by
  unfold ownG
  rw [List.filter_eq_nil_iff]
  intro r hr hd
  have := h.gate r hr
  have e : r.g = g := of_decide_eq_true hd
  omega
theorem all16 {R : List Int} {L : List Rc} (h : Lo R L) : allR L 65535 = L := by
  unfold allR
  rw [List.filter_eq_self]
  intro r hr
  have hg := h.gate r hr
  have hf := h.few
  rw [hasB_of (by omega) (by omega)]
  have key : ∀ k, k < 16 → tb 65535 k = true := by decide +kernel
  exact key _ (by omega)
/-- logs, and two rows of one's own beside them -/
structure Wo (w0 w : World) (p : Nat) (R : List Int) (L : List Rc) (o : Yo) (va vb : Value) (la lb : List Rc) : Prop where
  y : Yw w0 w p R L o
  a : w.ownsRow w0.heap.size 38 4 va la.length (encRs la)
  b : w.ownsRow w0.heap.size 38 4 vb lb.length (encRs lb)
  sa : ∀ q, va.ownBlock = some q → ¬ o.has R p q
  sb : ∀ q, vb.ownBlock = some q → ¬ o.has R p q
  ab : ∀ q, va.ownBlock = some q → vb.ownBlock ≠ some q
section
variable {w0 w w' : World} {p : Nat} {R : List Int} {L : List Rc} {o : Yo} {va vb : Value} {la lb : List Rc}
theorem Wo.add (x : Wo w0 w p R L o va vb la lb) {r : Rc} (hr : r.Ok) : Calls Try.prog 12 #[ptr p, recV r] w fun e w' => e = .returned (.int .i64 (addE R L r)) ∧ ∃ o', Wo w0 w' p R (addL R L r) o' va vb la lb := by
  refine (x.y.addB hr).mono ?_
  rintro e w' ⟨rfl, o', h1, h2, h3⟩
  refine ⟨rfl, o', h1, eown_block x.a fun q hq => h2.block q (x.a.lt q hq).2 (x.sa q hq), eown_block x.b fun q hq => h2.block q (x.b.lt q hq).2 (x.sb q hq), fun q hq h => ?_, fun q hq h => ?_, x.ab⟩
  · have := (x.a.lt q hq).2
    exact (h3 q h).elim (x.sa q hq) (fun h => by omega)
  · have := (x.b.lt q hq).2
    exact (h3 q h).elim (x.sb q hq) (fun h => by omega)
theorem Wo.below (x : Wo w0 w p R L o va vb la lb) (h : Below w.heap.size w w') : Wo w0 w' p R L o va vb la lb :=
  ⟨x.y.below h, eown_block x.a fun q hq => h.block q (x.a.lt q hq).2, eown_block x.b fun q hq => h.block q (x.b.lt q hq).2, x.sa, x.sb, x.ab⟩
theorem snoc_but {v : Value} {r : Rc} {W2 : World} (hg : (w.alloc (.cells (encR r).toArray 38)).grownBy W2 v.ownBlock) : But (fun b => v.ownBlock = some b) w W2 :=
  ⟨hg.os, hg.tape, hg.output, by have := hg.size; rw [World.size_alloc] at this; omega, fun i hi hn => (hg.block i (by rw [World.size_alloc]; omega) (fun e => hn e.symm)).trans (Below.heap_alloc _ _ _ hi)⟩
theorem Wo.snocA (x : Wo w0 w p R L o va vb la lb) {r : Rc} {v' : Value} {W2 : World} (ho : W2.ownsRow w0.heap.size 38 4 v' (la.length + 1) (encRs la ++ encR r)) (hg : (w.alloc (.cells (encR r).toArray 38)).grownBy W2 va.ownBlock) (hl : v'.ownBlock = va.ownBlock ∨ v'.ownBlock = some (w.heap.size + 1)) :
    Wo w0 W2 p R L o v' vb (la ++ [r]) lb := by
  have hb := snoc_but hg
  have new : ∀ q, v'.ownBlock = some q → va.ownBlock = some q ∨ q = w.heap.size + 1 := fun q h => by
    rcases hl with e | e
    · exact .inl (by rw [← e]; exact h)
    · rw [e] at h; injection h with h; exact .inr h.symm
  refine ⟨⟨x.y.x.but hb fun b h hs => x.sa b hs h, below_but x.y.b hb fun b h => (x.a.lt b h).1, x.y.ge⟩, by rw [encRs_app, encRs_one, List.length_append]; exact ho, eown_block x.b fun q hq => hb.block q (x.b.lt q hq).2 (fun h => x.ab q h hq), fun q hq h => ?_, x.sb, fun q hq h => ?_⟩
  · rcases new q hq with h' | h'
    · exact x.sa q h' h
    · have := x.y.x.lt h; omega
  · rcases new q hq with h' | h'
    · exact x.ab q h' h
    · have := (x.b.lt q h).2; omega
theorem Wo.snocB (x : Wo w0 w p R L o va vb la lb) {r : Rc} {v' : Value} {W2 : World} (ho : W2.ownsRow w0.heap.size 38 4 v' (lb.length + 1) (encRs lb ++ encR r)) (hg : (w.alloc (.cells (encR r).toArray 38)).grownBy W2 vb.ownBlock) (hl : v'.ownBlock = vb.ownBlock ∨ v'.ownBlock = some (w.heap.size + 1)) :
    Wo w0 W2 p R L o va v' la (lb ++ [r]) := by
  have hb := snoc_but hg
  have new : ∀ q, v'.ownBlock = some q → vb.ownBlock = some q ∨ q = w.heap.size + 1 := fun q h => by
    rcases hl with e | e
    · exact .inl (by rw [← e]; exact h)
    · rw [e] at h; injection h with h; exact .inr h.symm
  refine ⟨⟨x.y.x.but hb fun b h hs => x.sb b hs h, below_but x.y.b hb fun b h => (x.b.lt b h).1, x.y.ge⟩, eown_block x.a fun q hq => hb.block q (x.a.lt q hq).2 (fun h => x.ab q hq h), by rw [encRs_app, encRs_one, List.length_append]; exact ho, x.sa, fun q hq h => ?_, fun q hq h => ?_⟩
  · rcases new q hq with h' | h'
    · exact x.sb q h' h
    · have := x.y.x.lt h; omega
  · rcases new q h with h' | h'
    · exact x.ab q hq h'
    · have := (x.a.lt q hq).2; omega
end
set_option maxHeartbeats 16000000 in
theorem yorder (a1 : Option Addr) (n1 c1 : Nat) (z1 : Nat → Int) (la : Option Addr) (ll lc : Nat) (lg : Nat → Rc) (gate : Int) (w : World)
    (h1 : Cells w .i64 a1 n1 z1) (hc1 : n1 ≤ c1) (h3 : RcRow w la ll lc lg) :
    Calls Try.prog 4 #[.slice a1 n1 c1, .slice la ll lc, .int .i64 gate] w fun e w' => e = .returned (.bool true) ∧ Below w.heap.size w w' := by
  have f1 := yfew a1 n1 c1 hc1 w
  have g1 : Cells w .i64 a1 (min n1 18) z1 := h1.mono (Nat.min_le_left _ _)
  have H3 : Hid (RcRow w la ll lc lg) := h3
  clear h1 h3
  generalize min n1 18 = m1 at *
  have cA := yNewE w a1 m1 c1 z1 g1
  clear g1
  go_enter Try.func4, Try.ntmps4
  go_wp2_with fail
  refine f1.mono ?_
  rintro e w1 ⟨rfl, hw⟩
  subst hw
  clear f1
  go_wp2_with fail
  refine cA.mono ?_
  rintro e w3 ⟨P, er, rfl, hN, hb3⟩
  have HN : Hid (NewIs w1 w3 (roomsI m1 z1) P er ∧ Below w1.heap.size w1 w3) := ⟨hN, hb3⟩
  clear cA hN hb3
  rcases HN.out.1 with ⟨her, rfl⟩ | ⟨rfl, p, o, rfl, xa, hlo⟩
  · go_wp2_with fail
    refine (yalive _).mono ?_
    rintro e w9 ⟨rfl, hb9⟩
    have HE : Hid (Below w1.heap.size w1 w9) := Below.onto HN.out.2 hb9
    clear hb9
    go_wp2_with fail
    go_ret
    exact ⟨ret_bool (by simp [her]), HE.out⟩
  have A0 : Hid (Wo w1 w3 p (roomsI m1 z1) [] o (.slice none 0 0) (.slice none 0 0) [] (ownG [] gate)) := ⟨⟨xa, HN.out.2, hlo⟩, World.ownsRow_nil _ _ _ _, World.ownsRow_nil _ _ _ _, fun q h => (by cases h), fun q h => (by cases h), fun q h => (by cases h)⟩
  clear xa hlo HN hc1
  generalize roomsI m1 z1 = RA at *
  go_wp2_with fail
  go_loopw [9, 10, 11] (fun va vb i wr => ∃ (j : Nat), j ≤ 60 ∧ i = .int .i64 j ∧ Hid (∃ (L : List Rc) (o : Yo), L.length ≤ j ∧ Wo w1 wr p RA L o va vb L (ownG L gate))) (fun _ _ i _ => 60 - (intOf i).toNat)
  case atStart => exact ⟨0, by omega, rfl, [], o, Nat.le_refl _, A0.out⟩
  case round =>
    obtain ⟨j, hj, rfl, hM⟩ := hrel
    clear A0
    by_cases hlt : j < ll ∧ j < 60
    · obtain ⟨hlt, hlt2⟩ := hlt
      obtain ⟨L, o, hLj, ya⟩ := hM.out
      obtain ⟨bl, off, rfl, hcell⟩ := H3.out.1 j hlt
      have hok := H3.out.2 j hlt
      have q0 := hcell 0 (by decide)
      have HC : Hid (∀ W, Below w1.heap.size w1 W → W.cell? ⟨bl, off + j * 4, none⟩ = some (.int .i64 (lg j).t) ∧ W.cell? ⟨bl, off + j * 4 + 1, none⟩ = some (.int .i64 (lg j).s) ∧ W.cell? ⟨bl, off + j * 4 + 2, none⟩ = some (.int .i64 (lg j).g) ∧ W.cell? ⟨bl, off + j * 4 + 3, none⟩ = some (.int .u64 (lg j).p)) := fun W hW =>
        ⟨(hW.cell (p := ⟨bl, off + j * 4, none⟩) (cell_lt q0)).trans q0, (hW.cell (p := ⟨bl, off + j * 4 + 1, none⟩) (cell_lt q0)).trans (hcell 1 (by decide)), (hW.cell (p := ⟨bl, off + j * 4 + 2, none⟩) (cell_lt q0)).trans (hcell 2 (by decide)), (hW.cell (p := ⟨bl, off + j * 4 + 3, none⟩) (cell_lt q0)).trans (hcell 3 (by decide))⟩
      obtain ⟨k0, k1, k2, k3⟩ := HC.out wr ya.y.b
      have cA := ya.add hok
      clear q0 hcell ya hM
      unfold recV at cA
      go_wp2_with fail
      refine cA.mono ?_
      rintro e w4 ⟨rfl, o4, y4⟩
      have W4 : Hid (Wo w1 w4 p RA (addL RA L (lg j)) o4 u9 u10 L (ownG L gate)) := y4
      clear cA y4 k0 k1 k2 k3
      by_cases he : addE RA L (lg j) = 0
      · rw [addL_ok he] at W4
        obtain ⟨k0, k1, k2, k3⟩ := HC.out w4 W4.out.y.b
        obtain ⟨va', w5, hrun, hown, hgrow, hloc⟩ := ysnoc w1.heap.size u9 L.length (encRs L) (lg j) w4 W4.out.a (by omega) W4.out.y.b.size
        have W5 : Hid (Wo w1 w5 p RA (L ++ [lg j]) o4 va' u10 (L ++ [lg j]) (ownG L gate)) := W4.out.snocA hown hgrow hloc
        obtain ⟨x0, x1, x2, x3⟩ := HC.out w5 W5.out.y.b
        have hLl : (L ++ [lg j]).length ≤ j + 1 := by rw [List.length_append]; simp; omega
        have hol : (ownG L gate).length ≤ L.length := List.length_filter_le _ _
        have hsn := ownG_snoc L (lg j) gate
        clear hown hgrow hloc
        by_cases hg : (lg j).g = gate
        · rw [if_pos hg] at hsn
          obtain ⟨vb', w6, hrun2, hown2, hgrow2, hloc2⟩ := ysnoc w1.heap.size u10 (ownG L gate).length (encRs (ownG L gate)) (lg j) w5 W5.out.b (by omega) W5.out.y.b.size
          have W6 : Hid (Wo w1 w6 p RA (L ++ [lg j]) o4 va' vb' (L ++ [lg j]) (ownG (L ++ [lg j]) gate)) := by rw [hsn]; exact W5.out.snocB hown2 hgrow2 hloc2
          have hg' : ((lg j).g == gate) = true := by simp [hg]
          clear hown2 hgrow2 hloc2 hsn
          clear hg
          go_wp2_with (at_builtin; first | refine wpList_append_run rfl (.tmp 52) (.tmp 57) 23 rfl _ _ _ rfl rfl hrun ?_ | refine wpList_append_run rfl (.tmp 66) (.tmp 71) 23 rfl _ _ _ rfl rfl hrun2 ?_)
          clear hrun hrun2
          go_roundw
          case rel => exact ⟨j + 1, by omega, by go_num, _, o4, hLl, W6.out⟩
          case measure => simp [intOf]; omega
        · rw [if_neg hg] at hsn
          have W6 : Hid (Wo w1 w5 p RA (L ++ [lg j]) o4 va' u10 (L ++ [lg j]) (ownG (L ++ [lg j]) gate)) := by rw [hsn]; exact W5.out
          clear hsn
          go_wp2_with (at_builtin; refine wpList_append_run rfl (.tmp 52) (.tmp 57) 23 rfl _ _ _ rfl rfl hrun ?_)
          clear hrun
          go_roundw
          case rel => exact ⟨j + 1, by omega, by go_num, _, o4, hLl, W6.out⟩
          case measure => simp [intOf]; omega
      · rw [addL_no he] at W4
        generalize addE RA L (lg j) = eA at *
        go_wp2_with fail
        go_roundw
        case rel => exact ⟨j + 1, by omega, by go_num, L, o4, by omega, W4.out⟩
        case measure => simp [intOf]; omega
    · obtain ⟨L, o, hLj, ya⟩ := hM.out
      clear hM
      have HY : Hid (Wo w1 wr p RA L o u9 u10 L (ownG L gate)) := ya
      obtain ⟨xa, xc, hu9, hra⟩ := rcAt_own ya.a
      obtain ⟨xb, xd, hu10, hrb⟩ := rcAt_own ya.b
      have HR : Hid (RcAt wr xa L ∧ RcAt wr xb (ownG L gate) ∧ L.length ≤ 60) := ⟨hra, hrb, by omega⟩
      subst hu9 hu10
      clear ya hra hrb
      by_cases hl1 : j < ll
      · have hl2 : j = 60 := by omega
        subst hl2
        go_wp2_with fail
        go_loopw [12] (fun i W => ∃ (k : Nat), k ≤ L.length ∧ i = .int .i64 ((k : Int) + 1) ∧ Hid (Below wr.heap.size wr W)) (fun i _ => L.length + 2 - (intOf i).toNat)
        case atStart => exact ⟨0, Nat.zero_le _, rfl, Below.refl _ _⟩
        case round =>
          obtain ⟨k, hk, rfl, hW⟩ := hrel
          by_cases hlt2 : k + 1 < L.length
          · obtain ⟨r, hr⟩ : ∃ r, L[k]? = some r := ⟨_, List.getElem?_eq_getElem (by omega)⟩
            obtain ⟨q, hq⟩ : ∃ q, L[k + 1]? = some q := ⟨_, List.getElem?_eq_getElem hlt2⟩
            obtain ⟨b1, o1, rfl, e1⟩ := HR.out.1.below hW.out k r hr
            obtain ⟨b2, o2, hb2, e2⟩ := HR.out.1.below hW.out (k + 1) q hq
            injection hb2 with hb2
            injection hb2 with hb2 ho2
            subst hb2 ho2
            have d0 := cell_regrown (e1 0 _ rfl)
            have d1 := cell_regrown (e1 1 _ rfl)
            have f0 := cell_regrown (e2 0 _ rfl)
            have f1 := cell_regrown (e2 1 _ rfl)
            simp only [Nat.add_zero] at d0 f0
            have hrise : r.key < q.key := by
              obtain ⟨hk1, hr'⟩ := List.getElem?_eq_some_iff.1 hr
              obtain ⟨hk2, hq'⟩ := List.getElem?_eq_some_iff.1 hq
              have := List.pairwise_iff_getElem.1 HY.out.y.x.ok.rise k (k + 1) hk1 hk2 (Nat.lt_succ_self k)
              rw [hr', hq'] at this
              exact this
            have hcmp : cmpI r.t r.s q.t q.s = -1 := cmpI_lt (((HY.out.y.x.ok.rok r (List.mem_of_getElem? hr)).key (HY.out.y.x.ok.rok q (List.mem_of_getElem? hq))).1 hrise)
            have cq := regrown_call (w := wr) fun W' _ => rcmp_any r.t r.s q.t q.s W'
            rw [hcmp] at cq
            have hlt3 : (k : Int) + 1 < (L.length : Int) := by omega
            have hlt4 : (k : Int) < (L.length : Int) := by omega
            clear e1 e2 hr hq hrise hcmp
            go_wp2_with fail
            refine wp_region_quiet_below (by kernel_rfl) (by kernel_rfl) ?_
            repeat (go_big_quiet_step (with_reducible exact cq _ _))
            refine wpQuiet_nil ?_
            intro _ hw'
            obtain ⟨⟨dq, osq⟩, hw''⟩ := hw'
            subst hw''
            have HW2 := Below.onto hW.out (below_regrown wr dq osq)
            clear cq d0 d1 f0 f1
            go_wp2_with fail
            go_roundw
            case rel => exact ⟨k + 1, by omega, by go_num, HW2⟩
            case measure => simp [intOf]; omega
          · have hge : ¬ (k : Int) + 1 < (L.length : Int) := by omega
            have yW := HY.out.below hW.out
            have cAll := yAll wr p o RA L yW.y.x 65535 ⟨by decide, by decide⟩
            rw [all16 yW.y.x.ok] at cAll
            have HYW : Hid (Yw w1 wr p RA L o ∧ RcAt wr xa L ∧ RcAt wr xb (ownG L gate)) := ⟨yW.y, HR.out.1.below hW.out, HR.out.2.1.below hW.out⟩
            clear yW
            go_wp2_with fail
            refine cAll.mono ?_
            rintro e w4 ⟨U, rfl, ho, hb4⟩
            obtain ⟨ua, uc, rfl, hu⟩ := rcAt_own ho
            have cS := rsame15 ua xa uc xc L L w4 (by have := HR.out.2.2; omega) hu (HYW.out.2.1.below hb4)
            have H4 : Hid (Yw w1 w4 p RA L o ∧ RcAt w4 xb (ownG L gate)) := ⟨HYW.out.1.below hb4, HYW.out.2.2.below hb4⟩
            clear cAll ho hu hb4
            go_wp2_with fail
            refine cS.mono ?_
            rintro e w5 ⟨t, rfl, ht, hb5⟩
            obtain rfl : t = true := ht.2 trivial
            have H5 : Hid (Yw w1 w5 p RA L o ∧ RcAt w5 xb (ownG L gate)) := ⟨H4.out.1.below hb5, H4.out.2.below hb5⟩
            clear cS ht hb5
            have cO : Calls Try.prog 19 #[ptr p, .int .i64 gate] w5 fun e w' => ∃ a c, e = .returned (.slice a (ownG L gate).length c) ∧ RcAt w' a (ownG L gate) ∧ Below w5.heap.size w5 w' := by
              by_cases hg : inG RA gate
              · refine (yOf w5 p o RA L H5.out.1.x gate hg).mono ?_
                rintro e w' ⟨v, rfl, ho, hb⟩
                obtain ⟨a, c, hv, hr⟩ := rcAt_own ho
                have e1 : ownR L gate.toNat = ownG L gate := by rw [← ownG_nat, show ((gate.toNat : Nat) : Int) = gate by omega]
                rw [e1] at hv hr
                exact ⟨a, c, by rw [hv], hr, hb⟩
              · have hl := ylog w5 p o RA L H5.out.1.x gate
                rw [logV, if_neg hg] at hl
                refine (yOf_bad w5 (ptr p) gate 5 (by decide) hl).mono ?_
                rintro e w' ⟨rfl, rfl⟩
                rw [ownG_out H5.out.1.x.ok hg]
                exact ⟨none, 0, rfl, fun j r h => by simp at h, Below.refl _ _⟩
            go_wp2_with fail
            refine cO.mono ?_
            rintro e w6 ⟨va, vc, rfl, hv, hb6⟩
            have hol : (ownG L gate).length ≤ L.length := List.length_filter_le _ _
            have cS := rsame15 va xb vc xd (ownG L gate) (ownG L gate) w6 (by have := HR.out.2.2; omega) hv (H5.out.2.below hb6)
            have H6 : Hid (Below w1.heap.size w1 w6) := Below.onto H5.out.1.b hb6
            clear cO hv hb6
            go_wp2_with fail
            refine cS.mono ?_
            rintro e w7 ⟨t, rfl, ht, hb7⟩
            obtain rfl : t = true := ht.2 trivial
            have H7 : Hid (Below w1.heap.size w1 w7) := Below.onto H6.out hb7
            clear cS ht hb7
            go_wp2_with fail
            refine (yalive _).mono ?_
            rintro e w9 ⟨rfl, hb9⟩
            have HE : Hid (Below w1.heap.size w1 w9) := Below.onto H7.out hb9
            clear hb9
            go_wp2_with fail
            go_ret
            exact ⟨rfl, HE.out⟩
      · go_wp2_with fail
        go_loopw [12] (fun i W => ∃ (k : Nat), k ≤ L.length ∧ i = .int .i64 ((k : Int) + 1) ∧ Hid (Below wr.heap.size wr W)) (fun i _ => L.length + 2 - (intOf i).toNat)
        case atStart => exact ⟨0, Nat.zero_le _, rfl, Below.refl _ _⟩
        case round =>
          obtain ⟨k, hk, rfl, hW⟩ := hrel
          by_cases hlt2 : k + 1 < L.length
          · obtain ⟨r, hr⟩ : ∃ r, L[k]? = some r := ⟨_, List.getElem?_eq_getElem (by omega)⟩
            obtain ⟨q, hq⟩ : ∃ q, L[k + 1]? = some q := ⟨_, List.getElem?_eq_getElem hlt2⟩
            obtain ⟨b1, o1, rfl, e1⟩ := HR.out.1.below hW.out k r hr
            obtain ⟨b2, o2, hb2, e2⟩ := HR.out.1.below hW.out (k + 1) q hq
            injection hb2 with hb2
            injection hb2 with hb2 ho2
            subst hb2 ho2
            have d0 := cell_regrown (e1 0 _ rfl)
            have d1 := cell_regrown (e1 1 _ rfl)
            have f0 := cell_regrown (e2 0 _ rfl)
            have f1 := cell_regrown (e2 1 _ rfl)
            simp only [Nat.add_zero] at d0 f0
            have hrise : r.key < q.key := by
              obtain ⟨hk1, hr'⟩ := List.getElem?_eq_some_iff.1 hr
              obtain ⟨hk2, hq'⟩ := List.getElem?_eq_some_iff.1 hq
              have := List.pairwise_iff_getElem.1 HY.out.y.x.ok.rise k (k + 1) hk1 hk2 (Nat.lt_succ_self k)
              rw [hr', hq'] at this
              exact this
            have hcmp : cmpI r.t r.s q.t q.s = -1 := cmpI_lt (((HY.out.y.x.ok.rok r (List.mem_of_getElem? hr)).key (HY.out.y.x.ok.rok q (List.mem_of_getElem? hq))).1 hrise)
            have cq := regrown_call (w := wr) fun W' _ => rcmp_any r.t r.s q.t q.s W'
            rw [hcmp] at cq
            have hlt3 : (k : Int) + 1 < (L.length : Int) := by omega
            have hlt4 : (k : Int) < (L.length : Int) := by omega
            clear e1 e2 hr hq hrise hcmp
            go_wp2_with fail
            refine wp_region_quiet_below (by kernel_rfl) (by kernel_rfl) ?_
            repeat (go_big_quiet_step (with_reducible exact cq _ _))
            refine wpQuiet_nil ?_
            intro _ hw'
            obtain ⟨⟨dq, osq⟩, hw''⟩ := hw'
            subst hw''
            have HW2 := Below.onto hW.out (below_regrown wr dq osq)
            clear cq d0 d1 f0 f1
            go_wp2_with fail
            go_roundw
            case rel => exact ⟨k + 1, by omega, by go_num, HW2⟩
            case measure => simp [intOf]; omega
          · have hge : ¬ (k : Int) + 1 < (L.length : Int) := by omega
            have yW := HY.out.below hW.out
            have cAll := yAll wr p o RA L yW.y.x 65535 ⟨by decide, by decide⟩
            rw [all16 yW.y.x.ok] at cAll
            have HYW : Hid (Yw w1 wr p RA L o ∧ RcAt wr xa L ∧ RcAt wr xb (ownG L gate)) := ⟨yW.y, HR.out.1.below hW.out, HR.out.2.1.below hW.out⟩
            clear yW
            go_wp2_with fail
            refine cAll.mono ?_
            rintro e w4 ⟨U, rfl, ho, hb4⟩
            obtain ⟨ua, uc, rfl, hu⟩ := rcAt_own ho
            have cS := rsame15 ua xa uc xc L L w4 (by have := HR.out.2.2; omega) hu (HYW.out.2.1.below hb4)
            have H4 : Hid (Yw w1 w4 p RA L o ∧ RcAt w4 xb (ownG L gate)) := ⟨HYW.out.1.below hb4, HYW.out.2.2.below hb4⟩
            clear cAll ho hu hb4
            go_wp2_with fail
            refine cS.mono ?_
            rintro e w5 ⟨t, rfl, ht, hb5⟩
            obtain rfl : t = true := ht.2 trivial
            have H5 : Hid (Yw w1 w5 p RA L o ∧ RcAt w5 xb (ownG L gate)) := ⟨H4.out.1.below hb5, H4.out.2.below hb5⟩
            clear cS ht hb5
            have cO : Calls Try.prog 19 #[ptr p, .int .i64 gate] w5 fun e w' => ∃ a c, e = .returned (.slice a (ownG L gate).length c) ∧ RcAt w' a (ownG L gate) ∧ Below w5.heap.size w5 w' := by
              by_cases hg : inG RA gate
              · refine (yOf w5 p o RA L H5.out.1.x gate hg).mono ?_
                rintro e w' ⟨v, rfl, ho, hb⟩
                obtain ⟨a, c, hv, hr⟩ := rcAt_own ho
                have e1 : ownR L gate.toNat = ownG L gate := by rw [← ownG_nat, show ((gate.toNat : Nat) : Int) = gate by omega]
                rw [e1] at hv hr
                exact ⟨a, c, by rw [hv], hr, hb⟩
              · have hl := ylog w5 p o RA L H5.out.1.x gate
                rw [logV, if_neg hg] at hl
                refine (yOf_bad w5 (ptr p) gate 5 (by decide) hl).mono ?_
                rintro e w' ⟨rfl, rfl⟩
                rw [ownG_out H5.out.1.x.ok hg]
                exact ⟨none, 0, rfl, fun j r h => by simp at h, Below.refl _ _⟩
            go_wp2_with fail
            refine cO.mono ?_
            rintro e w6 ⟨va, vc, rfl, hv, hb6⟩
            have hol : (ownG L gate).length ≤ L.length := List.length_filter_le _ _
            have cS := rsame15 va xb vc xd (ownG L gate) (ownG L gate) w6 (by have := HR.out.2.2; omega) hv (H5.out.2.below hb6)
            have H6 : Hid (Below w1.heap.size w1 w6) := Below.onto H5.out.1.b hb6
            clear cO hv hb6
            go_wp2_with fail
            refine cS.mono ?_
            rintro e w7 ⟨t, rfl, ht, hb7⟩
            obtain rfl : t = true := ht.2 trivial
            have H7 : Hid (Below w1.heap.size w1 w7) := Below.onto H6.out hb7
            clear cS ht hb7
            go_wp2_with fail
            refine (yalive _).mono ?_
            rintro e w9 ⟨rfl, hb9⟩
            have HE : Hid (Below w1.heap.size w1 w9) := Below.onto H7.out hb9
            clear hb9
            go_wp2_with fail
            go_ret
            exact ⟨rfl, HE.out⟩
end Go.Proofs.Ytcfmbppnghlkaaa
