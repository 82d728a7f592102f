/- do: Drain; all of do. -/
import Derived.Test.YtimmjhegeagofaaESame
namespace Go.Proofs.Ytimmjhegeagofaa
open Go.RowKit Go.Sort
set_option maxRecDepth 100000

theorem Pr.drain {w : World} {p r : Nat} {D E : List En} {last last2 : Nat} {Y : Nat → Prop} (t : Pr w p r D last E last2 Y) (most : Int) :
    Calls Try.prog 21 #[ptr p, .int .i64 most] w fun e w' => ∃ v T D', (e = .returned v ∧ w'.ownsRow 0 27 2 v T.length (encT T) ∧ Dr True D T D' ∧ T.length ≤ moI most ∧ (T.length = moI most ∨ D' = [])) ∧ Pr w' p r D' last E last2 Y ∧ But (Els Y) w w' := by
  obtain ⟨rv, s, x, a, hy⟩ := t
  refine (drainA a most fun b hb => hb.elim (fun h => (hy b h).1) (fun h => x.lt h)).mono ?_
  rintro e w' ⟨v, T, D', rfl, hT⟩
  exact ⟨v, T, D', ⟨rfl, hT.ow, hT.dr, hT.le, hT.al⟩, ⟨rv, s, x.but hT.bu fun b hb hn => hn (.inr hb), hT.ag.less fun b hb => .inl hb, fun b hb => ⟨Nat.lt_of_lt_of_le (hy b hb).1 hT.bu.size, (hy b hb).2⟩⟩, hT.bu.mono fun _ h h' => h (.inl h')⟩
/-- how many are drained -/
def dnI (n : Int) : Nat := if n < 1 ∨ n > 60 then 1 else n.toNat
theorem dnI_b (n : Int) : 1 ≤ dnI n ∧ dnI n ≤ 60 := by unfold dnI; split <;> omega
theorem mo_dn (n : Int) : moI (dnI n : Int) = dnI n := by
  have := dnI_b n
  unfold moI
  rw [if_neg (by omega)]
  omega
/-- what the loop keeps -/
structure Wt (w wr : World) (p r : Nat) (D : List En) (last : Nat) (Y : Nat → Prop) (v : Value) (T E : List En) : Prop where
  pr : Pr wr p r D last E last (fun b => Y b ∨ v.ownBlock = some b)
  ow : wr.ownsRow 0 27 2 v T.length (encT T)
  dr : Dr True D T E
  bu : But (Els Y) w wr
  vb : ∀ b, v.ownBlock = some b → w.heap.size ≤ b
set_option maxHeartbeats 4000000 in
theorem edo5 (D : List En) (last p r : Nat) (Y : Nat → Prop) (w : World) (t : Pr w p r D last D last Y) (hl : last ≤ 1000) (o : Eo) (h1 : o.kd = 5) :
    Calls Try.prog 11 #[ptr p, ptr r, eoV o] w fun v w' => v = .returned (.bool true) ∧ DoEnd w w' p r last Y := by
  obtain ⟨d0, _, _, _, d4⟩ := eo_cells w o
  have hb1 : Below w.heap.size w (eoW w o) := (Below.refl _ w).alloc (Nat.le_refl _) _
  have t1 : Pr (eoW w o) p r D last D last Y := t.below hb1
  have E1 : Hid (But (Els Y) w (eoW w o)) := But.of hb1
  have hlen := t.ag.len
  have HS : Hid (Srt D) := t.ag.srt
  have hm := dnI_b o.n
  have hmo := mo_dn o.n
  have HM : Hid (dnI o.n = if o.n < 1 ∨ o.n > 60 then 1 else o.n.toNat) := rfl
  have W0 : Hid (Wt w (eoW w o) p r D last Y (.slice none 0 0) [] D) := ⟨t1.less fun b hb => (hb.elim id (fun h => by cases h)), World.ownsRow_nil _ _ _ _, .nil, E1.out, fun b h => by cases h⟩
  clear t t1 hb1
  obtain ⟨w1, hw1⟩ : ∃ w1, eoW w o = w1 := ⟨_, rfl⟩
  rw [hw1] at d0 d4 E1 W0
  unfold eoW at hw1
  generalize hN : w.heap.size = N at *
  rw [h1] at hw1 d0
  unfold eoV
  rw [h1]
  generalize o.n = on at *
  generalize dnI on = nn at *
  by_cases hc : on < 1 ∨ on > 60
  · have en : nn = 1 := by rw [HM.out, if_pos hc]
    subst en
    have hmo : moI 1 = 1 := hmo
    clear HM hm
    rcases hc with hc | hc
    · go_enter Try.func11, Try.ntmps11
      go_wp2_with fail
      clear hw1 d0 d4 hc
      go_loopw [16, 17] (fun vw vi wr => ∃ (T E : List En) (i : Nat), vi = .int .i64 (i : Int) ∧ i ≤ 1 ∧ T.length = i ∧ Hid (Wt w wr p r D last Y vw T E)) (fun _ vi _ => 1 - (intOf vi).toNat)
      case atStart => exact ⟨[], D, 0, rfl, Nat.zero_le _, rfl, W0⟩
      case round =>
        obtain ⟨T, E, i, rfl, hi, hTi, W1⟩ := hrel
        subst hTi
        obtain ⟨rv, sE, xE, aE, hyE⟩ := W1.out.pr
        obtain ⟨ar, cr, hrv, _⟩ := xE.form
        have c0 := xE.bl.cell (i := 0) rfl
        rw [hrv] at c0
        have hEl := xE.bd.1
        clear sE xE aE hyE hrv
        by_cases hin : T.length < 1
        · by_cases hE : E = []
          · have HL : Hid (T.length = 1 ∨ E = []) := .inr hE
            have hE0 : E.length = 0 := by rw [hE]; rfl
            rw [hE0] at c0
            clear hE hE0 hEl
            have cD := W1.out.pr.drain 1
            obtain ⟨a1, cp1, hv1⟩ := eown_form W1.out.ow
            subst hv1
            go_wp2_with fail
            (with_reducible refine cD.mono ?_)
            rintro e w5 ⟨v2, T2, D2, ⟨rfl, o2, r2, l2, m2⟩, t5, b5⟩
            clear cD
            have hsT := W1.out.dr.len HS.out
            have hs2 := r2.len HS.out
            rw [hmo] at l2 m2
            have hll : T.length = T2.length := by
              rcases HL.out with h | h <;> rcases m2 with h' | h'
              · omega
              · subst h'; simp at hs2; omega
              · subst h; simp at hsT; omega
              · subst h h'; simp at hsT hs2; omega
            obtain ⟨rfl, rfl⟩ := W1.out.dr.uniq r2 HS.out hll
            obtain ⟨a2, cp2, hv2⟩ := eown_form o2
            subst hv2
            have tr2 := tr_own o2 rfl
            have tr1 := tr_own (eown_block W1.out.ow fun b hb => b5.block b (W1.out.ow.lt b hb).2 fun h => h (.inr hb)) rfl
            have cS := esame w5 a2 a1 T.length cp2 cp1 T tr2 tr1 (by omega)
            have T5 : Hid (Pr w5 p r E last E last (fun b => Y b ∨ (Value.slice a1 T.length cp1).ownBlock = some b)) := t5
            have B5 : Hid (But (Els Y) w w5) := W1.out.bu.trans (b5.mono fun _ h h' => h (.inl h'))
            clear hsT hs2 l2 m2 hll o2 r2 t5 b5 tr1 tr2 W1
            go_wp2_with fail
            (with_reducible refine cS.mono ?_)
            rintro e w6 ⟨rfl, b6⟩
            clear cS
            have HT : Hid (DoEnd w w6 p r last Y) := ⟨⟨_, last, Nat.le_succ _, (T5.out.less fun _ h => .inl h).below b6⟩, B5.out.trans (But.of b6)⟩
            clear b6
            go_wp2_with fail
            go_ret
            exact ⟨rfl, HT.out⟩
          · have hE0 : 0 < E.length := List.length_pos_iff.2 hE
            have cP := W1.out.pr.popR hE
            unfold tlV thV at cP
            generalize hEn : E.length = En0 at *
            go_wp2_with fail
            (with_reducible refine cP.mono ?_)
            rintro e w2 ⟨en, hB, rfl, t2, b2⟩
            clear cP c0 hEn hE0 hEl
            have ow2 := eown_block (w' := w2) W1.out.ow fun b hb => b2.block b (W1.out.ow.lt b hb).2 fun h => h (.inr hb)
            have hb3 : Below w2.heap.size w2 (bxV w2 en.k en.m) := (Below.refl _ w2).alloc (Nat.le_refl _) _
            have m3 := blk_new w2 [.int .i8 en.k, .int .i64 en.m] 27
            have x0 := m3.cell (i := 0) rfl
            have x1 := m3.cell (i := 1) rfl
            have ow3 := eown_block (w' := bxV w2 en.k en.m) ow2 fun b hb => hb3.block b (ow2.lt b hb).2
            obtain ⟨v4, w4, hrun, ow4, b4, loc4⟩ := eapp u16 T.length (encT T) en.k en.m (bxV w2 en.k en.m) (by omega) ow3
            have t3 := t2.below hb3
            have W4 : Hid (Wt w w4 p r D last Y v4 (T ++ [en]) (dropD E en.n)) := by
              refine ⟨?_, ?_, W1.out.dr.snoc hB.1 (fun _ => hB), ?_, fun b e => ?_⟩
              · refine (t3.grow b4 fun b hb => .inr hb).less fun b hb => ?_
                rcases hb with h | h
                · exact .inl (.inl h)
                · rcases loc4 with e | ⟨b', e, hb'⟩
                  · exact .inl (.inr (by rw [← e]; exact h))
                  · rw [e] at h; injection h with h; subst h
                    exact .inr ⟨hb', (ow4.lt _ e).2⟩
              · rw [encT_snoc, List.length_append]; exact ow4
              · refine ((W1.out.bu.trans (b2.mono fun _ h h' => h (.inl h'))).trans (But.of hb3)).onto b4 fun b hb => .inr (W1.out.vb b hb)
              · rcases loc4 with e' | ⟨b', e', hb'⟩
                · rw [e'] at e; exact W1.out.vb b e
                · rw [e'] at e; injection e with e; subst e
                  have h1 := W1.out.bu.size
                  have h2 := b2.size
                  have h3 := hb3.size
                  omega
            obtain ⟨a4, cp4, hv4⟩ := eown_form ow4
            obtain ⟨a6, cp6, hv6⟩ := eown_form W1.out.ow
            subst hv4 hv6
            clear t2 b2 hb3 m3 ow2 ow3 ow4 b4 loc4 t3 hB W1
            unfold bxV at hrun x0 x1
            rw [World.size_alloc] at hrun
            have hlen9 : Hid ((T ++ [en]).length = T.length + 1) := by show _ = _; rw [List.length_append]; rfl
            go_wp2_with (at_builtin; refine wpList_append_run rfl (.tmp 124) (.tmp 126) 43 rfl _ _ _ rfl rfl hrun ?_)
            go_roundw
            case rel => exact ⟨T ++ [en], dropD E en.n, T.length + 1, by go_num, by omega, hlen9.out, W4⟩
            case measure => simp [intOf]; omega
        · have HL : Hid (T.length = 1 ∨ E = []) := .inl (by omega)
          have cD := W1.out.pr.drain 1
          obtain ⟨a1, cp1, hv1⟩ := eown_form W1.out.ow
          subst hv1
          go_wp2_with fail
          (with_reducible refine cD.mono ?_)
          rintro e w5 ⟨v2, T2, D2, ⟨rfl, o2, r2, l2, m2⟩, t5, b5⟩
          clear cD
          have hsT := W1.out.dr.len HS.out
          have hs2 := r2.len HS.out
          rw [hmo] at l2 m2
          have hll : T.length = T2.length := by
            rcases HL.out with h | h <;> rcases m2 with h' | h'
            · omega
            · subst h'; simp at hs2; omega
            · subst h; simp at hsT; omega
            · subst h h'; simp at hsT hs2; omega
          obtain ⟨rfl, rfl⟩ := W1.out.dr.uniq r2 HS.out hll
          obtain ⟨a2, cp2, hv2⟩ := eown_form o2
          subst hv2
          have tr2 := tr_own o2 rfl
          have tr1 := tr_own (eown_block W1.out.ow fun b hb => b5.block b (W1.out.ow.lt b hb).2 fun h => h (.inr hb)) rfl
          have cS := esame w5 a2 a1 T.length cp2 cp1 T tr2 tr1 (by omega)
          have T5 : Hid (Pr w5 p r E last E last (fun b => Y b ∨ (Value.slice a1 T.length cp1).ownBlock = some b)) := t5
          have B5 : Hid (But (Els Y) w w5) := W1.out.bu.trans (b5.mono fun _ h h' => h (.inl h'))
          clear hsT hs2 l2 m2 hll o2 r2 t5 b5 tr1 tr2 W1
          go_wp2_with fail
          (with_reducible refine cS.mono ?_)
          rintro e w6 ⟨rfl, b6⟩
          clear cS
          have HT : Hid (DoEnd w w6 p r last Y) := ⟨⟨_, last, Nat.le_succ _, (T5.out.less fun _ h => .inl h).below b6⟩, B5.out.trans (But.of b6)⟩
          clear b6
          go_wp2_with fail
          go_ret
          exact ⟨rfl, HT.out⟩
    · have hc1 : ¬ on < 1 := by omega
      go_enter Try.func11, Try.ntmps11
      go_wp2_with fail
      clear hw1 d0 d4 hc hc1
      go_loopw [16, 17] (fun vw vi wr => ∃ (T E : List En) (i : Nat), vi = .int .i64 (i : Int) ∧ i ≤ 1 ∧ T.length = i ∧ Hid (Wt w wr p r D last Y vw T E)) (fun _ vi _ => 1 - (intOf vi).toNat)
      case atStart => exact ⟨[], D, 0, rfl, Nat.zero_le _, rfl, W0⟩
      case round =>
        obtain ⟨T, E, i, rfl, hi, hTi, W1⟩ := hrel
        subst hTi
        obtain ⟨rv, sE, xE, aE, hyE⟩ := W1.out.pr
        obtain ⟨ar, cr, hrv, _⟩ := xE.form
        have c0 := xE.bl.cell (i := 0) rfl
        rw [hrv] at c0
        have hEl := xE.bd.1
        clear sE xE aE hyE hrv
        by_cases hin : T.length < 1
        · by_cases hE : E = []
          · have HL : Hid (T.length = 1 ∨ E = []) := .inr hE
            have hE0 : E.length = 0 := by rw [hE]; rfl
            rw [hE0] at c0
            clear hE hE0 hEl
            have cD := W1.out.pr.drain 1
            obtain ⟨a1, cp1, hv1⟩ := eown_form W1.out.ow
            subst hv1
            go_wp2_with fail
            (with_reducible refine cD.mono ?_)
            rintro e w5 ⟨v2, T2, D2, ⟨rfl, o2, r2, l2, m2⟩, t5, b5⟩
            clear cD
            have hsT := W1.out.dr.len HS.out
            have hs2 := r2.len HS.out
            rw [hmo] at l2 m2
            have hll : T.length = T2.length := by
              rcases HL.out with h | h <;> rcases m2 with h' | h'
              · omega
              · subst h'; simp at hs2; omega
              · subst h; simp at hsT; omega
              · subst h h'; simp at hsT hs2; omega
            obtain ⟨rfl, rfl⟩ := W1.out.dr.uniq r2 HS.out hll
            obtain ⟨a2, cp2, hv2⟩ := eown_form o2
            subst hv2
            have tr2 := tr_own o2 rfl
            have tr1 := tr_own (eown_block W1.out.ow fun b hb => b5.block b (W1.out.ow.lt b hb).2 fun h => h (.inr hb)) rfl
            have cS := esame w5 a2 a1 T.length cp2 cp1 T tr2 tr1 (by omega)
            have T5 : Hid (Pr w5 p r E last E last (fun b => Y b ∨ (Value.slice a1 T.length cp1).ownBlock = some b)) := t5
            have B5 : Hid (But (Els Y) w w5) := W1.out.bu.trans (b5.mono fun _ h h' => h (.inl h'))
            clear hsT hs2 l2 m2 hll o2 r2 t5 b5 tr1 tr2 W1
            go_wp2_with fail
            (with_reducible refine cS.mono ?_)
            rintro e w6 ⟨rfl, b6⟩
            clear cS
            have HT : Hid (DoEnd w w6 p r last Y) := ⟨⟨_, last, Nat.le_succ _, (T5.out.less fun _ h => .inl h).below b6⟩, B5.out.trans (But.of b6)⟩
            clear b6
            go_wp2_with fail
            go_ret
            exact ⟨rfl, HT.out⟩
          · have hE0 : 0 < E.length := List.length_pos_iff.2 hE
            have cP := W1.out.pr.popR hE
            unfold tlV thV at cP
            generalize hEn : E.length = En0 at *
            go_wp2_with fail
            (with_reducible refine cP.mono ?_)
            rintro e w2 ⟨en, hB, rfl, t2, b2⟩
            clear cP c0 hEn hE0 hEl
            have ow2 := eown_block (w' := w2) W1.out.ow fun b hb => b2.block b (W1.out.ow.lt b hb).2 fun h => h (.inr hb)
            have hb3 : Below w2.heap.size w2 (bxV w2 en.k en.m) := (Below.refl _ w2).alloc (Nat.le_refl _) _
            have m3 := blk_new w2 [.int .i8 en.k, .int .i64 en.m] 27
            have x0 := m3.cell (i := 0) rfl
            have x1 := m3.cell (i := 1) rfl
            have ow3 := eown_block (w' := bxV w2 en.k en.m) ow2 fun b hb => hb3.block b (ow2.lt b hb).2
            obtain ⟨v4, w4, hrun, ow4, b4, loc4⟩ := eapp u16 T.length (encT T) en.k en.m (bxV w2 en.k en.m) (by omega) ow3
            have t3 := t2.below hb3
            have W4 : Hid (Wt w w4 p r D last Y v4 (T ++ [en]) (dropD E en.n)) := by
              refine ⟨?_, ?_, W1.out.dr.snoc hB.1 (fun _ => hB), ?_, fun b e => ?_⟩
              · refine (t3.grow b4 fun b hb => .inr hb).less fun b hb => ?_
                rcases hb with h | h
                · exact .inl (.inl h)
                · rcases loc4 with e | ⟨b', e, hb'⟩
                  · exact .inl (.inr (by rw [← e]; exact h))
                  · rw [e] at h; injection h with h; subst h
                    exact .inr ⟨hb', (ow4.lt _ e).2⟩
              · rw [encT_snoc, List.length_append]; exact ow4
              · refine ((W1.out.bu.trans (b2.mono fun _ h h' => h (.inl h'))).trans (But.of hb3)).onto b4 fun b hb => .inr (W1.out.vb b hb)
              · rcases loc4 with e' | ⟨b', e', hb'⟩
                · rw [e'] at e; exact W1.out.vb b e
                · rw [e'] at e; injection e with e; subst e
                  have h1 := W1.out.bu.size
                  have h2 := b2.size
                  have h3 := hb3.size
                  omega
            obtain ⟨a4, cp4, hv4⟩ := eown_form ow4
            obtain ⟨a6, cp6, hv6⟩ := eown_form W1.out.ow
            subst hv4 hv6
            clear t2 b2 hb3 m3 ow2 ow3 ow4 b4 loc4 t3 hB W1
            unfold bxV at hrun x0 x1
            rw [World.size_alloc] at hrun
            have hlen9 : Hid ((T ++ [en]).length = T.length + 1) := by show _ = _; rw [List.length_append]; rfl
            go_wp2_with (at_builtin; refine wpList_append_run rfl (.tmp 124) (.tmp 126) 43 rfl _ _ _ rfl rfl hrun ?_)
            go_roundw
            case rel => exact ⟨T ++ [en], dropD E en.n, T.length + 1, by go_num, by omega, hlen9.out, W4⟩
            case measure => simp [intOf]; omega
        · have HL : Hid (T.length = 1 ∨ E = []) := .inl (by omega)
          have cD := W1.out.pr.drain 1
          obtain ⟨a1, cp1, hv1⟩ := eown_form W1.out.ow
          subst hv1
          go_wp2_with fail
          (with_reducible refine cD.mono ?_)
          rintro e w5 ⟨v2, T2, D2, ⟨rfl, o2, r2, l2, m2⟩, t5, b5⟩
          clear cD
          have hsT := W1.out.dr.len HS.out
          have hs2 := r2.len HS.out
          rw [hmo] at l2 m2
          have hll : T.length = T2.length := by
            rcases HL.out with h | h <;> rcases m2 with h' | h'
            · omega
            · subst h'; simp at hs2; omega
            · subst h; simp at hsT; omega
            · subst h h'; simp at hsT hs2; omega
          obtain ⟨rfl, rfl⟩ := W1.out.dr.uniq r2 HS.out hll
          obtain ⟨a2, cp2, hv2⟩ := eown_form o2
          subst hv2
          have tr2 := tr_own o2 rfl
          have tr1 := tr_own (eown_block W1.out.ow fun b hb => b5.block b (W1.out.ow.lt b hb).2 fun h => h (.inr hb)) rfl
          have cS := esame w5 a2 a1 T.length cp2 cp1 T tr2 tr1 (by omega)
          have T5 : Hid (Pr w5 p r E last E last (fun b => Y b ∨ (Value.slice a1 T.length cp1).ownBlock = some b)) := t5
          have B5 : Hid (But (Els Y) w w5) := W1.out.bu.trans (b5.mono fun _ h h' => h (.inl h'))
          clear hsT hs2 l2 m2 hll o2 r2 t5 b5 tr1 tr2 W1
          go_wp2_with fail
          (with_reducible refine cS.mono ?_)
          rintro e w6 ⟨rfl, b6⟩
          clear cS
          have HT : Hid (DoEnd w w6 p r last Y) := ⟨⟨_, last, Nat.le_succ _, (T5.out.less fun _ h => .inl h).below b6⟩, B5.out.trans (But.of b6)⟩
          clear b6
          go_wp2_with fail
          go_ret
          exact ⟨rfl, HT.out⟩
  · have en : (nn : Int) = on := by rw [HM.out, if_neg hc]; omega
    subst en
    have hn1 : ¬ (nn : Int) < 1 := fun h => hc (.inl h)
    have hn2 : ¬ (60 : Int) < (nn : Int) := fun h => hc (.inr h)
    clear HM hc
    go_enter Try.func11, Try.ntmps11
    go_wp2_with fail
    clear hw1 d0 d4 hn1 hn2
    go_loopw [16, 17] (fun vw vi wr => ∃ (T E : List En) (i : Nat), vi = .int .i64 (i : Int) ∧ i ≤ nn ∧ T.length = i ∧ Hid (Wt w wr p r D last Y vw T E)) (fun _ vi _ => nn - (intOf vi).toNat)
    case atStart => exact ⟨[], D, 0, rfl, Nat.zero_le _, rfl, W0⟩
    case round =>
      obtain ⟨T, E, i, rfl, hi, hTi, W1⟩ := hrel
      subst hTi
      obtain ⟨rv, sE, xE, aE, hyE⟩ := W1.out.pr
      obtain ⟨ar, cr, hrv, _⟩ := xE.form
      have c0 := xE.bl.cell (i := 0) rfl
      rw [hrv] at c0
      have hEl := xE.bd.1
      clear sE xE aE hyE hrv
      by_cases hin : T.length < nn
      · by_cases hE : E = []
        · have HL : Hid (T.length = nn ∨ E = []) := .inr hE
          have hE0 : E.length = 0 := by rw [hE]; rfl
          rw [hE0] at c0
          clear hE hE0 hEl
          have cD := W1.out.pr.drain (nn : Int)
          obtain ⟨a1, cp1, hv1⟩ := eown_form W1.out.ow
          subst hv1
          go_wp2_with fail
          (with_reducible refine cD.mono ?_)
          rintro e w5 ⟨v2, T2, D2, ⟨rfl, o2, r2, l2, m2⟩, t5, b5⟩
          clear cD
          have hsT := W1.out.dr.len HS.out
          have hs2 := r2.len HS.out
          rw [hmo] at l2 m2
          have hll : T.length = T2.length := by
            rcases HL.out with h | h <;> rcases m2 with h' | h'
            · omega
            · subst h'; simp at hs2; omega
            · subst h; simp at hsT; omega
            · subst h h'; simp at hsT hs2; omega
          obtain ⟨rfl, rfl⟩ := W1.out.dr.uniq r2 HS.out hll
          obtain ⟨a2, cp2, hv2⟩ := eown_form o2
          subst hv2
          have tr2 := tr_own o2 rfl
          have tr1 := tr_own (eown_block W1.out.ow fun b hb => b5.block b (W1.out.ow.lt b hb).2 fun h => h (.inr hb)) rfl
          have cS := esame w5 a2 a1 T.length cp2 cp1 T tr2 tr1 (by omega)
          have T5 : Hid (Pr w5 p r E last E last (fun b => Y b ∨ (Value.slice a1 T.length cp1).ownBlock = some b)) := t5
          have B5 : Hid (But (Els Y) w w5) := W1.out.bu.trans (b5.mono fun _ h h' => h (.inl h'))
          clear hsT hs2 l2 m2 hll o2 r2 t5 b5 tr1 tr2 W1
          go_wp2_with fail
          (with_reducible refine cS.mono ?_)
          rintro e w6 ⟨rfl, b6⟩
          clear cS
          have HT : Hid (DoEnd w w6 p r last Y) := ⟨⟨_, last, Nat.le_succ _, (T5.out.less fun _ h => .inl h).below b6⟩, B5.out.trans (But.of b6)⟩
          clear b6
          go_wp2_with fail
          go_ret
          exact ⟨rfl, HT.out⟩
        · have hE0 : 0 < E.length := List.length_pos_iff.2 hE
          have cP := W1.out.pr.popR hE
          unfold tlV thV at cP
          generalize hEn : E.length = En0 at *
          go_wp2_with fail
          (with_reducible refine cP.mono ?_)
          rintro e w2 ⟨en, hB, rfl, t2, b2⟩
          clear cP c0 hEn hE0 hEl
          have ow2 := eown_block (w' := w2) W1.out.ow fun b hb => b2.block b (W1.out.ow.lt b hb).2 fun h => h (.inr hb)
          have hb3 : Below w2.heap.size w2 (bxV w2 en.k en.m) := (Below.refl _ w2).alloc (Nat.le_refl _) _
          have m3 := blk_new w2 [.int .i8 en.k, .int .i64 en.m] 27
          have x0 := m3.cell (i := 0) rfl
          have x1 := m3.cell (i := 1) rfl
          have ow3 := eown_block (w' := bxV w2 en.k en.m) ow2 fun b hb => hb3.block b (ow2.lt b hb).2
          obtain ⟨v4, w4, hrun, ow4, b4, loc4⟩ := eapp u16 T.length (encT T) en.k en.m (bxV w2 en.k en.m) (by omega) ow3
          have t3 := t2.below hb3
          have W4 : Hid (Wt w w4 p r D last Y v4 (T ++ [en]) (dropD E en.n)) := by
            refine ⟨?_, ?_, W1.out.dr.snoc hB.1 (fun _ => hB), ?_, fun b e => ?_⟩
            · refine (t3.grow b4 fun b hb => .inr hb).less fun b hb => ?_
              rcases hb with h | h
              · exact .inl (.inl h)
              · rcases loc4 with e | ⟨b', e, hb'⟩
                · exact .inl (.inr (by rw [← e]; exact h))
                · rw [e] at h; injection h with h; subst h
                  exact .inr ⟨hb', (ow4.lt _ e).2⟩
            · rw [encT_snoc, List.length_append]; exact ow4
            · refine ((W1.out.bu.trans (b2.mono fun _ h h' => h (.inl h'))).trans (But.of hb3)).onto b4 fun b hb => .inr (W1.out.vb b hb)
            · rcases loc4 with e' | ⟨b', e', hb'⟩
              · rw [e'] at e; exact W1.out.vb b e
              · rw [e'] at e; injection e with e; subst e
                have h1 := W1.out.bu.size
                have h2 := b2.size
                have h3 := hb3.size
                omega
          obtain ⟨a4, cp4, hv4⟩ := eown_form ow4
          obtain ⟨a6, cp6, hv6⟩ := eown_form W1.out.ow
          subst hv4 hv6
          clear t2 b2 hb3 m3 ow2 ow3 ow4 b4 loc4 t3 hB W1
          unfold bxV at hrun x0 x1
          rw [World.size_alloc] at hrun
          have hlen9 : Hid ((T ++ [en]).length = T.length + 1) := by show _ = _; rw [List.length_append]; rfl
          go_wp2_with (at_builtin; refine wpList_append_run rfl (.tmp 124) (.tmp 126) 43 rfl _ _ _ rfl rfl hrun ?_)
          go_roundw
          case rel => exact ⟨T ++ [en], dropD E en.n, T.length + 1, by go_num, by omega, hlen9.out, W4⟩
          case measure => simp [intOf]; omega
      · have HL : Hid (T.length = nn ∨ E = []) := .inl (by omega)
        have cD := W1.out.pr.drain (nn : Int)
        obtain ⟨a1, cp1, hv1⟩ := eown_form W1.out.ow
        subst hv1
        go_wp2_with fail
        (with_reducible refine cD.mono ?_)
        rintro e w5 ⟨v2, T2, D2, ⟨rfl, o2, r2, l2, m2⟩, t5, b5⟩
        clear cD
        have hsT := W1.out.dr.len HS.out
        have hs2 := r2.len HS.out
        rw [hmo] at l2 m2
        have hll : T.length = T2.length := by
          rcases HL.out with h | h <;> rcases m2 with h' | h'
          · omega
          · subst h'; simp at hs2; omega
          · subst h; simp at hsT; omega
          · subst h h'; simp at hsT hs2; omega
        obtain ⟨rfl, rfl⟩ := W1.out.dr.uniq r2 HS.out hll
        obtain ⟨a2, cp2, hv2⟩ := eown_form o2
        subst hv2
        have tr2 := tr_own o2 rfl
        have tr1 := tr_own (eown_block W1.out.ow fun b hb => b5.block b (W1.out.ow.lt b hb).2 fun h => h (.inr hb)) rfl
        have cS := esame w5 a2 a1 T.length cp2 cp1 T tr2 tr1 (by omega)
        have T5 : Hid (Pr w5 p r E last E last (fun b => Y b ∨ (Value.slice a1 T.length cp1).ownBlock = some b)) := t5
        have B5 : Hid (But (Els Y) w w5) := W1.out.bu.trans (b5.mono fun _ h h' => h (.inl h'))
        clear hsT hs2 l2 m2 hll o2 r2 t5 b5 tr1 tr2 W1
        go_wp2_with fail
        (with_reducible refine cS.mono ?_)
        rintro e w6 ⟨rfl, b6⟩
        clear cS
        have HT : Hid (DoEnd w w6 p r last Y) := ⟨⟨_, last, Nat.le_succ _, (T5.out.less fun _ h => .inl h).below b6⟩, B5.out.trans (But.of b6)⟩
        clear b6
        go_wp2_with fail
        go_ret
        exact ⟨rfl, HT.out⟩
theorem edo (D : List En) (last p r : Nat) (Y : Nat → Prop) (w : World) (t : Pr w p r D last D last Y) (hl : last ≤ 1000) (o : Eo) (ho : o.okk) :
    Calls Try.prog 11 #[ptr p, ptr r, eoV o] w fun v w' => v = .returned (.bool true) ∧ DoEnd w w' p r last Y := by
  by_cases h1 : o.kd = 1
  · exact edo1 D last p r Y w t hl o ho h1
  by_cases h2 : o.kd = 2
  · exact edo2 D last p r Y w t o h2
  by_cases h3 : o.kd = 3
  · exact edo3 D last p r Y w t o ho h3
  by_cases h4 : o.kd = 4
  · exact edo4 D last p r Y w t o ho h4
  by_cases h5 : o.kd = 5
  · exact edo5 D last p r Y w t hl o h5
  exact edo0 D last p r Y w t o h1 h2 h3 h4 h5
end Go.Proofs.Ytimmjhegeagofaa
