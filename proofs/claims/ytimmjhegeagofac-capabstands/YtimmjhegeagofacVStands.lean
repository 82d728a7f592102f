/- CapabStands' walk. -/
import Derived.Test.YtimmjhegeagofacVStand
namespace Go.Proofs.Ytimmjhegeagofac
open Go.RowKit Go.Sort
set_option maxRecDepth 100000

theorem any_take {l : List Hd} {k : Nat} (hk : k < l.length) (h : Int) : ((l.take (k + 1)).any fun x => x.h == h) = (((l.take k).any fun x => x.h == h) || ((l.getD k hd0).h == h)) := by
  have e : l.getD k hd0 = l[k] := by rw [List.getD_eq_getElem?_getD, List.getElem?_eq_getElem hk]; rfl
  rw [e, ← List.take_append_getElem hk, List.any_append]
  simp
theorem getHd_mem {l : List Hd} {k : Nat} (h : k < l.length) : l.getD k hd0 ∈ l := by
  rw [List.getD_eq_getElem?_getD, List.getElem?_eq_getElem h]
  exact List.getElem_mem h
set_option maxHeartbeats 16000000 in
theorem stands_any (sa : Option Addr) (sl sc : Nat) (g : Nat → VOp) (h : Int) (w : World) (hs : Rd w sa sl 5 (fun j => encV (g j))) (hg : ∀ j, j < sl → (g j).Ok) (h0 : 0 ≤ h) (h1 : h < 4294967296) :
    Calls Try.prog 4 #[.slice sa sl sc, .int .u32 h] w fun e w' => e = .returned (.bool true) ∧ Below w.heap.size w w' := by
  have hNw := tnew_any 32 w (by omega)
  have hA := fun W => valive_any W
  have HS : Hid (Rd w sa sl 5 (fun j => encV (g j))) := hs
  have HG : Hid (∀ j, j < sl → (g j).Ok) := hg
  clear hs hg
  go_enter Try.func4, Try.ntmps4
  go_wp2_with fail
  refine hNw.mono ?_
  rintro e w1 ⟨rfl, hx1, hb1⟩
  have HI : Hid (SdI w w1 w.heap.size (.slice none 0 0) (newTb 32) []) := ⟨hx1, World.ownsRow_nil _ _ _ _, fun e => (by cases e), sti_new 32, hb1, Nat.le_refl _⟩
  clear hNw hx1 hb1
  go_wp2_with fail
  obtain ⟨p, hp⟩ : ∃ p, p = w.heap.size := ⟨_, rfl⟩
  rw [← hp]
  replace HI : Hid (SdI w w1 p (.slice none 0 0) (newTb 32) []) := by rw [hp]; exact HI.out
  clear hp
  go_loopw [7, 8] (fun vt t wr => ∃ (u : Value) (i : Nat) (T : Tb) (l : List Hd), u = vt ∧ i ≤ sl ∧ t = .int .i64 i ∧ Hid (SdI w wr p u T l)) (fun _ t _ => sl - (intOf t).toNat)
  case atStart => exact ⟨_, 0, _, [], rfl, Nat.zero_le _, rfl, HI.out⟩
  case round =>
    obtain ⟨v, i, T, l, e7, hi, rfl, hI⟩ := hrel
    subst e7
    obtain ⟨ta, tc, rfl⟩ := vown_form hI.out.ow
    have hll := hI.out.len
    obtain ⟨n, hn⟩ : ∃ n, n = l.length := ⟨_, rfl⟩
    rw [← hn] at hI hll ⊢
    have HN : Hid (n = l.length) := hn
    clear hn
    by_cases hfin : i < sl ∧ i < 80
    · obtain ⟨hf1, hf2⟩ := hfin
      obtain ⟨b, off, hsa, q0, q1, q2, q3, q4⟩ := (HS.out.below hI.out.bel).five hf1
      subst hsa
      obtain ⟨g0, g1, g2, g3⟩ := HG.out i hf1
      obtain ⟨o, ho⟩ : ∃ o, o = g i := ⟨_, rfl⟩
      rw [← ho] at q0 q1 q2 q3 q4 g0 g1 g2 g3
      clear ho
      have qb := cell_lt q0
      have HIb : Hid (SdI w (wr.alloc (.cells #[.int .i64 o.k, .int .i64 o.c, .int .u8 o.r, .int .u32 o.h, .int .i64 o.j] 33)) p (.slice ta n tc) T l) := hI.out.grow (below_new _ _)
      have HXb : Hid (Bx (wr.alloc (.cells #[.int .i64 o.k, .int .i64 o.c, .int .u8 o.r, .int .u32 o.h, .int .i64 o.j] 33)) wr.heap.size [.int .i64 o.k, .int .i64 o.c, .int .u8 o.r, .int .u32 o.h, .int .i64 o.j]) := bx_new wr [.int .i64 o.k, .int .i64 o.c, .int .u8 o.r, .int .u32 o.h, .int .i64 o.j] _
      have HBP : Hid (wr.heap.size ≠ p) := by show _ ≠ _; have := hI.out.tx.lt; omega
      obtain ⟨z0, z1, z2, z3, z4⟩ := HXb.out.five
      have zl := HXb.out.lt
      by_cases hk1 : o.k = 1
      · have hM := fun W hW => tmint_any p o.c o.r T W hW g0 g1
        rw [hk1] at q0
        rw [hk1] at z0 z1 z2 z3 z4 zl
        rw [hk1] at HIb HXb
        clear hk1
        go_wp2_with fail
        generalize wr.alloc (.cells #[.int .i64 1, .int .i64 o.c, .int .u8 o.r, .int .u32 o.h, .int .i64 o.j] 33) = w2 at *
        refine (hM _ HIb.out.tx).mono ?_
        rintro e w3 ⟨rfl, hx3, hb3⟩
        have X3 := hb3.bx HXb.out HBP.out
        have HX3 : Hid (Tx w3 p (mtT T o.c o.r)) := hx3
        have HB3 : Hid (Bt p w2 w3) := hb3
        clear z0 z1 z2 z3 z4 zl hM hx3 hb3 q0 q1 q2 q3 q4 qb
        obtain ⟨z0, z1, z2, z3, z4⟩ := X3.five
        have zl := X3.lt
        clear X3
        by_cases hE : mtE T o.r = 0
        · have HE : Hid (mtE T o.r = 0) := hE
          rw [hE]
          clear hE
          have hrow := HIb.out.row HB3.out
          obtain ⟨v9, w9, hrun, ho9, hb9, hl9⟩ := vapp (ty := 40) eltHd (hdC ⟨mtI T o.r, o.c, o.r⟩) hrow rfl (by simp [hdC, Value.oneCell']) (by have := HN.out; omega) (HIb.out.bel.trans (HB3.out.below HIb.out.bel.size HIb.out.bp)).size
          have HI9 : Hid (SdI w w9 p v9 (mtT T o.c o.r) (l ++ [⟨mtI T o.r, o.c, o.r⟩])) := HIb.out.tell g0 g1 HE.out HX3.out HB3.out ho9 hb9 hl9
          obtain ⟨a9, c9, rfl⟩ := vown_form ho9
          unfold hdC at hrun
          clear ho9 hb9 hl9 hrow
          generalize mtI T o.r = mi at *
          go_wp2_with (at_builtin; refine wpList_append_run rfl (.tmp 54) (.tmp 59) 40 rfl _ _ _ rfl rfl hrun ?_)
          exact ⟨⟨_, i + 1, _, _, rfl, by omega, by go_num, HI9.out⟩, by simp [intOf]; omega⟩
        · have e3 : mtT T o.c o.r = T := mtT_fail hE
          have HI3 : Hid (SdI w w3 p (.slice ta n tc) T l) := by
            have hx := HX3.out
            rw [e3] at hx
            exact ⟨hx, by have := HIb.out.row HB3.out; exact this, HIb.out.np, HIb.out.si, HIb.out.bel.trans (HB3.out.below HIb.out.bel.size HIb.out.bp), HIb.out.bp⟩
          have hE2 : (mtE T o.r == 0) = false := by simpa using hE
          clear e3
          generalize mtE T o.r = ee at *
          go_wp2_with fail
          exact ⟨⟨_, i + 1, _, _, rfl, by omega, by go_num, HI3.out⟩, by simp [intOf]; omega⟩
      · have k1 : (o.k == 1) = false := by simpa using hk1
        by_cases hj : 0 ≤ o.j
        · by_cases hjn : o.j < (n : Int)
          · obtain ⟨jj, hjj⟩ := Int.eq_ofNat_of_zero_le hj
            have hjl : jj < n := by omega
            rw [hjj] at q4
            rw [hjj] at z0 z1 z2 z3 z4 zl
            rw [hjj] at HIb HXb
            obtain ⟨tg, htg, htc, y0, y1, y2⟩ := HIb.out.at_ HN.out hjl
            subst htg
            obtain ⟨l1, l2, hl, hl1⟩ := split_at (l := l) (k := jj) (by rw [← HN.out]; exact hjl)
            have hmm := HIb.out.si.mem _ (getHd_mem (l := l) (k := jj) (by rw [← HN.out]; exact hjl))
            have hD := fun W hW => tdrop_any p (l.getD jj hd0).h T W hW hmm.2.2.2.1 hmm.2.2.2.2
            generalize l.getD jj hd0 = x at *
            have HNL : Hid (n = l1.length + 1 + l2.length) := by show _ = _; rw [HN.out, hl]; simp; omega
            subst hl
            rw [(HIb.out.si.drop HIb.out.tx.ok).1] at hD
            have yl := cell_lt y0
            clear hjj hmm hk1
            go_wp2_with fail
            generalize wr.alloc (.cells #[.int .i64 o.k, .int .i64 o.c, .int .u8 o.r, .int .u32 o.h, .int .i64 (jj : Int)] 33) = w2 at *
            refine (hD _ HIb.out.tx).mono ?_
            rintro e w3 ⟨rfl, hx3, hb3⟩
            have X3 := hb3.bx HXb.out HBP.out
            have HX3 : Hid (Tx w3 p (dpT T x.h)) := hx3
            have HB3 : Hid (Bt p w2 w3) := hb3
            have hrow := HIb.out.row hb3
            rw [← HN.out] at hrow
            have hck := X3 4 _ rfl
            clear z0 z1 z2 z3 z4 zl hD hx3 hb3 q0 q1 q2 q3 q4 qb y0 y1 y2 yl X3
            go_wp2_with fail
            subst hl1
            refine hd_region (g := tg) (ob := wr.heap.size) (N := n) (cv := tc) (k := l1.length) (m1 := l1.length) (m2 := l2.length) (S1 := .slice (some ⟨tg, 0, none⟩) l1.length tc) (S2 := .slice (some ⟨tg, if tc = l1.length + 1 then 0 else (l1.length + 1) * 3, none⟩) (n - (l1.length + 1)) (tc - (l1.length + 1))) (xs1 := encHd l1) (xs2 := encHd l2) (by simp) rfl rfl (by kernel_rfl) (by kernel_rfl) (by kernel_rfl) rfl rfl rfl rfl rfl rfl rfl rfl rfl rfl rfl rfl rfl rfl rfl rfl rfl rfl rfl rfl rfl rfl rfl rfl rfl rfl rfl rfl rfl rfl (by omega) hck (hd_lo rfl (by omega) htc) (hd_hi rfl (by omega)) (src_lo hrow (by omega)) (encHd_len _) (encHd_one _) (src_hi hrow HNL.out) (encHd_len _) (encHd_one _) (by have := HNL.out; omega) (by kernel_rfl) (by kernel_rfl) (by kernel_rfl) (by kernel_rfl) (fun _ _ d _ _ h => by cases d <;> exact h) ?_
            intro vA vB vC W9 hown9 hb9
            have HI9 : Hid (SdI w W9 p vC (dpT T x.h) (l1 ++ l2)) := HIb.out.cut HX3.out HB3.out hown9 hb9
            clear hown9 hb9 hrow hck
            simp only [Act.put, List.setIfInBounds_toArray, List.set_cons_zero, List.set_cons_succ]
            go_wp2_with fail
            exact ⟨⟨_, i + 1, _, _, rfl, by omega, by go_num, HI9.out⟩, by simp [intOf]; omega⟩
          · have hjn2 : (n : Int) ≤ o.j := by omega
            go_wp2_with fail
            exact ⟨⟨_, i + 1, _, _, rfl, by omega, by go_num, HIb.out⟩, by simp [intOf]; omega⟩
        · have hj2 : o.j < 0 := by omega
          go_wp2_with fail
          exact ⟨⟨_, i + 1, _, _, rfl, by omega, by go_num, HIb.out⟩, by simp [intOf]; omega⟩
    · have HND : Hid True := trivial
      clear HND
      by_cases hf1 : i < sl
      · have hf2 : ¬ i < 80 := by omega
        have hf3 : 80 ≤ i := by omega
        go_wp2_with fail
        go_loopw [12, 13] (fun kn t wx => ∃ k : Nat, k ≤ n ∧ kn = .bool ((l.take k).any fun x => x.h == h) ∧ t = .int .i64 k ∧ Hid (SdI w wx p (.slice ta n tc) T l)) (fun _ t _ => n - (intOf t).toNat)
        case atStart => exact ⟨0, Nat.zero_le _, rfl, rfl, hI.out⟩
        case round =>
          obtain ⟨k, hk, rfl, rfl, hJ⟩ := hrel
          by_cases hlt : k < n
          · obtain ⟨tg, htg, htc, y0, y1, y2⟩ := hJ.out.at_ HN.out hlt
            subst htg
            have hkl : k < l.length := by rw [← HN.out]; exact hlt
            have hmm := hJ.out.si.mem _ (getHd_mem hkl)
            have hF := tfind_any p (l.getD k hd0).h T wr hJ.out.tx hmm.2.2.2.1 hmm.2.2.2.2
            have hat := any_take hkl h
            generalize hgx : l.getD k hd0 = x at *
            rw [show fdP T x.h = T.at_ (plc x.h) by unfold fdP; rw [hmm.1]; rfl, hmm.1] at hF
            replace hF : Calls Try.prog 11 #[tbV p, .int .u32 x.h] wr (fun e w' => e = .returned (.tuple #[.agg #[.int .i64 x.c, .int .u8 x.r], .bool true]) ∧ Below wr.heap.size wr w') := by rw [← hmm.2.1, ← hmm.2.2.1]; exact hF
            clear hmm
            have HAT : Hid (((l.take (k + 1)).any fun x => x.h == h) = (((l.take k).any fun x => x.h == h) || (x.h == h))) := hat
            have yl := cell_lt y0
            clear hat hgx
            generalize ((l.take k).any fun x => x.h == h) = kn at *
            go_wp2_with fail
            refine hF.mono ?_
            rintro e w2 ⟨rfl, hb2⟩
            have hb3 := Below.onto hb2 (below_new w2 (.cells #[.int .i64 x.c, .int .u8 x.r] 30))
            have HJ3 : Hid (SdI w (w2.alloc (.cells #[.int .i64 x.c, .int .u8 x.r] 30)) p (.slice (some ⟨tg, 0, none⟩) n tc) T l) := hJ.out.grow hb3
            have u0 : (w2.alloc (.cells #[.int .i64 x.c, .int .u8 x.r] 30)).cell? ⟨tg, k * 3, none⟩ = some (.int .u32 x.h) := (hb3.cell (p := ⟨tg, k * 3, none⟩) (cell_lt y0)).trans y0
            have u1 := (hb3.cell (p := ⟨tg, k * 3 + 1, none⟩) (cell_lt y1)).trans y1
            have u2 := (hb3.cell (p := ⟨tg, k * 3 + 2, none⟩) (cell_lt y2)).trans y2
            have hX3 := cap_box w2 (.int .i64 x.c) (.int .u8 x.r)
            obtain ⟨b0, b1⟩ := hX3.two
            clear y0 y1 y2 yl hF hb2 hb3
            go_wp2_with fail
            generalize hw3 : w2.alloc (.cells #[.int .i64 x.c, .int .u8 x.r] 30) = w3 at *
            have r1 := cell_regrown u1
            have r2 := cell_regrown u2
            have r3 := cell_regrown b0
            have r4 := cell_regrown b1
            have l1 := cell_lt u1
            have l2 := cell_lt b0
            refine wp_region_quiet_below (by kernel_rfl) (by kernel_rfl) ?_
            repeat (go_big_quiet_step (fail))
            refine wpQuiet_nil ?_
            intro _ hw'
            obtain ⟨⟨dq, osq⟩, hw''⟩ := hw'
            subst hw''
            have hb := below_regrown w3 dq osq
            have HJ4 : Hid (SdI w (grow (redrawn w3 dq) osq) p (.slice (some ⟨tg, 0, none⟩) n tc) T l) := HJ3.out.grow hb
            have v0 : (grow (redrawn w3 dq) osq).cell? ⟨tg, k * 3, none⟩ = some (.int .u32 x.h) := (hb.cell (p := ⟨tg, k * 3, none⟩) (cell_lt u0)).trans u0
            have vl := cell_lt v0
            clear hb r1 r2 r3 r4 u0 u1 u2 b0 b1 hX3 l1 l2 hw3
            generalize grow (redrawn w3 dq) osq = w4 at *
            cases kn
            · have HA2 : Hid (((l.take (k + 1)).any fun x => x.h == h) = (x.h == h)) := by show _ = _; rw [HAT.out]; rfl
              clear HAT
              go_wp2_with fail
              exact ⟨⟨k + 1, by omega, by rw [HA2.out], by go_num, HJ4.out⟩, by simp [intOf]; omega⟩
            · have HA2 : Hid (((l.take (k + 1)).any fun x => x.h == h) = true) := by show _ = _; rw [HAT.out]; rfl
              clear HAT
              go_wp2_with fail
              exact ⟨⟨k + 1, by omega, by rw [HA2.out], by go_num, HJ4.out⟩, by simp [intOf]; omega⟩
          · obtain rfl : k = n := by omega
            have hF := tfind_any p h T wr hJ.out.tx h0 h1
            have hkn : tkh T h = (l.take k).any fun x => x.h == h := by rw [hJ.out.si.known h, List.take_of_length_le (by rw [← HN.out]; exact Nat.le_refl _)]
            rw [← hkn]
            have hV := fun W hW => tlive_any p T W hW
            have HLL : Hid ((lvTo T T.n).length = k) := by show _ = _; rw [hJ.out.si.len, HN.out]
            clear hkn
            generalize tkh T h = kn at *
            generalize fdP T h = fp at *
            go_wp2_with fail
            refine hF.mono ?_
            rintro e w2 ⟨rfl, hb2⟩
            have HJ3 : Hid (SdI w (w2.alloc (.cells #[.int .i64 fp.c, .int .u8 fp.r] 30)) p (.slice ta k tc) T l) := hJ.out.grow (Below.onto hb2 (below_new w2 _))
            clear hF hb2
            go_wp2_with fail
            generalize w2.alloc (.cells #[.int .i64 fp.c, .int .u8 fp.r] 30) = w3 at *
            refine (hV _ HJ3.out.tx).mono ?_
            rintro e w4 ⟨v4, rfl, hs4, hb4⟩
            obtain ⟨va, vc, rfl⟩ := vown_form hs4
            rw [HLL.out]
            have HB4 : Hid (Below w.heap.size w w4) := Below.onto HJ3.out.bel hb4
            clear hV hs4 hb4
            go_wp2_with fail
            refine (hA _).mono ?_
            rintro e w5 ⟨rfl, hb5⟩
            go_wp2_with fail
            go_ret
            exact ⟨rfl, Below.onto HB4.out hb5⟩
      · have hf3 : sl ≤ i := by omega
        go_wp2_with fail
        go_loopw [12, 13] (fun kn t wx => ∃ k : Nat, k ≤ n ∧ kn = .bool ((l.take k).any fun x => x.h == h) ∧ t = .int .i64 k ∧ Hid (SdI w wx p (.slice ta n tc) T l)) (fun _ t _ => n - (intOf t).toNat)
        case atStart => exact ⟨0, Nat.zero_le _, rfl, rfl, hI.out⟩
        case round =>
          obtain ⟨k, hk, rfl, rfl, hJ⟩ := hrel
          by_cases hlt : k < n
          · obtain ⟨tg, htg, htc, y0, y1, y2⟩ := hJ.out.at_ HN.out hlt
            subst htg
            have hkl : k < l.length := by rw [← HN.out]; exact hlt
            have hmm := hJ.out.si.mem _ (getHd_mem hkl)
            have hF := tfind_any p (l.getD k hd0).h T wr hJ.out.tx hmm.2.2.2.1 hmm.2.2.2.2
            have hat := any_take hkl h
            generalize hgx : l.getD k hd0 = x at *
            rw [show fdP T x.h = T.at_ (plc x.h) by unfold fdP; rw [hmm.1]; rfl, hmm.1] at hF
            replace hF : Calls Try.prog 11 #[tbV p, .int .u32 x.h] wr (fun e w' => e = .returned (.tuple #[.agg #[.int .i64 x.c, .int .u8 x.r], .bool true]) ∧ Below wr.heap.size wr w') := by rw [← hmm.2.1, ← hmm.2.2.1]; exact hF
            clear hmm
            have HAT : Hid (((l.take (k + 1)).any fun x => x.h == h) = (((l.take k).any fun x => x.h == h) || (x.h == h))) := hat
            have yl := cell_lt y0
            clear hat hgx
            generalize ((l.take k).any fun x => x.h == h) = kn at *
            go_wp2_with fail
            refine hF.mono ?_
            rintro e w2 ⟨rfl, hb2⟩
            have hb3 := Below.onto hb2 (below_new w2 (.cells #[.int .i64 x.c, .int .u8 x.r] 30))
            have HJ3 : Hid (SdI w (w2.alloc (.cells #[.int .i64 x.c, .int .u8 x.r] 30)) p (.slice (some ⟨tg, 0, none⟩) n tc) T l) := hJ.out.grow hb3
            have u0 : (w2.alloc (.cells #[.int .i64 x.c, .int .u8 x.r] 30)).cell? ⟨tg, k * 3, none⟩ = some (.int .u32 x.h) := (hb3.cell (p := ⟨tg, k * 3, none⟩) (cell_lt y0)).trans y0
            have u1 := (hb3.cell (p := ⟨tg, k * 3 + 1, none⟩) (cell_lt y1)).trans y1
            have u2 := (hb3.cell (p := ⟨tg, k * 3 + 2, none⟩) (cell_lt y2)).trans y2
            have hX3 := cap_box w2 (.int .i64 x.c) (.int .u8 x.r)
            obtain ⟨b0, b1⟩ := hX3.two
            clear y0 y1 y2 yl hF hb2 hb3
            go_wp2_with fail
            generalize hw3 : w2.alloc (.cells #[.int .i64 x.c, .int .u8 x.r] 30) = w3 at *
            have r1 := cell_regrown u1
            have r2 := cell_regrown u2
            have r3 := cell_regrown b0
            have r4 := cell_regrown b1
            have l1 := cell_lt u1
            have l2 := cell_lt b0
            refine wp_region_quiet_below (by kernel_rfl) (by kernel_rfl) ?_
            repeat (go_big_quiet_step (fail))
            refine wpQuiet_nil ?_
            intro _ hw'
            obtain ⟨⟨dq, osq⟩, hw''⟩ := hw'
            subst hw''
            have hb := below_regrown w3 dq osq
            have HJ4 : Hid (SdI w (grow (redrawn w3 dq) osq) p (.slice (some ⟨tg, 0, none⟩) n tc) T l) := HJ3.out.grow hb
            have v0 : (grow (redrawn w3 dq) osq).cell? ⟨tg, k * 3, none⟩ = some (.int .u32 x.h) := (hb.cell (p := ⟨tg, k * 3, none⟩) (cell_lt u0)).trans u0
            have vl := cell_lt v0
            clear hb r1 r2 r3 r4 u0 u1 u2 b0 b1 hX3 l1 l2 hw3
            generalize grow (redrawn w3 dq) osq = w4 at *
            cases kn
            · have HA2 : Hid (((l.take (k + 1)).any fun x => x.h == h) = (x.h == h)) := by show _ = _; rw [HAT.out]; rfl
              clear HAT
              go_wp2_with fail
              exact ⟨⟨k + 1, by omega, by rw [HA2.out], by go_num, HJ4.out⟩, by simp [intOf]; omega⟩
            · have HA2 : Hid (((l.take (k + 1)).any fun x => x.h == h) = true) := by show _ = _; rw [HAT.out]; rfl
              clear HAT
              go_wp2_with fail
              exact ⟨⟨k + 1, by omega, by rw [HA2.out], by go_num, HJ4.out⟩, by simp [intOf]; omega⟩
          · obtain rfl : k = n := by omega
            have hF := tfind_any p h T wr hJ.out.tx h0 h1
            have hkn : tkh T h = (l.take k).any fun x => x.h == h := by rw [hJ.out.si.known h, List.take_of_length_le (by rw [← HN.out]; exact Nat.le_refl _)]
            rw [← hkn]
            have hV := fun W hW => tlive_any p T W hW
            have HLL : Hid ((lvTo T T.n).length = k) := by show _ = _; rw [hJ.out.si.len, HN.out]
            clear hkn
            generalize tkh T h = kn at *
            generalize fdP T h = fp at *
            go_wp2_with fail
            refine hF.mono ?_
            rintro e w2 ⟨rfl, hb2⟩
            have HJ3 : Hid (SdI w (w2.alloc (.cells #[.int .i64 fp.c, .int .u8 fp.r] 30)) p (.slice ta k tc) T l) := hJ.out.grow (Below.onto hb2 (below_new w2 _))
            clear hF hb2
            go_wp2_with fail
            generalize w2.alloc (.cells #[.int .i64 fp.c, .int .u8 fp.r] 30) = w3 at *
            refine (hV _ HJ3.out.tx).mono ?_
            rintro e w4 ⟨v4, rfl, hs4, hb4⟩
            obtain ⟨va, vc, rfl⟩ := vown_form hs4
            rw [HLL.out]
            have HB4 : Hid (Below w.heap.size w w4) := Below.onto HJ3.out.bel hb4
            clear hV hs4 hb4
            go_wp2_with fail
            refine (hA _).mono ?_
            rintro e w5 ⟨rfl, hb5⟩
            go_wp2_with fail
            go_ret
            exact ⟨rfl, Below.onto HB4.out hb5⟩
end Go.Proofs.Ytimmjhegeagofac
