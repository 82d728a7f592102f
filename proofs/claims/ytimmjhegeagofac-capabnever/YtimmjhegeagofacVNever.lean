/- CapabNever: a dead handle stays dead. -/
import Derived.Test.YtimmjhegeagofacVRow
namespace Go.Proofs.Ytimmjhegeagofac
open Go.RowKit Go.Sort
set_option maxRecDepth 100000

theorem getD_mem {l : List Int} {k : Nat} (h : k < l.length) : l.getD k 0 ∈ l := by
  rw [List.getD_eq_getElem?_getD, List.getElem?_eq_getElem h]
  exact List.getElem_mem h
set_option maxHeartbeats 16000000 in
theorem never_bad (pl : Int) (sv : Value) (w : World) (hpl : pl < 0 ∨ 32 < pl) : Calls Try.prog 3 #[.int .i64 pl, sv] w fun e w' => e = .returned (.bool true) ∧ Below w.heap.size w w' := by
  have hN := tnew_bad pl w hpl
  have hA := valive_any w
  by_cases h : pl < 0
  all_goals
    have h2 : pl < 0 ∨ 32 < pl := hpl
    have h3 : ¬ pl < 0 → 32 < pl := by omega
    clear hpl
    go_enter Try.func3, Try.ntmps3
    go_wp2_with fail
    refine hN.mono ?_
    rintro e w1 ⟨rfl, hw1⟩
    subst hw1
    try have h4 := h3 h
    go_wp2_with fail
    refine hA.mono ?_
    rintro e w2 ⟨rfl, hb2⟩
    go_wp2_with fail
    go_ret
    exact ⟨rfl, hb2⟩
set_option maxHeartbeats 16000000 in
theorem never_any (n : Nat) (sa : Option Addr) (sl sc : Nat) (g : Nat → VOp) (w : World) (hn : n ≤ 32) (hs : Rd w sa sl 5 (fun j => encV (g j))) (hg : ∀ j, j < sl → (g j).Ok) :
    Calls Try.prog 3 #[.int .i64 (n : Int), .slice sa sl sc] w fun e w' => e = .returned (.bool true) ∧ Below w.heap.size w w' := by
  have hNw := tnew_any n w hn
  have hA := fun W => valive_any W
  have HS : Hid (Rd w sa sl 5 (fun j => encV (g j))) := hs
  have HG : Hid (∀ j, j < sl → (g j).Ok) := hg
  clear hs hg
  go_enter Try.func3, Try.ntmps3
  go_wp2_with fail
  refine hNw.mono ?_
  rintro e w1 ⟨rfl, hx1, hb1⟩
  have HN1 : Hid (NvI w w1 w.heap.size (.slice none 0 0) (.slice none 0 0) (newTb n) [] []) := ⟨hx1, hs_nil _ _, hs_nil _ _, fun b e => (by cases e), fun e => (by cases e), fun e => (by cases e), fun h hh => (by simp at hh), fun h hh => (by simp at hh), hb1, Nat.le_refl _⟩
  clear hNw hx1 hb1
  go_wp2_with fail
  obtain ⟨p, hp⟩ : ∃ p, p = w.heap.size := ⟨_, rfl⟩
  rw [← hp]
  have HN2 : Hid (NvI w w1 p (.slice none 0 0) (.slice none 0 0) (newTb n) [] []) := by rw [hp]; exact HN1.out
  clear HN1 hp
  go_loopw [7, 8, 9] (fun vt vd t wr => ∃ (ut ud : Value) (i : Nat) (T : Tb) (tl dl : List Int), ut = vt ∧ ud = vd ∧ i ≤ sl ∧ t = .int .i64 i ∧ tl.length ≤ i ∧ dl.length ≤ i ∧ Hid (NvI w wr p ut ud T tl dl)) (fun _ _ t _ => sl - (intOf t).toNat)
  case atStart => exact ⟨_, _, 0, _, [], [], rfl, rfl, Nat.zero_le _, rfl, Nat.le_refl _, Nat.le_refl _, HN2.out⟩
  case round =>
    obtain ⟨vt, vd, i, T, tl, dl, e7, e8, hi, rfl, hlt, hld, hN⟩ := hrel
    subst e7 e8
    obtain ⟨ta, tc, rfl⟩ := vown_form hN.out.ot
    obtain ⟨nt, hnt⟩ : ∃ nt, nt = tl.length := ⟨_, rfl⟩
    rw [← hnt] at hN ⊢
    have HNT : Hid (nt = tl.length) := hnt
    have hnt2 : nt ≤ i := by omega
    have HLT : Hid (tl.length ≤ i) := hlt
    have HLD : Hid (dl.length ≤ i) := hld
    clear hnt hlt hld
    by_cases hfin : i < sl ∧ i < 80
    · obtain ⟨hf1, hf2⟩ := hfin
      obtain ⟨b, off, hsa, q0, q1, q2, q3, q4⟩ := (HS.out.below hN.out.bel).five hf1
      subst hsa
      obtain ⟨g0, g1, g2, g3⟩ := HG.out i hf1
      obtain ⟨o, ho⟩ : ∃ o, o = g i := ⟨_, rfl⟩
      rw [← ho] at q0 q1 q2 q3 q4 g0 g1 g2 g3
      clear ho
      have qb := cell_lt q0
      have HNb : Hid (NvI w (wr.alloc (.cells #[.int .i64 o.k, .int .i64 o.c, .int .u8 o.r, .int .u32 o.h, .int .i64 o.j] 33)) p (.slice ta nt tc) vd T tl dl) := hN.out.grow (below_new _ _)
      have HXb : Hid (Bx (wr.alloc (.cells #[.int .i64 o.k, .int .i64 o.c, .int .u8 o.r, .int .u32 o.h, .int .i64 o.j] 33)) wr.heap.size [.int .i64 o.k, .int .i64 o.c, .int .u8 o.r, .int .u32 o.h, .int .i64 o.j]) := bx_new wr [.int .i64 o.k, .int .i64 o.c, .int .u8 o.r, .int .u32 o.h, .int .i64 o.j] _
      by_cases hk1 : o.k = 1
      · have hM := fun W hW => tmint_any p o.c o.r T W hW g0 g1
        obtain ⟨z0, z1, z2, z3, z4⟩ := HXb.out.five
        have zl := HXb.out.lt
        have HK : Hid (o.k = 1) := hk1
        rw [hk1] at q0
        rw [hk1] at z0 z1 z2 z3 z4 zl
        rw [hk1] at HNb
        clear HXb hk1 HK
        go_wp2_with fail
        generalize wr.alloc (.cells #[.int .i64 1, .int .i64 o.c, .int .u8 o.r, .int .u32 o.h, .int .i64 o.j] 33) = w2 at *
        refine (hM _ HNb.out.tx).mono ?_
        rintro e w3 ⟨rfl, hx3, hb3⟩
        have HN3 : Hid (NvI w w3 p (.slice ta nt tc) vd (mtT T o.c o.r) tl dl) := HNb.out.act hx3 hb3 (fun k _ h => h.mint _ _) (fun k _ h => h.mint _ _)
        have HNT3 : Hid (∀ h ∈ tl, Tld T h) := fun h hh => (hN.out.told h hh).1
        have HMN : Hid (mtE T o.r = 0 → Tld (mtT T o.c o.r) (mtI T o.r) ∧ ∀ h, Tld T h → h ≠ mtI T o.r) := fun he => mint_new hN.out.tx.ok g0 g1 he
        have HMR : Hid (0 ≤ mtI T o.r ∧ mtI T o.r < 4294967296) := mtI_rng hN.out.tx.ok g0 g1
        clear hM hx3 hb3 q0 q1 q2 q3 q4 qb z0 z1 z2 z3 z4 zl g0 g1 g2 g3 hN HNb
        generalize mtI T o.r = x at *
        generalize mtT T o.c o.r = T' at *
        by_cases hE : mtE T o.r = 0
        · have HM2 := HMN.out hE
          have HM3 : Hid (Tld T' x ∧ ∀ h, Tld T h → h ≠ x) := HM2
          rw [hE]
          clear HMN HM2 hE
          go_wp2_with fail
          go_loopw [13] (fun t wr2 => ∃ k : Nat, k ≤ nt ∧ t = .int .i64 k ∧ Hid (NvI w wr2 p (.slice ta nt tc) vd T' tl dl)) (fun t _ => nt - (intOf t).toNat)
          case atStart => exact ⟨0, Nat.zero_le _, rfl, HN3.out⟩
          case round =>
            obtain ⟨k, hk, rfl, hN3⟩ := hrel
            have HN3 := hN3
            clear hN3
            by_cases hkl : k < nt
            · obtain ⟨tg, htg, htc, y0⟩ := HN3.out.ot.at_ HNT.out hkl
              subst htg
              have hmem : tl.getD k 0 ∈ tl := getD_mem (by rw [← HNT.out]; exact hkl)
              have hne := HM3.out.2 _ (HNT3.out _ hmem)
              have yl := cell_lt y0
              clear hmem
              generalize tl.getD k 0 = y at *
              have hne2 : (y == x) = false := by simpa using hne
              go_wp2_with fail
              exact ⟨⟨k + 1, by omega, by go_num, HN3.out⟩, by simp [intOf]; omega⟩
            · obtain rfl : k = nt := by omega
              obtain ⟨a9, c9, w9, hrun, ho9, hb9, hl9⟩ := hs_app x HN3.out.ot (by have := HLT.out; omega) HN3.out.bel.size
              rw [← HNT.out] at hrun ho9 hl9
              have HN9 : Hid (NvI w w9 p (.slice a9 (k + 1) c9) vd T' (tl ++ [x]) dl) := HN3.out.tell ho9 hb9 hl9 ⟨HM3.out.1, HMR.out⟩
              have HLT9 : Hid ((tl ++ [x]).length ≤ i + 1 ∧ k + 1 = (tl ++ [x]).length) := ⟨by simp; exact HLT.out, by simp; exact HNT.out⟩
              clear ho9 hb9 hl9 HMR HM3 HNT3
              go_wp2_with (at_builtin; refine wpList_append_run rfl (.tmp 77) (.tmp 79) 28 rfl _ _ _ rfl rfl hrun ?_)
              clear hrun
              obtain ⟨ta, hta⟩ : ∃ ta, ta = a9 := ⟨_, rfl⟩
              obtain ⟨tc, htc⟩ : ∃ tc, tc = c9 := ⟨_, rfl⟩
              obtain ⟨nt, hnt⟩ : ∃ nt, nt = k + 1 := ⟨_, rfl⟩
              rw [← hta, ← htc, ← hnt] at HN9 ⊢
              have HN : Hid (NvI w w9 p (.slice ta nt tc) vd T' (tl ++ [x]) dl) := HN9.out
              clear hta htc hnt HN9
              obtain ⟨da, dc, rfl⟩ := vown_form HN.out.od
              obtain ⟨nd, hnd⟩ : ∃ nd, nd = (dl).length := ⟨_, rfl⟩
              have HND : Hid (nd = (dl).length ∧ nd ≤ 80) := ⟨hnd, by rw [hnd]; exact (by have := HLD.out; omega)⟩
              have hnd8 : nd ≤ 80 := HND.out.2
              rw [← hnd] at HN ⊢
              clear hnd
              go_wp2_with fail
              go_loopw [15] (fun t wr => ∃ k : Nat, k ≤ nd ∧ t = .int .i64 k ∧ Hid (NvI w wr p (.slice ta nt tc) (.slice da nd dc) (T') (tl ++ [x]) (dl))) (fun t _ => nd - (intOf t).toNat)
              case atStart => exact ⟨0, Nat.zero_le _, rfl, HN.out⟩
              case round =>
                obtain ⟨k, hk, rfl, hN⟩ := hrel
                by_cases hlt : k < nd
                · obtain ⟨dg, hdg, hdc, q0⟩ := hN.out.od.at_ HND.out.1 hlt
                  subst hdg
                  have hmem := hN.out.dead ((dl).getD k 0) (getD_mem (by rw [← HND.out.1]; exact hlt))
                  have htk := hmem.1.not hN.out.tx.ok
                  have hF := tfind_any p ((dl).getD k 0) (T') wr hN.out.tx hmem.2.1 hmem.2.2
                  have hD := fun W hW => tdrop_any p ((dl).getD k 0) (T') W hW hmem.2.1 hmem.2.2
                  rw [show dpE (T') ((dl).getD k 0) = 111 by unfold dpE; rw [htk]; rfl, show dpT (T') ((dl).getD k 0) = (T') by unfold dpT; rw [htk]; rfl] at hD
                  rw [show fdP (T') ((dl).getD k 0) = pc0 by unfold fdP; rw [htk]; rfl, htk] at hF
                  replace hF : Calls Try.prog 11 #[tbV p, .int .u32 ((dl).getD k 0)] wr (fun e w' => e = .returned (.tuple #[.agg #[.int .i64 0, .int .u8 0], .bool false]) ∧ Below wr.heap.size wr w') := hF
                  clear hmem htk
                  generalize (dl).getD k 0 = xd at *
                  have HQ0 : Hid (wr.cell? ⟨dg, k, none⟩ = some (.int .u32 xd)) := q0
                  go_wp2_with fail
                  refine hF.mono ?_
                  rintro e w2 ⟨rfl, hb2⟩
                  have hN3 := (hN.out.grow hb2).grow (below_new w2 (.cells #[.int .i64 0, .int .u8 0] 30))
                  have q2 : (w2.alloc (.cells #[.int .i64 0, .int .u8 0] 30)).cell? ⟨dg, k, none⟩ = some (.int .u32 xd) := (Below.onto hb2 (below_new w2 _)).cell (p := ⟨dg, k, none⟩) (cell_lt q0) |>.trans q0
                  have ql := cell_lt q2
                  have HN3 : Hid (NvI w (w2.alloc (.cells #[.int .i64 0, .int .u8 0] 30)) p (.slice ta nt tc) (.slice (some ⟨dg, 0, none⟩) nd dc) (T') (tl ++ [x]) (dl)) := hN3
                  clear hF hb2 hN3 q0
                  go_wp2_with fail
                  refine (hD _ HN3.out.tx).mono ?_
                  rintro e w4 ⟨rfl, hx4, hb4⟩
                  have HN4 : Hid (NvI w w4 p (.slice ta nt tc) (.slice (some ⟨dg, 0, none⟩) nd dc) (T') (tl ++ [x]) (dl)) := HN3.out.act hx4 hb4 (fun _ _ h => h) (fun _ _ h => h)
                  clear hD hx4 hb4 q2 ql
                  go_wp2_with fail
                  exact ⟨⟨k + 1, by omega, by go_num, HN4.out⟩, by simp [intOf]; omega⟩
                · obtain rfl : k = nd := by omega
                  go_wp2_with fail
                  exact ⟨⟨_, _, i + 1, (T'), (tl ++ [x]), (dl), rfl, rfl, by omega, by go_num, by have := HLT9.out.1; have := (by have := HLD.out; omega); omega, by have := HLT9.out.1; have := (by have := HLD.out; omega); omega, hN.out⟩, by simp [intOf]; omega⟩
        · have hE2 : (mtE T o.r == 0) = false := by simpa using hE
          have hE3 : (mtE T o.r != 0) = true := by simpa using hE
          generalize mtE T o.r = ee at *
          go_wp2_with fail
          exact ⟨⟨_, _, i + 1, T', tl, dl, rfl, rfl, by omega, by go_num, by have := HLT.out; omega, by have := HLD.out; omega, HN3.out⟩, by simp [intOf]; omega⟩
      · by_cases hk2 : o.k = 2
        · obtain ⟨z0, z1, z2, z3, z4⟩ := HXb.out.five
          have zl := HXb.out.lt
          have HODV : Hid (Hs wr w.heap.size vd dl) := hN.out.od
          rw [hk2] at q0
          rw [hk2] at z0 z1 z2 z3 z4 zl
          rw [hk2] at HNb
          clear HXb hk2
          have hD := fun W hW => tdrop_any p (o.h) T W hW (And.intro g2 g3).1 (And.intro g2 g3).2
          have HR : Hid (0 ≤ (o.h) ∧ (o.h) < 4294967296) := (And.intro g2 g3)
          generalize (o.h) = x at *
          cases htk : tkh T x
          · rw [show dpE T x = 111 by unfold dpE; rw [htk]; rfl, show dpT T x = T by unfold dpT; rw [htk]; rfl] at hD
            clear htk
            go_wp2_with fail
            generalize wr.alloc (.cells #[.int .i64 2, .int .i64 o.c, .int .u8 o.r, .int .u32 o.h, .int .i64 o.j] 33) = w2 at *
            refine (hD _ HNb.out.tx).mono ?_
            rintro e w3 ⟨rfl, hx3, hb3⟩
            have HN : Hid (NvI w w3 p (.slice ta nt tc) vd T tl dl) := HNb.out.act hx3 hb3 (fun _ _ h => h) (fun _ _ h => h)
            clear hD hx3 hb3 z0 z1 z2 z3 z4 zl q0 q1 q2 q3 q4 qb hN HNb g0 g1 g2 g3 hk1
            obtain ⟨da, dc, rfl⟩ := vown_form HN.out.od
            obtain ⟨nd, hnd⟩ : ∃ nd, nd = (dl).length := ⟨_, rfl⟩
            have HND : Hid (nd = (dl).length ∧ nd ≤ 80) := ⟨hnd, by rw [hnd]; exact (by have := HLD.out; omega)⟩
            have hnd8 : nd ≤ 80 := HND.out.2
            rw [← hnd] at HN ⊢
            clear hnd
            go_wp2_with fail
            go_loopw [15] (fun t wr => ∃ k : Nat, k ≤ nd ∧ t = .int .i64 k ∧ Hid (NvI w wr p (.slice ta nt tc) (.slice da nd dc) (T) (tl) (dl))) (fun t _ => nd - (intOf t).toNat)
            case atStart => exact ⟨0, Nat.zero_le _, rfl, HN.out⟩
            case round =>
              obtain ⟨k, hk, rfl, hN⟩ := hrel
              by_cases hlt : k < nd
              · obtain ⟨dg, hdg, hdc, q0⟩ := hN.out.od.at_ HND.out.1 hlt
                subst hdg
                have hmem := hN.out.dead ((dl).getD k 0) (getD_mem (by rw [← HND.out.1]; exact hlt))
                have htk := hmem.1.not hN.out.tx.ok
                have hF := tfind_any p ((dl).getD k 0) (T) wr hN.out.tx hmem.2.1 hmem.2.2
                have hD := fun W hW => tdrop_any p ((dl).getD k 0) (T) W hW hmem.2.1 hmem.2.2
                rw [show dpE (T) ((dl).getD k 0) = 111 by unfold dpE; rw [htk]; rfl, show dpT (T) ((dl).getD k 0) = (T) by unfold dpT; rw [htk]; rfl] at hD
                rw [show fdP (T) ((dl).getD k 0) = pc0 by unfold fdP; rw [htk]; rfl, htk] at hF
                replace hF : Calls Try.prog 11 #[tbV p, .int .u32 ((dl).getD k 0)] wr (fun e w' => e = .returned (.tuple #[.agg #[.int .i64 0, .int .u8 0], .bool false]) ∧ Below wr.heap.size wr w') := hF
                clear hmem htk
                generalize (dl).getD k 0 = xd at *
                have HQ0 : Hid (wr.cell? ⟨dg, k, none⟩ = some (.int .u32 xd)) := q0
                go_wp2_with fail
                refine hF.mono ?_
                rintro e w2 ⟨rfl, hb2⟩
                have hN3 := (hN.out.grow hb2).grow (below_new w2 (.cells #[.int .i64 0, .int .u8 0] 30))
                have q2 : (w2.alloc (.cells #[.int .i64 0, .int .u8 0] 30)).cell? ⟨dg, k, none⟩ = some (.int .u32 xd) := (Below.onto hb2 (below_new w2 _)).cell (p := ⟨dg, k, none⟩) (cell_lt q0) |>.trans q0
                have ql := cell_lt q2
                have HN3 : Hid (NvI w (w2.alloc (.cells #[.int .i64 0, .int .u8 0] 30)) p (.slice ta nt tc) (.slice (some ⟨dg, 0, none⟩) nd dc) (T) (tl) (dl)) := hN3
                clear hF hb2 hN3 q0
                go_wp2_with fail
                refine (hD _ HN3.out.tx).mono ?_
                rintro e w4 ⟨rfl, hx4, hb4⟩
                have HN4 : Hid (NvI w w4 p (.slice ta nt tc) (.slice (some ⟨dg, 0, none⟩) nd dc) (T) (tl) (dl)) := HN3.out.act hx4 hb4 (fun _ _ h => h) (fun _ _ h => h)
                clear hD hx4 hb4 q2 ql
                go_wp2_with fail
                exact ⟨⟨k + 1, by omega, by go_num, HN4.out⟩, by simp [intOf]; omega⟩
              · obtain rfl : k = nd := by omega
                go_wp2_with fail
                exact ⟨⟨_, _, i + 1, (T), (tl), (dl), rfl, rfl, by omega, by go_num, by have := HLT.out; have := (by have := HLD.out; omega); omega, by have := HLT.out; have := (by have := HLD.out; omega); omega, hN.out⟩, by simp [intOf]; omega⟩
          · have he : dpE T x = 0 := by unfold dpE; rw [htk]; rfl
            have HX : Hid (Ded (dpT T x) x) := ded_drop hN.out.tx.ok he
            rw [he] at hD
            clear htk he
            go_wp2_with fail
            generalize wr.alloc (.cells #[.int .i64 2, .int .i64 o.c, .int .u8 o.r, .int .u32 o.h, .int .i64 o.j] 33) = w2 at *
            refine (hD _ HNb.out.tx).mono ?_
            rintro e w3 ⟨rfl, hx3, hb3⟩
            have HN3 : Hid (NvI w w3 p (.slice ta nt tc) vd (dpT T x) tl dl) := HNb.out.act hx3 hb3 (fun k _ h => h.drop _) (fun k _ h => h.drop _)
            obtain ⟨a9, c9, w9, hrun, ho9, hb9, hl9⟩ := hs_app x HN3.out.od (by have := HLD.out; omega) HN3.out.bel.size
            have HN : Hid (NvI w w9 p (.slice ta nt tc) (.slice a9 (dl.length + 1) c9) (dpT T x) tl (dl ++ [x])) := HN3.out.bury ho9 hb9 hl9 ⟨HX.out, HR.out⟩
            clear hD hx3 hb3 z0 z1 z2 z3 z4 zl q0 q1 q2 q3 q4 qb hN HNb g0 g1 g2 g3 HN3 ho9 hb9 hl9 HX hk1
            have HLD9 : Hid ((dl ++ [x]).length ≤ i + 1) := by show _ ≤ _; simp; exact HLD.out
            generalize dpT T x = T' at *
            obtain ⟨da0, dc0, hvd⟩ := vown_form HODV.out
            subst hvd
            go_wp2_with (at_builtin; refine wpList_append_run rfl (.tmp 110) (.tmp 112) 28 rfl _ _ _ rfl rfl hrun ?_)
            clear hrun HODV
            obtain ⟨nd, hnd⟩ : ∃ nd, nd = dl.length + 1 := ⟨_, rfl⟩
            have HND : Hid (nd = (dl ++ [x]).length ∧ nd ≤ 80) := ⟨by rw [hnd]; simp, by rw [hnd]; have := HLD.out; omega⟩
            have hnd8 : nd ≤ 80 := HND.out.2
            obtain ⟨da, hda⟩ : ∃ da, da = a9 := ⟨_, rfl⟩
            obtain ⟨dc, hdc⟩ : ∃ dc, dc = c9 := ⟨_, rfl⟩
            rw [← hnd, ← hda, ← hdc] at HN ⊢
            clear hnd hda hdc
            go_wp2_with fail
            go_loopw [15] (fun t wr => ∃ k : Nat, k ≤ nd ∧ t = .int .i64 k ∧ Hid (NvI w wr p (.slice ta nt tc) (.slice da nd dc) (T') (tl) (dl ++ [x]))) (fun t _ => nd - (intOf t).toNat)
            case atStart => exact ⟨0, Nat.zero_le _, rfl, HN.out⟩
            case round =>
              obtain ⟨k, hk, rfl, hN⟩ := hrel
              by_cases hlt : k < nd
              · obtain ⟨dg, hdg, hdc, q0⟩ := hN.out.od.at_ HND.out.1 hlt
                subst hdg
                have hmem := hN.out.dead ((dl ++ [x]).getD k 0) (getD_mem (by rw [← HND.out.1]; exact hlt))
                have htk := hmem.1.not hN.out.tx.ok
                have hF := tfind_any p ((dl ++ [x]).getD k 0) (T') wr hN.out.tx hmem.2.1 hmem.2.2
                have hD := fun W hW => tdrop_any p ((dl ++ [x]).getD k 0) (T') W hW hmem.2.1 hmem.2.2
                rw [show dpE (T') ((dl ++ [x]).getD k 0) = 111 by unfold dpE; rw [htk]; rfl, show dpT (T') ((dl ++ [x]).getD k 0) = (T') by unfold dpT; rw [htk]; rfl] at hD
                rw [show fdP (T') ((dl ++ [x]).getD k 0) = pc0 by unfold fdP; rw [htk]; rfl, htk] at hF
                replace hF : Calls Try.prog 11 #[tbV p, .int .u32 ((dl ++ [x]).getD k 0)] wr (fun e w' => e = .returned (.tuple #[.agg #[.int .i64 0, .int .u8 0], .bool false]) ∧ Below wr.heap.size wr w') := hF
                clear hmem htk
                generalize (dl ++ [x]).getD k 0 = xd at *
                have HQ0 : Hid (wr.cell? ⟨dg, k, none⟩ = some (.int .u32 xd)) := q0
                go_wp2_with fail
                refine hF.mono ?_
                rintro e w2 ⟨rfl, hb2⟩
                have hN3 := (hN.out.grow hb2).grow (below_new w2 (.cells #[.int .i64 0, .int .u8 0] 30))
                have q2 : (w2.alloc (.cells #[.int .i64 0, .int .u8 0] 30)).cell? ⟨dg, k, none⟩ = some (.int .u32 xd) := (Below.onto hb2 (below_new w2 _)).cell (p := ⟨dg, k, none⟩) (cell_lt q0) |>.trans q0
                have ql := cell_lt q2
                have HN3 : Hid (NvI w (w2.alloc (.cells #[.int .i64 0, .int .u8 0] 30)) p (.slice ta nt tc) (.slice (some ⟨dg, 0, none⟩) nd dc) (T') (tl) (dl ++ [x])) := hN3
                clear hF hb2 hN3 q0
                go_wp2_with fail
                refine (hD _ HN3.out.tx).mono ?_
                rintro e w4 ⟨rfl, hx4, hb4⟩
                have HN4 : Hid (NvI w w4 p (.slice ta nt tc) (.slice (some ⟨dg, 0, none⟩) nd dc) (T') (tl) (dl ++ [x])) := HN3.out.act hx4 hb4 (fun _ _ h => h) (fun _ _ h => h)
                clear hD hx4 hb4 q2 ql
                go_wp2_with fail
                exact ⟨⟨k + 1, by omega, by go_num, HN4.out⟩, by simp [intOf]; omega⟩
              · obtain rfl : k = nd := by omega
                go_wp2_with fail
                exact ⟨⟨_, _, i + 1, (T'), (tl), (dl ++ [x]), rfl, rfl, by omega, by go_num, by have := HLT.out; have := HLD9.out; omega, by have := HLT.out; have := HLD9.out; omega, hN.out⟩, by simp [intOf]; omega⟩
        · by_cases hk3 : o.k = 3
          · by_cases hj : 0 ≤ o.j
            · by_cases hjn : o.j < (nt : Int)
              · obtain ⟨jj, hjj⟩ := Int.eq_ofNat_of_zero_le hj
                have hjl : jj < nt := by omega
                obtain ⟨tg, htg, htc, y0⟩ := HNb.out.ot.at_ HNT.out hjl
                subst htg
                have hmm := hN.out.told (tl.getD jj 0) (getD_mem (by rw [← HNT.out]; exact hjl))
                have yl := cell_lt y0
                rw [hjj] at q4
                rw [hjj] at HNb HXb
                rw [hjj] at y0 yl
                obtain ⟨z0, z1, z2, z3, z4⟩ := HXb.out.five
                have zl := HXb.out.lt
                have HODV : Hid (Hs wr w.heap.size vd dl) := hN.out.od
                rw [hk3] at q0
                rw [hk3] at z0 z1 z2 z3 z4 zl y0 yl
                rw [hk3] at HNb
                clear HXb hk3
                have hD := fun W hW => tdrop_any p (tl.getD jj 0) T W hW hmm.2.1 hmm.2.2
                have HR : Hid (0 ≤ (tl.getD jj 0) ∧ (tl.getD jj 0) < 4294967296) := hmm.2
                have hmr := hmm.2
                clear hmm
                generalize (tl.getD jj 0) = x at *
                cases htk : tkh T x
                · rw [show dpE T x = 111 by unfold dpE; rw [htk]; rfl, show dpT T x = T by unfold dpT; rw [htk]; rfl] at hD
                  clear htk
                  go_wp2_with fail
                  generalize wr.alloc (.cells #[.int .i64 3, .int .i64 o.c, .int .u8 o.r, .int .u32 o.h, .int .i64 (jj : Int)] 33) = w2 at *
                  refine (hD _ HNb.out.tx).mono ?_
                  rintro e w3 ⟨rfl, hx3, hb3⟩
                  have HN : Hid (NvI w w3 p (.slice (some ⟨tg, 0, none⟩) nt tc) vd T tl dl) := HNb.out.act hx3 hb3 (fun _ _ h => h) (fun _ _ h => h)
                  clear hD hx3 hb3 z0 z1 z2 z3 z4 zl q0 q1 q2 q3 q4 qb hN HNb g0 g1 g2 g3 y0 yl
                  obtain ⟨da, dc, rfl⟩ := vown_form HN.out.od
                  obtain ⟨nd, hnd⟩ : ∃ nd, nd = (dl).length := ⟨_, rfl⟩
                  have HND : Hid (nd = (dl).length ∧ nd ≤ 80) := ⟨hnd, by rw [hnd]; exact (by have := HLD.out; omega)⟩
                  have hnd8 : nd ≤ 80 := HND.out.2
                  rw [← hnd] at HN ⊢
                  clear hnd
                  go_wp2_with fail
                  go_loopw [15] (fun t wr => ∃ k : Nat, k ≤ nd ∧ t = .int .i64 k ∧ Hid (NvI w wr p (.slice (some ⟨tg, 0, none⟩) nt tc) (.slice da nd dc) (T) (tl) (dl))) (fun t _ => nd - (intOf t).toNat)
                  case atStart => exact ⟨0, Nat.zero_le _, rfl, HN.out⟩
                  case round =>
                    obtain ⟨k, hk, rfl, hN⟩ := hrel
                    by_cases hlt : k < nd
                    · obtain ⟨dg, hdg, hdc, q0⟩ := hN.out.od.at_ HND.out.1 hlt
                      subst hdg
                      have hmem := hN.out.dead ((dl).getD k 0) (getD_mem (by rw [← HND.out.1]; exact hlt))
                      have htk := hmem.1.not hN.out.tx.ok
                      have hF := tfind_any p ((dl).getD k 0) (T) wr hN.out.tx hmem.2.1 hmem.2.2
                      have hD := fun W hW => tdrop_any p ((dl).getD k 0) (T) W hW hmem.2.1 hmem.2.2
                      rw [show dpE (T) ((dl).getD k 0) = 111 by unfold dpE; rw [htk]; rfl, show dpT (T) ((dl).getD k 0) = (T) by unfold dpT; rw [htk]; rfl] at hD
                      rw [show fdP (T) ((dl).getD k 0) = pc0 by unfold fdP; rw [htk]; rfl, htk] at hF
                      replace hF : Calls Try.prog 11 #[tbV p, .int .u32 ((dl).getD k 0)] wr (fun e w' => e = .returned (.tuple #[.agg #[.int .i64 0, .int .u8 0], .bool false]) ∧ Below wr.heap.size wr w') := hF
                      clear hmem htk
                      generalize (dl).getD k 0 = xd at *
                      have HQ0 : Hid (wr.cell? ⟨dg, k, none⟩ = some (.int .u32 xd)) := q0
                      go_wp2_with fail
                      refine hF.mono ?_
                      rintro e w2 ⟨rfl, hb2⟩
                      have hN3 := (hN.out.grow hb2).grow (below_new w2 (.cells #[.int .i64 0, .int .u8 0] 30))
                      have q2 : (w2.alloc (.cells #[.int .i64 0, .int .u8 0] 30)).cell? ⟨dg, k, none⟩ = some (.int .u32 xd) := (Below.onto hb2 (below_new w2 _)).cell (p := ⟨dg, k, none⟩) (cell_lt q0) |>.trans q0
                      have ql := cell_lt q2
                      have HN3 : Hid (NvI w (w2.alloc (.cells #[.int .i64 0, .int .u8 0] 30)) p (.slice (some ⟨tg, 0, none⟩) nt tc) (.slice (some ⟨dg, 0, none⟩) nd dc) (T) (tl) (dl)) := hN3
                      clear hF hb2 hN3 q0
                      go_wp2_with fail
                      refine (hD _ HN3.out.tx).mono ?_
                      rintro e w4 ⟨rfl, hx4, hb4⟩
                      have HN4 : Hid (NvI w w4 p (.slice (some ⟨tg, 0, none⟩) nt tc) (.slice (some ⟨dg, 0, none⟩) nd dc) (T) (tl) (dl)) := HN3.out.act hx4 hb4 (fun _ _ h => h) (fun _ _ h => h)
                      clear hD hx4 hb4 q2 ql
                      go_wp2_with fail
                      exact ⟨⟨k + 1, by omega, by go_num, HN4.out⟩, by simp [intOf]; omega⟩
                    · obtain rfl : k = nd := by omega
                      go_wp2_with fail
                      exact ⟨⟨_, _, i + 1, (T), (tl), (dl), rfl, rfl, by omega, by go_num, by have := HLT.out; have := (by have := HLD.out; omega); omega, by have := HLT.out; have := (by have := HLD.out; omega); omega, hN.out⟩, by simp [intOf]; omega⟩
                · have he : dpE T x = 0 := by unfold dpE; rw [htk]; rfl
                  have HX : Hid (Ded (dpT T x) x) := ded_drop hN.out.tx.ok he
                  rw [he] at hD
                  clear htk he
                  go_wp2_with fail
                  generalize wr.alloc (.cells #[.int .i64 3, .int .i64 o.c, .int .u8 o.r, .int .u32 o.h, .int .i64 (jj : Int)] 33) = w2 at *
                  refine (hD _ HNb.out.tx).mono ?_
                  rintro e w3 ⟨rfl, hx3, hb3⟩
                  have HN3 : Hid (NvI w w3 p (.slice (some ⟨tg, 0, none⟩) nt tc) vd (dpT T x) tl dl) := HNb.out.act hx3 hb3 (fun k _ h => h.drop _) (fun k _ h => h.drop _)
                  obtain ⟨a9, c9, w9, hrun, ho9, hb9, hl9⟩ := hs_app x HN3.out.od (by have := HLD.out; omega) HN3.out.bel.size
                  have HN : Hid (NvI w w9 p (.slice (some ⟨tg, 0, none⟩) nt tc) (.slice a9 (dl.length + 1) c9) (dpT T x) tl (dl ++ [x])) := HN3.out.bury ho9 hb9 hl9 ⟨HX.out, HR.out⟩
                  clear hD hx3 hb3 z0 z1 z2 z3 z4 zl q0 q1 q2 q3 q4 qb hN HNb g0 g1 g2 g3 HN3 ho9 hb9 hl9 HX y0 yl
                  have HLD9 : Hid ((dl ++ [x]).length ≤ i + 1) := by show _ ≤ _; simp; exact HLD.out
                  generalize dpT T x = T' at *
                  obtain ⟨da0, dc0, hvd⟩ := vown_form HODV.out
                  subst hvd
                  go_wp2_with (at_builtin; refine wpList_append_run rfl (.tmp 110) (.tmp 112) 28 rfl _ _ _ rfl rfl hrun ?_)
                  clear hrun HODV
                  obtain ⟨nd, hnd⟩ : ∃ nd, nd = dl.length + 1 := ⟨_, rfl⟩
                  have HND : Hid (nd = (dl ++ [x]).length ∧ nd ≤ 80) := ⟨by rw [hnd]; simp, by rw [hnd]; have := HLD.out; omega⟩
                  have hnd8 : nd ≤ 80 := HND.out.2
                  obtain ⟨da, hda⟩ : ∃ da, da = a9 := ⟨_, rfl⟩
                  obtain ⟨dc, hdc⟩ : ∃ dc, dc = c9 := ⟨_, rfl⟩
                  rw [← hnd, ← hda, ← hdc] at HN ⊢
                  clear hnd hda hdc
                  go_wp2_with fail
                  go_loopw [15] (fun t wr => ∃ k : Nat, k ≤ nd ∧ t = .int .i64 k ∧ Hid (NvI w wr p (.slice (some ⟨tg, 0, none⟩) nt tc) (.slice da nd dc) (T') (tl) (dl ++ [x]))) (fun t _ => nd - (intOf t).toNat)
                  case atStart => exact ⟨0, Nat.zero_le _, rfl, HN.out⟩
                  case round =>
                    obtain ⟨k, hk, rfl, hN⟩ := hrel
                    by_cases hlt : k < nd
                    · obtain ⟨dg, hdg, hdc, q0⟩ := hN.out.od.at_ HND.out.1 hlt
                      subst hdg
                      have hmem := hN.out.dead ((dl ++ [x]).getD k 0) (getD_mem (by rw [← HND.out.1]; exact hlt))
                      have htk := hmem.1.not hN.out.tx.ok
                      have hF := tfind_any p ((dl ++ [x]).getD k 0) (T') wr hN.out.tx hmem.2.1 hmem.2.2
                      have hD := fun W hW => tdrop_any p ((dl ++ [x]).getD k 0) (T') W hW hmem.2.1 hmem.2.2
                      rw [show dpE (T') ((dl ++ [x]).getD k 0) = 111 by unfold dpE; rw [htk]; rfl, show dpT (T') ((dl ++ [x]).getD k 0) = (T') by unfold dpT; rw [htk]; rfl] at hD
                      rw [show fdP (T') ((dl ++ [x]).getD k 0) = pc0 by unfold fdP; rw [htk]; rfl, htk] at hF
                      replace hF : Calls Try.prog 11 #[tbV p, .int .u32 ((dl ++ [x]).getD k 0)] wr (fun e w' => e = .returned (.tuple #[.agg #[.int .i64 0, .int .u8 0], .bool false]) ∧ Below wr.heap.size wr w') := hF
                      clear hmem htk
                      generalize (dl ++ [x]).getD k 0 = xd at *
                      have HQ0 : Hid (wr.cell? ⟨dg, k, none⟩ = some (.int .u32 xd)) := q0
                      go_wp2_with fail
                      refine hF.mono ?_
                      rintro e w2 ⟨rfl, hb2⟩
                      have hN3 := (hN.out.grow hb2).grow (below_new w2 (.cells #[.int .i64 0, .int .u8 0] 30))
                      have q2 : (w2.alloc (.cells #[.int .i64 0, .int .u8 0] 30)).cell? ⟨dg, k, none⟩ = some (.int .u32 xd) := (Below.onto hb2 (below_new w2 _)).cell (p := ⟨dg, k, none⟩) (cell_lt q0) |>.trans q0
                      have ql := cell_lt q2
                      have HN3 : Hid (NvI w (w2.alloc (.cells #[.int .i64 0, .int .u8 0] 30)) p (.slice (some ⟨tg, 0, none⟩) nt tc) (.slice (some ⟨dg, 0, none⟩) nd dc) (T') (tl) (dl ++ [x])) := hN3
                      clear hF hb2 hN3 q0
                      go_wp2_with fail
                      refine (hD _ HN3.out.tx).mono ?_
                      rintro e w4 ⟨rfl, hx4, hb4⟩
                      have HN4 : Hid (NvI w w4 p (.slice (some ⟨tg, 0, none⟩) nt tc) (.slice (some ⟨dg, 0, none⟩) nd dc) (T') (tl) (dl ++ [x])) := HN3.out.act hx4 hb4 (fun _ _ h => h) (fun _ _ h => h)
                      clear hD hx4 hb4 q2 ql
                      go_wp2_with fail
                      exact ⟨⟨k + 1, by omega, by go_num, HN4.out⟩, by simp [intOf]; omega⟩
                    · obtain rfl : k = nd := by omega
                      go_wp2_with fail
                      exact ⟨⟨_, _, i + 1, (T'), (tl), (dl ++ [x]), rfl, rfl, by omega, by go_num, by have := HLT.out; have := HLD9.out; omega, by have := HLT.out; have := HLD9.out; omega, hN.out⟩, by simp [intOf]; omega⟩
              · obtain ⟨z0, z1, z2, z3, z4⟩ := HXb.out.five
                have zl := HXb.out.lt
                have HODV : Hid (Hs wr w.heap.size vd dl) := hN.out.od
                rw [hk3] at q0
                rw [hk3] at z0 z1 z2 z3 z4 zl
                rw [hk3] at HNb
                clear HXb hk3
                have hD := fun W hW => tdrop_any p (o.h) T W hW (And.intro g2 g3).1 (And.intro g2 g3).2
                have HR : Hid (0 ≤ (o.h) ∧ (o.h) < 4294967296) := (And.intro g2 g3)
                generalize (o.h) = x at *
                cases htk : tkh T x
                · rw [show dpE T x = 111 by unfold dpE; rw [htk]; rfl, show dpT T x = T by unfold dpT; rw [htk]; rfl] at hD
                  clear htk
                  go_wp2_with fail
                  generalize wr.alloc (.cells #[.int .i64 3, .int .i64 o.c, .int .u8 o.r, .int .u32 o.h, .int .i64 o.j] 33) = w2 at *
                  refine (hD _ HNb.out.tx).mono ?_
                  rintro e w3 ⟨rfl, hx3, hb3⟩
                  have HN : Hid (NvI w w3 p (.slice ta nt tc) vd T tl dl) := HNb.out.act hx3 hb3 (fun _ _ h => h) (fun _ _ h => h)
                  clear hD hx3 hb3 z0 z1 z2 z3 z4 zl q0 q1 q2 q3 q4 qb hN HNb g0 g1 g2 g3
                  obtain ⟨da, dc, rfl⟩ := vown_form HN.out.od
                  obtain ⟨nd, hnd⟩ : ∃ nd, nd = (dl).length := ⟨_, rfl⟩
                  have HND : Hid (nd = (dl).length ∧ nd ≤ 80) := ⟨hnd, by rw [hnd]; exact (by have := HLD.out; omega)⟩
                  have hnd8 : nd ≤ 80 := HND.out.2
                  rw [← hnd] at HN ⊢
                  clear hnd
                  go_wp2_with fail
                  go_loopw [15] (fun t wr => ∃ k : Nat, k ≤ nd ∧ t = .int .i64 k ∧ Hid (NvI w wr p (.slice ta nt tc) (.slice da nd dc) (T) (tl) (dl))) (fun t _ => nd - (intOf t).toNat)
                  case atStart => exact ⟨0, Nat.zero_le _, rfl, HN.out⟩
                  case round =>
                    obtain ⟨k, hk, rfl, hN⟩ := hrel
                    by_cases hlt : k < nd
                    · obtain ⟨dg, hdg, hdc, q0⟩ := hN.out.od.at_ HND.out.1 hlt
                      subst hdg
                      have hmem := hN.out.dead ((dl).getD k 0) (getD_mem (by rw [← HND.out.1]; exact hlt))
                      have htk := hmem.1.not hN.out.tx.ok
                      have hF := tfind_any p ((dl).getD k 0) (T) wr hN.out.tx hmem.2.1 hmem.2.2
                      have hD := fun W hW => tdrop_any p ((dl).getD k 0) (T) W hW hmem.2.1 hmem.2.2
                      rw [show dpE (T) ((dl).getD k 0) = 111 by unfold dpE; rw [htk]; rfl, show dpT (T) ((dl).getD k 0) = (T) by unfold dpT; rw [htk]; rfl] at hD
                      rw [show fdP (T) ((dl).getD k 0) = pc0 by unfold fdP; rw [htk]; rfl, htk] at hF
                      replace hF : Calls Try.prog 11 #[tbV p, .int .u32 ((dl).getD k 0)] wr (fun e w' => e = .returned (.tuple #[.agg #[.int .i64 0, .int .u8 0], .bool false]) ∧ Below wr.heap.size wr w') := hF
                      clear hmem htk
                      generalize (dl).getD k 0 = xd at *
                      have HQ0 : Hid (wr.cell? ⟨dg, k, none⟩ = some (.int .u32 xd)) := q0
                      go_wp2_with fail
                      refine hF.mono ?_
                      rintro e w2 ⟨rfl, hb2⟩
                      have hN3 := (hN.out.grow hb2).grow (below_new w2 (.cells #[.int .i64 0, .int .u8 0] 30))
                      have q2 : (w2.alloc (.cells #[.int .i64 0, .int .u8 0] 30)).cell? ⟨dg, k, none⟩ = some (.int .u32 xd) := (Below.onto hb2 (below_new w2 _)).cell (p := ⟨dg, k, none⟩) (cell_lt q0) |>.trans q0
                      have ql := cell_lt q2
                      have HN3 : Hid (NvI w (w2.alloc (.cells #[.int .i64 0, .int .u8 0] 30)) p (.slice ta nt tc) (.slice (some ⟨dg, 0, none⟩) nd dc) (T) (tl) (dl)) := hN3
                      clear hF hb2 hN3 q0
                      go_wp2_with fail
                      refine (hD _ HN3.out.tx).mono ?_
                      rintro e w4 ⟨rfl, hx4, hb4⟩
                      have HN4 : Hid (NvI w w4 p (.slice ta nt tc) (.slice (some ⟨dg, 0, none⟩) nd dc) (T) (tl) (dl)) := HN3.out.act hx4 hb4 (fun _ _ h => h) (fun _ _ h => h)
                      clear hD hx4 hb4 q2 ql
                      go_wp2_with fail
                      exact ⟨⟨k + 1, by omega, by go_num, HN4.out⟩, by simp [intOf]; omega⟩
                    · obtain rfl : k = nd := by omega
                      go_wp2_with fail
                      exact ⟨⟨_, _, i + 1, (T), (tl), (dl), rfl, rfl, by omega, by go_num, by have := HLT.out; have := (by have := HLD.out; omega); omega, by have := HLT.out; have := (by have := HLD.out; omega); omega, hN.out⟩, by simp [intOf]; omega⟩
                · have he : dpE T x = 0 := by unfold dpE; rw [htk]; rfl
                  have HX : Hid (Ded (dpT T x) x) := ded_drop hN.out.tx.ok he
                  rw [he] at hD
                  clear htk he
                  go_wp2_with fail
                  generalize wr.alloc (.cells #[.int .i64 3, .int .i64 o.c, .int .u8 o.r, .int .u32 o.h, .int .i64 o.j] 33) = w2 at *
                  refine (hD _ HNb.out.tx).mono ?_
                  rintro e w3 ⟨rfl, hx3, hb3⟩
                  have HN3 : Hid (NvI w w3 p (.slice ta nt tc) vd (dpT T x) tl dl) := HNb.out.act hx3 hb3 (fun k _ h => h.drop _) (fun k _ h => h.drop _)
                  obtain ⟨a9, c9, w9, hrun, ho9, hb9, hl9⟩ := hs_app x HN3.out.od (by have := HLD.out; omega) HN3.out.bel.size
                  have HN : Hid (NvI w w9 p (.slice ta nt tc) (.slice a9 (dl.length + 1) c9) (dpT T x) tl (dl ++ [x])) := HN3.out.bury ho9 hb9 hl9 ⟨HX.out, HR.out⟩
                  clear hD hx3 hb3 z0 z1 z2 z3 z4 zl q0 q1 q2 q3 q4 qb hN HNb g0 g1 g2 g3 HN3 ho9 hb9 hl9 HX
                  have HLD9 : Hid ((dl ++ [x]).length ≤ i + 1) := by show _ ≤ _; simp; exact HLD.out
                  generalize dpT T x = T' at *
                  obtain ⟨da0, dc0, hvd⟩ := vown_form HODV.out
                  subst hvd
                  go_wp2_with (at_builtin; refine wpList_append_run rfl (.tmp 110) (.tmp 112) 28 rfl _ _ _ rfl rfl hrun ?_)
                  clear hrun HODV
                  obtain ⟨nd, hnd⟩ : ∃ nd, nd = dl.length + 1 := ⟨_, rfl⟩
                  have HND : Hid (nd = (dl ++ [x]).length ∧ nd ≤ 80) := ⟨by rw [hnd]; simp, by rw [hnd]; have := HLD.out; omega⟩
                  have hnd8 : nd ≤ 80 := HND.out.2
                  obtain ⟨da, hda⟩ : ∃ da, da = a9 := ⟨_, rfl⟩
                  obtain ⟨dc, hdc⟩ : ∃ dc, dc = c9 := ⟨_, rfl⟩
                  rw [← hnd, ← hda, ← hdc] at HN ⊢
                  clear hnd hda hdc
                  go_wp2_with fail
                  go_loopw [15] (fun t wr => ∃ k : Nat, k ≤ nd ∧ t = .int .i64 k ∧ Hid (NvI w wr p (.slice ta nt tc) (.slice da nd dc) (T') (tl) (dl ++ [x]))) (fun t _ => nd - (intOf t).toNat)
                  case atStart => exact ⟨0, Nat.zero_le _, rfl, HN.out⟩
                  case round =>
                    obtain ⟨k, hk, rfl, hN⟩ := hrel
                    by_cases hlt : k < nd
                    · obtain ⟨dg, hdg, hdc, q0⟩ := hN.out.od.at_ HND.out.1 hlt
                      subst hdg
                      have hmem := hN.out.dead ((dl ++ [x]).getD k 0) (getD_mem (by rw [← HND.out.1]; exact hlt))
                      have htk := hmem.1.not hN.out.tx.ok
                      have hF := tfind_any p ((dl ++ [x]).getD k 0) (T') wr hN.out.tx hmem.2.1 hmem.2.2
                      have hD := fun W hW => tdrop_any p ((dl ++ [x]).getD k 0) (T') W hW hmem.2.1 hmem.2.2
                      rw [show dpE (T') ((dl ++ [x]).getD k 0) = 111 by unfold dpE; rw [htk]; rfl, show dpT (T') ((dl ++ [x]).getD k 0) = (T') by unfold dpT; rw [htk]; rfl] at hD
                      rw [show fdP (T') ((dl ++ [x]).getD k 0) = pc0 by unfold fdP; rw [htk]; rfl, htk] at hF
                      replace hF : Calls Try.prog 11 #[tbV p, .int .u32 ((dl ++ [x]).getD k 0)] wr (fun e w' => e = .returned (.tuple #[.agg #[.int .i64 0, .int .u8 0], .bool false]) ∧ Below wr.heap.size wr w') := hF
                      clear hmem htk
                      generalize (dl ++ [x]).getD k 0 = xd at *
                      have HQ0 : Hid (wr.cell? ⟨dg, k, none⟩ = some (.int .u32 xd)) := q0
                      go_wp2_with fail
                      refine hF.mono ?_
                      rintro e w2 ⟨rfl, hb2⟩
                      have hN3 := (hN.out.grow hb2).grow (below_new w2 (.cells #[.int .i64 0, .int .u8 0] 30))
                      have q2 : (w2.alloc (.cells #[.int .i64 0, .int .u8 0] 30)).cell? ⟨dg, k, none⟩ = some (.int .u32 xd) := (Below.onto hb2 (below_new w2 _)).cell (p := ⟨dg, k, none⟩) (cell_lt q0) |>.trans q0
                      have ql := cell_lt q2
                      have HN3 : Hid (NvI w (w2.alloc (.cells #[.int .i64 0, .int .u8 0] 30)) p (.slice ta nt tc) (.slice (some ⟨dg, 0, none⟩) nd dc) (T') (tl) (dl ++ [x])) := hN3
                      clear hF hb2 hN3 q0
                      go_wp2_with fail
                      refine (hD _ HN3.out.tx).mono ?_
                      rintro e w4 ⟨rfl, hx4, hb4⟩
                      have HN4 : Hid (NvI w w4 p (.slice ta nt tc) (.slice (some ⟨dg, 0, none⟩) nd dc) (T') (tl) (dl ++ [x])) := HN3.out.act hx4 hb4 (fun _ _ h => h) (fun _ _ h => h)
                      clear hD hx4 hb4 q2 ql
                      go_wp2_with fail
                      exact ⟨⟨k + 1, by omega, by go_num, HN4.out⟩, by simp [intOf]; omega⟩
                    · obtain rfl : k = nd := by omega
                      go_wp2_with fail
                      exact ⟨⟨_, _, i + 1, (T'), (tl), (dl ++ [x]), rfl, rfl, by omega, by go_num, by have := HLT.out; have := HLD9.out; omega, by have := HLT.out; have := HLD9.out; omega, hN.out⟩, by simp [intOf]; omega⟩
            · have hj2 : o.j < 0 := by omega
              obtain ⟨z0, z1, z2, z3, z4⟩ := HXb.out.five
              have zl := HXb.out.lt
              have HODV : Hid (Hs wr w.heap.size vd dl) := hN.out.od
              rw [hk3] at q0
              rw [hk3] at z0 z1 z2 z3 z4 zl
              rw [hk3] at HNb
              clear HXb hk3
              have hD := fun W hW => tdrop_any p (o.h) T W hW (And.intro g2 g3).1 (And.intro g2 g3).2
              have HR : Hid (0 ≤ (o.h) ∧ (o.h) < 4294967296) := (And.intro g2 g3)
              generalize (o.h) = x at *
              cases htk : tkh T x
              · rw [show dpE T x = 111 by unfold dpE; rw [htk]; rfl, show dpT T x = T by unfold dpT; rw [htk]; rfl] at hD
                clear htk
                go_wp2_with fail
                generalize wr.alloc (.cells #[.int .i64 3, .int .i64 o.c, .int .u8 o.r, .int .u32 o.h, .int .i64 o.j] 33) = w2 at *
                refine (hD _ HNb.out.tx).mono ?_
                rintro e w3 ⟨rfl, hx3, hb3⟩
                have HN : Hid (NvI w w3 p (.slice ta nt tc) vd T tl dl) := HNb.out.act hx3 hb3 (fun _ _ h => h) (fun _ _ h => h)
                clear hD hx3 hb3 z0 z1 z2 z3 z4 zl q0 q1 q2 q3 q4 qb hN HNb g0 g1 g2 g3
                obtain ⟨da, dc, rfl⟩ := vown_form HN.out.od
                obtain ⟨nd, hnd⟩ : ∃ nd, nd = (dl).length := ⟨_, rfl⟩
                have HND : Hid (nd = (dl).length ∧ nd ≤ 80) := ⟨hnd, by rw [hnd]; exact (by have := HLD.out; omega)⟩
                have hnd8 : nd ≤ 80 := HND.out.2
                rw [← hnd] at HN ⊢
                clear hnd
                go_wp2_with fail
                go_loopw [15] (fun t wr => ∃ k : Nat, k ≤ nd ∧ t = .int .i64 k ∧ Hid (NvI w wr p (.slice ta nt tc) (.slice da nd dc) (T) (tl) (dl))) (fun t _ => nd - (intOf t).toNat)
                case atStart => exact ⟨0, Nat.zero_le _, rfl, HN.out⟩
                case round =>
                  obtain ⟨k, hk, rfl, hN⟩ := hrel
                  by_cases hlt : k < nd
                  · obtain ⟨dg, hdg, hdc, q0⟩ := hN.out.od.at_ HND.out.1 hlt
                    subst hdg
                    have hmem := hN.out.dead ((dl).getD k 0) (getD_mem (by rw [← HND.out.1]; exact hlt))
                    have htk := hmem.1.not hN.out.tx.ok
                    have hF := tfind_any p ((dl).getD k 0) (T) wr hN.out.tx hmem.2.1 hmem.2.2
                    have hD := fun W hW => tdrop_any p ((dl).getD k 0) (T) W hW hmem.2.1 hmem.2.2
                    rw [show dpE (T) ((dl).getD k 0) = 111 by unfold dpE; rw [htk]; rfl, show dpT (T) ((dl).getD k 0) = (T) by unfold dpT; rw [htk]; rfl] at hD
                    rw [show fdP (T) ((dl).getD k 0) = pc0 by unfold fdP; rw [htk]; rfl, htk] at hF
                    replace hF : Calls Try.prog 11 #[tbV p, .int .u32 ((dl).getD k 0)] wr (fun e w' => e = .returned (.tuple #[.agg #[.int .i64 0, .int .u8 0], .bool false]) ∧ Below wr.heap.size wr w') := hF
                    clear hmem htk
                    generalize (dl).getD k 0 = xd at *
                    have HQ0 : Hid (wr.cell? ⟨dg, k, none⟩ = some (.int .u32 xd)) := q0
                    go_wp2_with fail
                    refine hF.mono ?_
                    rintro e w2 ⟨rfl, hb2⟩
                    have hN3 := (hN.out.grow hb2).grow (below_new w2 (.cells #[.int .i64 0, .int .u8 0] 30))
                    have q2 : (w2.alloc (.cells #[.int .i64 0, .int .u8 0] 30)).cell? ⟨dg, k, none⟩ = some (.int .u32 xd) := (Below.onto hb2 (below_new w2 _)).cell (p := ⟨dg, k, none⟩) (cell_lt q0) |>.trans q0
                    have ql := cell_lt q2
                    have HN3 : Hid (NvI w (w2.alloc (.cells #[.int .i64 0, .int .u8 0] 30)) p (.slice ta nt tc) (.slice (some ⟨dg, 0, none⟩) nd dc) (T) (tl) (dl)) := hN3
                    clear hF hb2 hN3 q0
                    go_wp2_with fail
                    refine (hD _ HN3.out.tx).mono ?_
                    rintro e w4 ⟨rfl, hx4, hb4⟩
                    have HN4 : Hid (NvI w w4 p (.slice ta nt tc) (.slice (some ⟨dg, 0, none⟩) nd dc) (T) (tl) (dl)) := HN3.out.act hx4 hb4 (fun _ _ h => h) (fun _ _ h => h)
                    clear hD hx4 hb4 q2 ql
                    go_wp2_with fail
                    exact ⟨⟨k + 1, by omega, by go_num, HN4.out⟩, by simp [intOf]; omega⟩
                  · obtain rfl : k = nd := by omega
                    go_wp2_with fail
                    exact ⟨⟨_, _, i + 1, (T), (tl), (dl), rfl, rfl, by omega, by go_num, by have := HLT.out; have := (by have := HLD.out; omega); omega, by have := HLT.out; have := (by have := HLD.out; omega); omega, hN.out⟩, by simp [intOf]; omega⟩
              · have he : dpE T x = 0 := by unfold dpE; rw [htk]; rfl
                have HX : Hid (Ded (dpT T x) x) := ded_drop hN.out.tx.ok he
                rw [he] at hD
                clear htk he
                go_wp2_with fail
                generalize wr.alloc (.cells #[.int .i64 3, .int .i64 o.c, .int .u8 o.r, .int .u32 o.h, .int .i64 o.j] 33) = w2 at *
                refine (hD _ HNb.out.tx).mono ?_
                rintro e w3 ⟨rfl, hx3, hb3⟩
                have HN3 : Hid (NvI w w3 p (.slice ta nt tc) vd (dpT T x) tl dl) := HNb.out.act hx3 hb3 (fun k _ h => h.drop _) (fun k _ h => h.drop _)
                obtain ⟨a9, c9, w9, hrun, ho9, hb9, hl9⟩ := hs_app x HN3.out.od (by have := HLD.out; omega) HN3.out.bel.size
                have HN : Hid (NvI w w9 p (.slice ta nt tc) (.slice a9 (dl.length + 1) c9) (dpT T x) tl (dl ++ [x])) := HN3.out.bury ho9 hb9 hl9 ⟨HX.out, HR.out⟩
                clear hD hx3 hb3 z0 z1 z2 z3 z4 zl q0 q1 q2 q3 q4 qb hN HNb g0 g1 g2 g3 HN3 ho9 hb9 hl9 HX
                have HLD9 : Hid ((dl ++ [x]).length ≤ i + 1) := by show _ ≤ _; simp; exact HLD.out
                generalize dpT T x = T' at *
                obtain ⟨da0, dc0, hvd⟩ := vown_form HODV.out
                subst hvd
                go_wp2_with (at_builtin; refine wpList_append_run rfl (.tmp 110) (.tmp 112) 28 rfl _ _ _ rfl rfl hrun ?_)
                clear hrun HODV
                obtain ⟨nd, hnd⟩ : ∃ nd, nd = dl.length + 1 := ⟨_, rfl⟩
                have HND : Hid (nd = (dl ++ [x]).length ∧ nd ≤ 80) := ⟨by rw [hnd]; simp, by rw [hnd]; have := HLD.out; omega⟩
                have hnd8 : nd ≤ 80 := HND.out.2
                obtain ⟨da, hda⟩ : ∃ da, da = a9 := ⟨_, rfl⟩
                obtain ⟨dc, hdc⟩ : ∃ dc, dc = c9 := ⟨_, rfl⟩
                rw [← hnd, ← hda, ← hdc] at HN ⊢
                clear hnd hda hdc
                go_wp2_with fail
                go_loopw [15] (fun t wr => ∃ k : Nat, k ≤ nd ∧ t = .int .i64 k ∧ Hid (NvI w wr p (.slice ta nt tc) (.slice da nd dc) (T') (tl) (dl ++ [x]))) (fun t _ => nd - (intOf t).toNat)
                case atStart => exact ⟨0, Nat.zero_le _, rfl, HN.out⟩
                case round =>
                  obtain ⟨k, hk, rfl, hN⟩ := hrel
                  by_cases hlt : k < nd
                  · obtain ⟨dg, hdg, hdc, q0⟩ := hN.out.od.at_ HND.out.1 hlt
                    subst hdg
                    have hmem := hN.out.dead ((dl ++ [x]).getD k 0) (getD_mem (by rw [← HND.out.1]; exact hlt))
                    have htk := hmem.1.not hN.out.tx.ok
                    have hF := tfind_any p ((dl ++ [x]).getD k 0) (T') wr hN.out.tx hmem.2.1 hmem.2.2
                    have hD := fun W hW => tdrop_any p ((dl ++ [x]).getD k 0) (T') W hW hmem.2.1 hmem.2.2
                    rw [show dpE (T') ((dl ++ [x]).getD k 0) = 111 by unfold dpE; rw [htk]; rfl, show dpT (T') ((dl ++ [x]).getD k 0) = (T') by unfold dpT; rw [htk]; rfl] at hD
                    rw [show fdP (T') ((dl ++ [x]).getD k 0) = pc0 by unfold fdP; rw [htk]; rfl, htk] at hF
                    replace hF : Calls Try.prog 11 #[tbV p, .int .u32 ((dl ++ [x]).getD k 0)] wr (fun e w' => e = .returned (.tuple #[.agg #[.int .i64 0, .int .u8 0], .bool false]) ∧ Below wr.heap.size wr w') := hF
                    clear hmem htk
                    generalize (dl ++ [x]).getD k 0 = xd at *
                    have HQ0 : Hid (wr.cell? ⟨dg, k, none⟩ = some (.int .u32 xd)) := q0
                    go_wp2_with fail
                    refine hF.mono ?_
                    rintro e w2 ⟨rfl, hb2⟩
                    have hN3 := (hN.out.grow hb2).grow (below_new w2 (.cells #[.int .i64 0, .int .u8 0] 30))
                    have q2 : (w2.alloc (.cells #[.int .i64 0, .int .u8 0] 30)).cell? ⟨dg, k, none⟩ = some (.int .u32 xd) := (Below.onto hb2 (below_new w2 _)).cell (p := ⟨dg, k, none⟩) (cell_lt q0) |>.trans q0
                    have ql := cell_lt q2
                    have HN3 : Hid (NvI w (w2.alloc (.cells #[.int .i64 0, .int .u8 0] 30)) p (.slice ta nt tc) (.slice (some ⟨dg, 0, none⟩) nd dc) (T') (tl) (dl ++ [x])) := hN3
                    clear hF hb2 hN3 q0
                    go_wp2_with fail
                    refine (hD _ HN3.out.tx).mono ?_
                    rintro e w4 ⟨rfl, hx4, hb4⟩
                    have HN4 : Hid (NvI w w4 p (.slice ta nt tc) (.slice (some ⟨dg, 0, none⟩) nd dc) (T') (tl) (dl ++ [x])) := HN3.out.act hx4 hb4 (fun _ _ h => h) (fun _ _ h => h)
                    clear hD hx4 hb4 q2 ql
                    go_wp2_with fail
                    exact ⟨⟨k + 1, by omega, by go_num, HN4.out⟩, by simp [intOf]; omega⟩
                  · obtain rfl : k = nd := by omega
                    go_wp2_with fail
                    exact ⟨⟨_, _, i + 1, (T'), (tl), (dl ++ [x]), rfl, rfl, by omega, by go_num, by have := HLT.out; have := HLD9.out; omega, by have := HLT.out; have := HLD9.out; omega, hN.out⟩, by simp [intOf]; omega⟩
          · obtain ⟨z0, z1, z2, z3, z4⟩ := HXb.out.five
            have zl := HXb.out.lt
            have k1 : (o.k == 1) = false := by simpa using hk1
            have k2 : (o.k == 2) = false := by simpa using hk2
            have k3 : (o.k == 3) = false := by simpa using hk3
            clear HXb
            go_wp2_with fail
            exact ⟨⟨_, _, i + 1, T, tl, dl, rfl, rfl, by omega, by go_num, by have := HLT.out; omega, by have := HLD.out; omega, HNb.out⟩, by simp [intOf]; omega⟩
    · have hfin2 : ¬ (i < sl) ∨ ¬ (i < 80) := by omega
      have HB : Hid (Below w.heap.size w wr) := hN.out.bel
      clear hN
      by_cases h1 : i < sl
      · have h2 : ¬ i < 80 := by omega
        have h3 : 80 ≤ i := by omega
        go_wp2_with fail
        refine (hA _).mono ?_
        rintro e w5 ⟨rfl, hb5⟩
        go_wp2_with fail
        go_ret
        exact ⟨rfl, Below.onto HB.out hb5⟩
      · have h3 : sl ≤ i := by omega
        go_wp2_with fail
        refine (hA _).mono ?_
        rintro e w5 ⟨rfl, hb5⟩
        go_wp2_with fail
        go_ret
        exact ⟨rfl, Below.onto HB.out hb5⟩
end Go.Proofs.Ytimmjhegeagofac
