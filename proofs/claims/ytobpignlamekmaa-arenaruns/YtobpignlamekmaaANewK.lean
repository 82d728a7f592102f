/- arena.New at quotas that may be. -/
import Derived.Test.YtobpignlamekmaaANewM
namespace Go.Proofs.Ytobpignlamekmaa
open Go.RowKit Go.Sort
set_option maxRecDepth 100000

theorem nw_done {W W1 : World} {base p bp : Nat} {h : Sh} {l : Pl} (a : Nw W base p bp h h.P h.N) (ok : h.Ok) (hb : Below W.heap.size W W1) (hk : Kv W1 l h.N h.P fun _ => []) (hl : ∀ b, l.has b → W.heap.size ≤ b) :
    ∃ o : Po, o.p = p ∧ o.l = l ∧ W1.cell? ⟨p, 1, none⟩ = some (.slice o.sa h.N o.sc) ∧ Ax (W1.setCell ⟨p, 2, none⟩ l.ptr) o h (daN h 0) ∧ ∀ b, o.has b → base ≤ b := by
  obtain ⟨sa, sc, e1, e2⟩ := a.c1
  have hrow := a.row e2
  have hne := a.ne
  have hlp : p < W.heap.size := cell_lt e1
  have hlb : bp < W.heap.size := by obtain ⟨x, hx⟩ := a.kb; exact (Array.getElem?_eq_some_iff.1 hx).1
  have cp : ∀ i, W1.cell? ⟨p, i, none⟩ = W.cell? ⟨p, i, none⟩ := fun i => World.cell?_of_block (w := W) (a := ⟨p, i, none⟩) (hb.block p hlp)
  have cb : ∀ i, W1.cell? ⟨bp, i, none⟩ = W.cell? ⟨bp, i, none⟩ := fun i => World.cell?_of_block (w := W) (a := ⟨bp, i, none⟩) (hb.block bp hlb)
  /- the row of slots -/
  obtain ⟨bs, hbs, hlt, hge, s0, s1, sz⟩ : ∃ bs, (0 < h.N → sa = some ⟨bs, 0, none⟩) ∧ (∀ b, sa = some ⟨b, 0, none⟩ → b < W.heap.size ∧ b ≠ p ∧ b ≠ bp) ∧ (∀ b, sa = some ⟨b, 0, none⟩ → base ≤ b) ∧ (∀ n, n < h.N → W.cell? ⟨bs, n * 2, none⟩ = some (.int .i64 (h.pt n : Int))) ∧ (∀ n, n < h.N → W.cell? ⟨bs, n * 2 + 1, none⟩ = some (.int .u64 0)) ∧ (0 < h.N → ∀ i, W.frozen? ⟨bs, i, none⟩ = false) := by
    rcases e2.2 with ⟨e, e0⟩ | ⟨g, cap, cur, e, hbg, hg, hcap, hml, hsz, htk⟩
    · injection e with ea eb ec
      subst ea
      exact ⟨0, fun hn => by omega, fun b e => by (cases e), fun b e => by (cases e), fun n hn => by omega, fun n hn => by omega, fun hn => by omega⟩
    · injection e with ea eb ec
      subst ea
      have hc : ∀ j, j < h.N * 2 → W.cell? ⟨g, j, none⟩ = (encS h h.N)[j]? := fun j hj => by
        rw [cell_of_row _ _ j _ _ (0, 0) hg, ← htk, List.getElem?_take_of_lt hj]
        simp
      refine ⟨g, fun _ => rfl, fun b e => ?_, fun b e => ?_, fun n hn => ?_, fun n hn => ?_, fun _ i => frozen_of_row _ _ i _ _ hg⟩
      · cases e
        exact ⟨(Array.getElem?_eq_some_iff.1 hg).1, fun e => hrow.1 (by subst e; rfl), fun e => hrow.2 (by subst e; rfl)⟩
      · cases e; exact hbg
      · rw [hc _ (by omega)]; exact (encS_at h h.N n hn).1
      · rw [hc _ (by omega)]; exact (encS_at h h.N n hn).2
  have cs : ∀ b i, sa = some ⟨b, 0, none⟩ → W1.cell? ⟨b, i, none⟩ = W.cell? ⟨b, i, none⟩ := fun b i e => World.cell?_of_block (w := W) (a := ⟨b, i, none⟩) (hb.block b (hlt b e).1)
  have fs : ∀ b i, sa = some ⟨b, 0, none⟩ → W1.frozen? ⟨b, i, none⟩ = W.frozen? ⟨b, i, none⟩ := fun b i e => World.frozen?_of_block (w := W) (a := ⟨b, i, none⟩) (hb.block b (hlt b e).1)
  have lno : ∀ b, l.has b → b < W.heap.size → False := fun b h1 h2 => by have := hl b h1; omega
  refine ⟨⟨p, bp, bs, sa, sc, l⟩, rfl, rfl, (cp 1).trans e1, ?_, ?_⟩
  · refine ⟨?_, ?_, ?_, hbs, ?_, ?_, ?_, ?_, ?_, ?_, ?_, hne, ?_, ⟨fun hh => lno _ hh hlp, fun hh => lno _ hh hlb⟩, ?_, ?_, ok, daN_ok h 0⟩
    · rw [cell_set_ne (.inr (by show (0 : Nat) ≠ 2; omega)), cp]; exact a.c0
    · rw [cell_set_ne (.inr (by show (1 : Nat) ≠ 2; omega)), cp]; exact e1
    · exact cell_set_eq ((cp 2).trans a.c2)
    · intro k hk
      rw [cell_set_ne (.inl (Ne.symm hne)), cb, a.f0 k hk, if_pos hk]
    · intro k hk
      rw [cell_set_ne (.inl (Ne.symm hne)), cb, a.f1 k hk, if_pos hk]
    · intro n hn
      rw [cell_set_ne (.inl (Ne.symm hne)), cb]
      exact a.g _ _ (ok.at_ n hn).1 (ok.ql hn).1
    · intro n hn
      have e := hbs (by omega)
      rw [cell_set_ne (.inl (hlt bs e).2.1), cs bs _ e]; exact s0 n hn
    · intro n hn
      have e := hbs (by omega)
      rw [cell_set_ne (.inl (hlt bs e).2.1), cs bs _ e]; exact s1 n hn
    · intro i
      obtain ⟨x, hx⟩ := a.kb
      rw [fz_set]
      exact frozen_of_row _ _ i _ _ ((hb.block bp hlb).trans hx)
    · intro hn i
      have e := hbs hn
      rw [fz_set, fs bs i e]; exact sz hn i
    · intro b e
      exact ⟨(hlt b e).2.1, (hlt b e).2.2, fun hh => lno _ hh (hlt b e).1⟩
    · intro b ho
      rw [hs_set]
      rcases ho with rfl | rfl | e | ho
      · exact Nat.lt_of_lt_of_le hlp hb.size
      · exact Nat.lt_of_lt_of_le hlb hb.size
      · exact Nat.lt_of_lt_of_le (hlt b e).1 hb.size
      · exact hk.lt b ho
    · obtain ⟨s, k1, k2, k3, k4⟩ := hk
      refine ⟨s, k1, k2, k3.same (by rw [hs_set]; exact Nat.le_refl _) fun b ho => Below.heap_setCell _ _ _ _ ?_, k4⟩
      rintro rfl
      exact lno _ ho hlp
  · intro b ho
    have hB := cell_lt e1
    rcases ho with rfl | rfl | e | ho
    · exact a.b0
    · exact a.b1
    · exact hge b e
    · have := hl b ho; have := a.b0; omega

/-- the next slot goes into its list -/
theorem push_m (o : Po) (h : Sh) (m : Nat) (W : World) (a : Ax W o h (daN h m)) (hm : m < h.N) :
    Calls Try.prog 28 #[o.l.ptr, .int .i64 (h.pt m : Int), .int .i64 (m : Int)] W fun e w' => e = .returned (.int .i64 0) ∧ Ax w' o h (daN h (m + 1)) ∧ But o.has W w' ∧ But o.l.has W w' := by
  have hpt := (a.sh.at_ m hm).1
  have hwn : whr (Rm h m) h.P m = none := whr_none_of fun k _ hx => by have := (Rm_mem.1 hx).1; omega
  have r1 : inR h.P (h.pt m : Int) = true := inR_iff.2 (by omega)
  have r2 : inR h.N (m : Int) = true := inR_iff.2 (by omega)
  have pE : pushE h.N h.P (Rm h m) (h.pt m : Int) (m : Int) = 0 := by simp [pushE, r1, r2, hwn]
  have pR : pushR h.N h.P (Rm h m) false (h.pt m : Int) (m : Int) = Rm h (m + 1) := by rw [Rm_succ]; simp [pushR, pE]
  have hc := push_k o.l h.N h.P (Rm h m) (h.pt m) m W a.kv
  rw [pE, pR] at hc
  refine hc.mono ?_
  rintro e w' ⟨rfl, hk, hb⟩
  exact ⟨rfl, a.setR hb hk (daN_ok h (m + 1)), hb.lists, hb⟩
set_option maxHeartbeats 4000000 in
theorem anew_ok (a : Option Addr) (n cap : Nat) (z : Nat → Int) (w : World) (hc : Cells w .i64 a n z) (hq : mayQ n z = true) :
    Calls Try.prog 10 #[.slice a n cap] w fun e w' => ∃ o : Po, e = .returned (.tuple #[o.ptr, .int .i64 0]) ∧ Ax w' o (shOf z n) (daN (shOf z n) (shOf z n).N) ∧ Below w.heap.size w w' ∧ ∀ b, o.has b → w.heap.size ≤ b := by
  obtain ⟨q1, q2, q3⟩ := mayQ_iff.1 hq
  have hm := amay_any a n cap z w (by omega) hc
  rw [hq] at hm
  have HOk : Hid (shOf z n).Ok := shOf_ok q2 q3
  have HC : Hid (Cells w .i64 a n fun j => (((shOf z n).sz j : Nat) : Int)) := hc.congr fun j hj => by have := q3 j hj; show z j = (((z j).toNat : Nat) : Int); omega
  have HF : Hid (∀ k, k < n → (shOf z n).fs (k + 1) = (shOf z n).fs k + (shOf z n).sz k) := fun _ _ => rfl
  have HFN : Hid ((shOf z n).fs n = (shOf z n).N) := rfl
  have HF0 : Hid ((shOf z n).fs 0 = 0) := rfl
  have hP : (shOf z n).P = n := rfl
  generalize shOf z n = h at *
  subst hP
  have mk := fun W => make_parts W h.P q2
  have HN : Hid (Nw _ w.heap.size (w.heap.size + 1) w.heap.size h 0 0) := nw_start w h
  have hB := ((Below.refl _ w).alloc (Nat.le_refl _) (.cells (madeCells (#[.int .i64 0, .int .i64 0] ++ Array.replicate 256 (.int .u64 0)) (h.P * 258)) 70)).alloc (by simp) (.cells #[.slice (some ⟨w.heap.size, 0, none⟩) h.P h.P, .slice none 0 0, .pointer none] 64)
  clear hc hq q3
  go_enter Try.func10, Try.ntmps10
  go_wp2_with fail
  refine hm.mono ?_
  rintro e w2 ⟨rfl, e2⟩
  subst e2
  go_wp2_with fail
  generalize World.alloc (World.alloc w2 _) _ = W0 at *
  have hlp : w2.heap.size + 1 < W0.heap.size := cell_lt HN.out.c0
  clear mk hm
  go_loopw [19] (fun i wr => ∃ k : Nat, k ≤ h.P ∧ i = .int .i64 k ∧ Hid (Nw wr w2.heap.size (w2.heap.size + 1) w2.heap.size h k (h.fs k)) ∧ Below w2.heap.size w2 wr) (fun i _ => h.P - (intOf i).toNat)
  case atStart => exact ⟨0, by omega, rfl, HF0.out.symm ▸ HN.out, hB⟩
  case round =>
    obtain ⟨k, hk, rfl, hN, hbel⟩ := hrel
    by_cases hlt : k < h.P
    · obtain ⟨b, off, rfl, hcell⟩ := HC.out.below hbel k hlt
      have l0 := hN.out.c0
      obtain ⟨sa, sc, l1, lr⟩ := hN.out.c1
      have m0 := hN.out.f0 k hlt
      have m1 := hN.out.f1 k hlt
      have mf := hN.out.fb
      have hne := hN.out.ne
      have hs := HOk.out.s256 k hlt
      have hf4 := HOk.out.f4 k hlt
      have HPt : Hid (Nw _ w2.heap.size (w2.heap.size + 1) w2.heap.size h (k + 1) (h.fs k)) := (hN.out.part hlt).drew
      have BP := ((hbel.setCell (p := ⟨w2.heap.size, k * 258, none⟩) (Nat.le_refl _) (.int .i64 (h.fs k : Int))).setCell (p := ⟨w2.heap.size, k * 258 + 1, none⟩) (Nat.le_refl _) (.int .i64 (h.sz k : Int))).drew
      have HRow : Hid (World.ownsRow _ _ _ _ _ _ _) := lr
      have q2' : (k : Int) < (h.P : Int) := by omega
      have q3' : (0 : Int) ≤ (k : Int) := by omega
      clear lr hN
      go_wp2_with fail
      go_region
      generalize World.drew (World.setCell (World.setCell wr _ _) _ _) = W1 at *
      clear l0 l1 m0 m1 mf hcell HRow
      go_wp2_with fail
      go_loopw [45] (fun i wr => ∃ t : Nat, t ≤ h.sz k ∧ i = .int .i64 t ∧ Hid (Nw wr w2.heap.size (w2.heap.size + 1) w2.heap.size h (k + 1) (h.fs k + t)) ∧ Below w2.heap.size w2 wr) (fun i _ => h.sz k - (intOf i).toNat)
      case atStart => exact ⟨0, by omega, rfl, HPt.out, BP⟩
      case round =>
        obtain ⟨t, ht, rfl, hN, hbel⟩ := hrel
        by_cases htl : t < h.sz k
        · have hpt := (HOk.out.in_ k t hlt htl).2
          have hn4 := (HOk.out.in_ k t hlt htl).1
          have hn5 := HOk.out.n4
          obtain ⟨sa, sc, l1, lr⟩ := hN.out.c1
          have hl2 := hbel.size
          have hlp2 : w2.heap.size + 1 < wr.heap.size := cell_lt l1
          obtain ⟨i0, hi, hz0, hz1, hz2⟩ := info_parts Try.infoSlot
          have HRow : Hid (World.ownsRow _ _ _ _ _ _ _) := lr
          have HL1 : Hid (wr.cell? ⟨w2.heap.size + 1, 1, none⟩ = _) := l1
          have HPT : Hid (h.pt (h.fs k + t) = k) := hpt
          clear lr hpt
          go_wp2_with (at_builtin; refine wpList_append_own _ rfl _ _ 61 rfl w2.heap.size 72 i0 (.agg #[.int .i64 0, .int .u64 0]) 2 16 Try.underlying61 hi hz0 hz1 hz2 rfl (by decide) _ _ _ rfl (HRow.out.alloc _) ⟨wr.heap.size, 0, none⟩ 1 1 [.int .i64 (k : Int), .int .u64 0] rfl rfl (two_new _ _ _ _) (by simp [Value.oneCell']) (by unfold maxLen; omega) (by omega) (by simp; omega) ?_; intro v' w3 hown' hgrow _; obtain ⟨n1, n2, n3, ⟨sa', sc', rfl⟩, n5⟩ := hN.out.more HL1.out HRow.out (by rw [HPT.out]; exact hown') hgrow; have B3 := (below_grown hbel (by omega) hgrow (fun q e => (HRow.out.lt q e).1)).setCell (p := ⟨w2.heap.size + 1, 1, none⟩) (by show w2.heap.size ≤ w2.heap.size + 1; omega) (.slice sa' (h.fs k + t + 1) sc'); have N3 : Hid (Nw _ _ _ _ _ _ _) := n1; clear hown' hgrow n1)
          go_roundw
          case rel => exact ⟨t + 1, by omega, by go_num, N3.out, B3⟩
          case measure => simp [intOf]; omega
        · obtain rfl : t = h.sz k := by omega
          rw [← HF.out k hlt] at hN
          go_wp2_with fail
          go_roundw
          case rel => exact ⟨k + 1, by omega, by go_num, hN.out, hbel⟩
          case measure => simp [intOf]; omega
    · obtain rfl : k = h.P := by omega
      rw [HFN.out] at hN
      obtain ⟨sa, sc, l1, lr⟩ := hN.out.c1
      have l0 := hN.out.c0
      have hn5 := HOk.out.n4
      have hl2 := hbel.size
      have hcall := new_k h.N h.P wr.drew (by omega) (by omega)
      have z0 : wr.drew.cell? ⟨w2.heap.size + 1, 0, none⟩ = some (.slice (some ⟨w2.heap.size, 0, none⟩) h.P h.P) := l0
      have z1 : wr.drew.cell? ⟨w2.heap.size + 1, 1, none⟩ = some (.slice sa h.N sc) := l1
      have z2 := hN.out.c2
      have zf := hN.out.drew.fp
      have ND : Hid (Nw wr.drew w2.heap.size (w2.heap.size + 1) w2.heap.size h h.P h.N) := hN.out.drew
      clear lr hN HN
      go_wp2_with fail
      go_region_held3 (fun W => W.cell? ⟨w2.heap.size + 1, 0, none⟩ = some (.slice (some ⟨w2.heap.size, 0, none⟩) h.P h.P) ∧ W.cell? ⟨w2.heap.size + 1, 1, none⟩ = some (.slice sa h.N sc)) (first | assumption | exact ⟨z0, z1⟩ | exact ⟨y0, y1⟩ | exact ⟨(cell_set_ne (.inr (by decide))).trans y0, (cell_set_ne (.inr (by decide))).trans y1⟩) (first
        | (go_at_call 27; (with_reducible refine hcall.mono ?_); rintro e w6 ⟨l, rfl, hk6, hb6, hl6⟩; have y0 := (hb6.cell (p := ⟨w2.heap.size + 1, 0, none⟩) (cell_lt z0)).trans z0; have y1 := (hb6.cell (p := ⟨w2.heap.size + 1, 1, none⟩) (cell_lt z0)).trans z1; have y2 := (hb6.cell (p := ⟨w2.heap.size + 1, 2, none⟩) (cell_lt z0)).trans z2; have yf := fun i => (World.frozen?_of_block (w := wr.drew) (a := ⟨w2.heap.size + 1, i, none⟩) (hb6.block _ (cell_lt z0))).trans (zf i)))
      obtain ⟨o, hop, hol, ho1, hax, hob⟩ := nw_done ND.out HOk.out hb6 hk6 hl6
      subst hol
      have HA : Hid (Ax (w6.setCell ⟨w2.heap.size + 1, 2, none⟩ o.l.ptr) o h (daN h 0)) := hax
      have HO : Hid (∀ b, o.has b → w2.heap.size ≤ b) := hob
      have B7 := ((hbel.drew).trans (hb6.mono hl2)).setCell (p := ⟨w2.heap.size + 1, 2, none⟩) (by show w2.heap.size ≤ w2.heap.size + 1; omega) o.l.ptr
      clear hax hob hk6 hb6 y0 y1 y2 yf z0 z1 z2 zf ND hcall l0 l1
      rw [← hop]
      rw [← hop] at HA B7
      generalize (w6.setCell ⟨o.p, 2, none⟩ o.l.ptr) = W7 at *
      clear hop
      clear ho1 hl6
      rcases Nat.eq_zero_or_pos h.N with hN0 | hN0
      · have m1 := HA.out.c1
        rw [hN0] at m1
        go_wp2_with fail
        go_loopw [82] (fun i wr => i = .int .i64 0 ∧ Hid (wr = W7)) (fun i _ => 0)
        case atStart => exact ⟨rfl, rfl⟩
        case round =>
          obtain ⟨rfl, hwr⟩ := hrel
          have := hwr.out
          subst this
          go_wp2_with fail
          go_ret2
          refine ⟨o, rfl, ?_, B7, HO.out⟩
          have := HA.out
          rwa [← hN0] at this
      · have m1 := HA.out.c1
        rw [HA.out.sa hN0] at m1
        go_wp2_with fail
        go_loopw [82] (fun i wr => ∃ m : Nat, m ≤ h.N ∧ i = .int .i64 m ∧ Hid (Ax wr o h (daN h m)) ∧ Below w2.heap.size w2 wr) (fun i _ => h.N - (intOf i).toNat)
        case atStart => exact ⟨0, by omega, rfl, HA.out, B7⟩
        case round =>
          obtain ⟨m, hm, rfl, hA, hbel2⟩ := hrel
          by_cases hlt3 : m < h.N
          · have s0 := hA.out.s0 m hlt3
            have s1 := hA.out.s1 m hlt3
            obtain ⟨x0, x1, _⟩ := box2 (w := wr) (x := .int .i64 (h.pt m : Int)) (y := .int .u64 0) (T := 72) (Below.refl _ _)
            have hbb := (Below.refl _ wr).alloc (Nat.le_refl _) (.cells #[.int .i64 (h.pt m : Int), .int .u64 0] 72)
            have HX : Hid (Ax _ o h (daN h m)) := hA.out.below hbb
            have hl8 := hbel2.size
            have B8 := hbel2.trans (hbb.mono hl8)
            have hw8 : ¬ o.has wr.heap.size := fun hb => by have := hA.out.lt _ hb; omega
            have p2 := hA.out.c2
            have s1' : wr.cell? ⟨o.bs, m * 2 + 1, none⟩ = some (.int .u64 0) := s1
            clear hA s1 hbb
            go_wp2_with fail
            generalize (wr.alloc _) = W8 at *
            have v0 : W8.drew.cell? ⟨wr.heap.size, 0, none⟩ = some (.int .i64 (h.pt m : Int)) := x0
            have v2 : W8.drew.cell? ⟨o.p, 2, none⟩ = some o.l.ptr := HX.out.c2
            have HXD : Hid (Ax W8.drew o h (daN h m)) := HX.out.below ((Below.refl _ _).drew)
            have hcall := push_m o h m W8.drew HXD.out hlt3
            have k1 : ¬ o.l.has wr.heap.size := fun hb => hw8 (.inr (.inr (.inr hb)))
            have k2 := HX.out.n3.1
            go_region_held3 (fun W => W.cell? ⟨wr.heap.size, 0, none⟩ = some (.int .i64 (h.pt m : Int)) ∧ W.cell? ⟨o.p, 2, none⟩ = some o.l.ptr) (first | assumption | exact ⟨v0, v2⟩ | exact ⟨y0, y2⟩) (first
              | (go_at_call 28; (with_reducible refine hcall.mono ?_); rintro e w9 ⟨rfl, hk9, hb9, hc9⟩; have y0 := hc9.cell v0 k1; have y2 := hc9.cell v2 k2))
            have H9 : Hid (Ax w9 o h (daN h (m + 1))) := hk9
            have B9 := B8.drew.trans (hb9.below B8.drew.size HO.out)
            clear hk9 hb9 hc9 y0 y2 v0 v2
            go_wp2_with fail
            go_roundw
            case rel =>
              exact ⟨m + 1, by omega, by go_num, H9.out, B9⟩
            case measure => simp [intOf]; omega
          · obtain rfl : m = h.N := by omega
            go_wp2_with fail
            go_ret2
            exact ⟨o, rfl, hA.out, hbel2, HO.out⟩
end Go.Proofs.Ytobpignlamekmaa
