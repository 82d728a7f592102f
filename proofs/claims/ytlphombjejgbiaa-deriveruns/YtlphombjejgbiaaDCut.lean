/- Cut and Prune. -/
import Derived.Test.YtlphombjejgbiaaDActs
namespace Go.Proofs.Ytlphombjejgbiaa
open Go.RowKit Go.Shelf
attribute [local go_sem] Oper.semAt_some
set_option maxRecDepth 100000

theorem take_at {G : List Nat} {j : Nat} (hj : j < G.length) : G.take (j + 1) = G.take j ++ [G.getD j 0] := by
  rw [List.take_succ_eq_append_getElem hj]; simp [List.getD, hj]
set_option maxHeartbeats 4000000 in
theorem remove_k {w : World} {a : Fp} {N : Nat} {L : List Fe} {z : Nat → Int} (h : Fk w a N L z) (G : List Nat) (ad : Option Addr) (cap : Nat) (hc : Cells w .i64 ad G.length (atL G)) (hG : ∀ g, g ∈ G → g < N) (hs : ∀ b o, ad = some ⟨b, o, none⟩ → ¬ a.has b) (hlen : G.length ≤ 100000) :
    Calls Try.prog 56 #[.pointer (some ⟨a.k, 0, none⟩), .slice ad G.length cap] w fun e w' => e = .returned (.tuple #[]) ∧ (∃ z', Fk w' a N (wout L G) z') ∧ But a.has w w' := by
  have HC : Hid (Cells w .i64 ad G.length (atL G)) := hc
  have HG : Hid (∀ g, g ∈ G → g < N) := hG
  have HS : Hid (∀ b o, ad = some ⟨b, o, none⟩ → ¬ a.has b) := hs
  have H0 : Hid (Fk w a N L z) := h
  have hN := h.hN
  clear hc hG hs h
  go_enter Try.func56, Try.ntmps56
  go_wp2_with fail
  go_loopw [8] (fun i wr => ∃ j : Nat, j ≤ G.length ∧ i = .int .i64 j ∧ Hid ((∃ z', Fk wr a N (wout L (G.take j)) z') ∧ But a.has w wr)) (fun i _ => G.length - (intOf i).toNat)
  case atStart => exact ⟨0, by omega, rfl, ⟨z, by rw [List.take_zero, wout_nil]; exact H0.out⟩, But.refl _ _⟩
  case round =>
    obtain ⟨j, hj, rfl, hJ⟩ := hrel
    by_cases hlt : j < G.length
    · obtain ⟨b, off, rfl, hcell⟩ := HC.out j hlt
      have hcell2 := hJ.out.2.cell hcell (HS.out b off rfl)
      have HW : Hid (wout L (G.take (j + 1)) = wout (wout L (G.take j)) [G.getD j 0]) := by show _ = _; rw [take_at hlt, wout_snoc]
      have hgN : G.getD j 0 < N := HG.out _ (by simp [List.getD, hlt])
      obtain ⟨z1, hk⟩ := hJ.out.1
      have hbw := hJ.out.2
      have hcv : wr.cell? ⟨b, off + j, none⟩ = some (.int .i64 ((G.getD j 0 : Nat) : Int)) := hcell2
      generalize G.getD j 0 = g at *
      have hd := drop_k a.o N N (kids (wout L (G.take j))) (g : Int) wr hk.kv
      have c17 := hk.k17
      have HK : Hid (Fk wr a N (wout L (G.take j)) z1 ∧ But a.has w wr) := ⟨hk, hbw⟩
      clear hcell hcell2 hJ hk hbw
      go_wp2_with fail
      refine hd.mono ?_
      rintro e w2 ⟨rfl, hkv, hb2⟩
      rw [drop_kids HK.out.1.fw hgN] at hkv
      obtain ⟨pc, k0, kz, k17, kf⟩ := HK.out.1.lists hb2
      have hmu := munset_any a.k z1 g (g / 64) (g % 64) (by omega) (by omega) (by omega) w2 kz (kf _)
      have H2 : Hid (Boxed w2 a.p 69 (.pointer (some ⟨a.k, 0, none⟩)) ∧ w2.cell? ⟨a.k, 0, none⟩ = some (.int .i64 (N : Int)) ∧ Wds w2 a.k z1 ∧ w2.cell? ⟨a.k, 17, none⟩ = some a.o.ptr ∧ (∀ i, w2.frozen? ⟨a.k, i, none⟩ = false) ∧ Kv w2 a.o N N (kids (wout (wout L (G.take j)) [g])) ∧ But a.o.has wr w2) := ⟨pc, k0, kz, k17, kf, hkv, hb2⟩
      clear hd hkv hb2 pc k0 kz k17 kf c17 hcv
      go_wp2_with fail
      refine hmu.mono ?_
      rintro e w3 ⟨rfl, rfl⟩
      have H3 : Hid ((∃ z', Fk (w2.setCell ⟨a.k, 1 + g / 64, none⟩ (.int .u64 (clrI (z1 (g / 64)) (g % 64)))).drew a N (wout L (G.take (j + 1))) z') ∧ But a.has w (w2.setCell ⟨a.k, 1 + g / 64, none⟩ (.int .u64 (clrI (z1 (g / 64)) (g % 64)))).drew) := by
        obtain ⟨pc, k0, kz, k17, kf, hkv, hb4⟩ := H2.out
        have h0 := (kz (g / 64) (by omega)).2
        rw [HW.out]
        exact ⟨⟨_, Fk.word (by omega) (clrI_nonneg _ _) (clrI_lt h0.2) pc k0 kz k17 kf hkv (HK.out.1.fw.wout [g]) hN (ma_clr HK.out.1.ma (by omega)) HK.out.1.ne⟩, ((HK.out.2.trans (hb4.mono fun b hb => .inr (.inr hb))).setCell (p := ⟨a.k, _, none⟩) (.inr (.inl rfl)) _).drew⟩
      clear H2 HK hmu
      generalize (w2.setCell ⟨a.k, 1 + g / 64, none⟩ (.int .u64 (clrI (z1 (g / 64)) (g % 64)))).drew = w4 at *
      go_wp2_with fail
      go_roundw
      case rel => exact ⟨j + 1, by omega, by go_num, H3.out⟩
      case measure => simp [intOf]; omega
    · obtain rfl : j = G.length := by omega
      go_wp2_with fail
      refine bodyPost_end (results_none rfl _ _ _) rfl ?_
      have := hJ.out
      rw [List.take_length] at this
      exact ⟨rfl, this⟩
theorem own_sep {W : World} {B : Nat} {v : Value} {T : List Nat} (h : W.ownsRow B 3 1 v T.length (encL T)) : ∃ ad cap, v = .slice ad T.length cap ∧ Cells W .i64 ad T.length (atL T) ∧ ∀ b o, ad = some ⟨b, o, none⟩ → B ≤ b := by
  obtain ⟨ad, cap, rfl, hc, hge⟩ := cells_of_own h (k := .i64) (z := atL T) (fun j hj => encL_at2 hj)
  exact ⟨ad, cap, rfl, hc, fun b o e => hge b o none e⟩
theorem own_butD {W W' : World} {B : Nat} {v : Value} {n : Nat} {xs : List Value} {S : Nat → Prop} (h : W.ownsRow B 3 1 v n xs) (hb : But S W W') (hS : ∀ b, S b → b < B) : W'.ownsRow B 3 1 v n xs := by
  refine ⟨h.1, ?_⟩
  rcases h.2 with h1 | ⟨g, cap, cur, hv, hB, hg, rest⟩
  · exact .inl h1
  · exact .inr ⟨g, cap, cur, hv, hB, (hb.block g (Array.getElem?_eq_some_iff.1 hg).1 (fun hs => by have := hS g hs; omega)).trans hg, rest⟩

set_option maxHeartbeats 4000000 in
theorem prune_k {w : World} {a : Fp} {N : Nat} {L : List Fe} (h : Fo w a N L) (x : Int) :
    Calls Try.prog 22 #[a.ptr, .int .i64 x] w fun e w' => ∃ v, e = .returned (.tuple #[v, .int .i64 (askE N L x)]) ∧ Fo w' a N (wout L (pruT N L x)) ∧ w'.ownsRow w.heap.size 3 1 v (pruT N L x).length (encL (pruT N L x)) ∧ But a.has w w' := by
  obtain ⟨z, h⟩ := h
  have hm := fmust_any h x
  have HX : Hid (Fx w a N L z) := h
  have HL : Hid (∀ b, a.has b → b < w.heap.size) := h.lt
  clear h
  cases hin : (inR N x && decide (x.toNat ∈ nds L))
  · have HR : Hid (askE N L x ≠ 0 ∧ askE N L x = (if inR N x then (if hasF N L x then 0 else 122) else 120) ∧ pruT N L x = []) := by
      have h1 : askE N L x ≠ 0 := by
        unfold askE
        cases h1 : inR N x <;> simp [h1] at hin ⊢
        simp [hin]
      refine ⟨h1, ?_, by simp [pruT, h1]⟩
      unfold askE hasF
      cases inR N x <;> simp
    rw [← HR.out.2.1] at hm
    have h0 := HR.out.1
    generalize askE N L x = r at *
    have h0' : ¬ (r == 0) = true := by simpa using h0
    clear hin
    go_enter Try.func22, Try.ntmps22
    go_wp2_with fail
    refine hm.mono ?_
    rintro e w2 ⟨rfl, hb2⟩
    go_wp2_with fail
    go_ret2
    rw [HR.out.2.2, wout_nil]
    exact ⟨_, rfl, ⟨z, HX.out.below hb2⟩, World.ownsRow_nil _ _ _ _, But.of hb2⟩
  · rw [Bool.and_eq_true] at hin
    obtain ⟨i1, i2⟩ := hin
    have i1' := i1
    obtain ⟨k, rfl, hk⟩ := inR_nat i1
    simp only [Int.toNat_natCast, decide_eq_true_eq] at i2
    have hh : hasF N L (k : Int) = true := by simp [hasF, i1', i2]
    rw [i1', hh] at hm
    simp only [if_true] at hm
    have HR : Hid (askE N L (k : Int) = 0 ∧ pruT N L (k : Int) = blw L k) := by
      have h1 : askE N L (k : Int) = 0 := by simp [askE, i1', i2]
      exact ⟨h1, by simp [pruT, h1]⟩
    clear i1 i1' hh
    go_enter Try.func22, Try.ntmps22
    go_wp2_with fail
    refine hm.mono ?_
    rintro e w2 ⟨rfl, hb2⟩
    have H2 : Hid (Fx w2 a N L z ∧ Below w.heap.size w w2) := ⟨HX.out.below hb2, hb2⟩
    have c := H2.out.1.pc.cell
    have hbel := below_k a.k a.o N L H2.out.1.ok H2.out.1.hN k hk w2 H2.out.1.k17 H2.out.1.kv
    clear hm hb2
    go_wp2_with fail
    refine hbel.mono ?_
    rintro e w3 ⟨v, rfl, hown, hb3, _⟩
    obtain ⟨ad, cap, rfl, hcells, hge⟩ := own_sep hown
    have H3 : Hid (Fx w3 a N L z ∧ Below w.heap.size w w3 ∧ w3.ownsRow w2.heap.size 3 1 (.slice ad (blw L k).length cap) (blw L k).length (encL (blw L k))) := ⟨H2.out.1.below hb3, Below.onto H2.out.2 hb3, hown⟩
    have c3 := H3.out.1.pc.cell
    have hs2 := H2.out.2.size
    have hll := blw_len H2.out.1.ok k
    have hN := H2.out.1.hN
    have hrem := remove_k H3.out.1.fk (blw L k) ad cap hcells (fun g hg => H2.out.1.ok.lt g (blw_behind H2.out.1.ok hg).1) (fun b o e hb => by have := hge b o e; have := HL.out b hb; omega) (by omega)
    clear hbel hown hcells hge hb3 c
    go_wp2_with fail
    refine hrem.mono ?_
    rintro e w4 ⟨rfl, ⟨z4, hk4⟩, hb4⟩
    have H4 : Hid (Fk w4 a N (wout L (blw L k)) z4 ∧ But a.has w3 w4) := ⟨hk4, hb4⟩
    clear hrem hk4 hb4 c3
    go_wp2_with fail
    go_ret2
    rw [HR.out.1, HR.out.2]
    refine ⟨_, rfl, ⟨z4, H4.out.1.fx (H2.out.1.ok.wout (below_closed H2.out.1.ok k))⟩, own_mono (own_butD H3.out.2.2 H4.out.2 (fun b hb => by have := HL.out b hb; omega)) hs2, (But.of H3.out.2.1).trans H4.out.2⟩
set_option maxHeartbeats 4000000 in
theorem cut_k {w : World} {a : Fp} {N : Nat} {L : List Fe} (h : Fo w a N L) (x : Int) :
    Calls Try.prog 23 #[a.ptr, .int .i64 x] w fun e w' => ∃ v, e = .returned (.tuple #[v, .int .i64 (askE N L x)]) ∧ Fo w' a N (wout L (cutT N L x)) ∧ w'.ownsRow w.heap.size 3 1 v (cutT N L x).length (encL (cutT N L x)) ∧ But a.has w w' := by
  obtain ⟨z, h⟩ := h
  have hm := fmust_any h x
  have HX : Hid (Fx w a N L z) := h
  have HL : Hid (∀ b, a.has b → b < w.heap.size) := h.lt
  clear h
  cases hin : (inR N x && decide (x.toNat ∈ nds L))
  · have HR : Hid (askE N L x ≠ 0 ∧ askE N L x = (if inR N x then (if hasF N L x then 0 else 122) else 120) ∧ cutT N L x = []) := by
      have h1 : askE N L x ≠ 0 := by
        unfold askE
        cases h1 : inR N x <;> simp [h1] at hin ⊢
        simp [hin]
      refine ⟨h1, ?_, by simp [cutT, h1]⟩
      unfold askE hasF
      cases inR N x <;> simp
    rw [← HR.out.2.1] at hm
    have h0 := HR.out.1
    generalize askE N L x = r at *
    have h0' : ¬ (r == 0) = true := by simpa using h0
    clear hin
    go_enter Try.func23, Try.ntmps23
    go_wp2_with fail
    refine hm.mono ?_
    rintro e w2 ⟨rfl, hb2⟩
    go_wp2_with fail
    go_ret2
    rw [HR.out.2.2, wout_nil]
    exact ⟨_, rfl, ⟨z, HX.out.below hb2⟩, World.ownsRow_nil _ _ _ _, But.of hb2⟩
  · rw [Bool.and_eq_true] at hin
    obtain ⟨i1, i2⟩ := hin
    have i1' := i1
    obtain ⟨k, rfl, hk⟩ := inR_nat i1
    simp only [Int.toNat_natCast, decide_eq_true_eq] at i2
    have hh : hasF N L (k : Int) = true := by simp [hasF, i1', i2]
    rw [i1', hh] at hm
    simp only [if_true] at hm
    have HR : Hid (askE N L (k : Int) = 0 ∧ cutT N L (k : Int) = k :: blw L k) := by
      have h1 : askE N L (k : Int) = 0 := by simp [askE, i1', i2]
      exact ⟨h1, by simp [cutT, h1]⟩
    clear i1 i1' hh
    go_enter Try.func23, Try.ntmps23
    go_wp2_with fail
    refine hm.mono ?_
    rintro e w2 ⟨rfl, hb2⟩
    have H2 : Hid (Fx w2 a N L z ∧ Below w.heap.size w w2) := ⟨HX.out.below hb2, hb2⟩
    have c := H2.out.1.pc.cell
    have hB2 : Below w2.heap.size w2 (w2.alloc (.cells #[.int .i64 (k : Int)] 3)) := (Below.refl _ w2).alloc (Nat.le_refl _) _
    have hx2 := H2.out.1.below hB2
    have hbel := below_k a.k a.o N L hx2.ok hx2.hN k hk _ hx2.k17 hx2.kv
    have c2 := hx2.pc.cell
    have hrow : (w2.alloc (.cells #[.int .i64 (k : Int)] 3)).ownsRow w2.heap.size 3 1 (.slice (some ⟨w2.heap.size, 0, none⟩) 1 1) 1 [.int .i64 (k : Int)] := ⟨rfl, .inr ⟨w2.heap.size, 1, _, rfl, Nat.le_refl _, World.alloc_heap_new _ _, Nat.le_refl _, by unfold maxLen; omega, rfl, rfl⟩⟩
    have HB2 : Hid (Below w2.heap.size w2 (w2.alloc (.cells #[.int .i64 (k : Int)] 3)) ∧ Fx (w2.alloc (.cells #[.int .i64 (k : Int)] 3)) a N L z) := ⟨hB2, hx2⟩
    clear hB2 hx2
    clear hm hb2
    go_wp2_with fail
    refine hbel.mono ?_
    rintro e w3 ⟨v, rfl, hown, hb3, g, rfl⟩
    have hs2 := H2.out.2.size
    have hll := blw_len H2.out.1.ok k
    have hN := H2.out.1.hN
    have HG : Hid (∀ x, x ∈ blw L k → x < N) := fun x hx => H2.out.1.ok.lt x (blw_behind H2.out.1.ok hx).1
    have HCl : Hid (Fok N (wout L (k :: blw L k))) := H2.out.1.ok.wout (cut_closed H2.out.1.ok k)
    have hrow3 : w3.ownsRow w2.heap.size 3 1 (.slice (some ⟨w2.heap.size, 0, none⟩) 1 1) 1 [.int .i64 (k : Int)] := own_butD hrow (But.of (S := fun _ => False) hb3) (fun _ h => h.elim)
    have H3 : Hid (Fx w3 a N L z ∧ Below w.heap.size w w3) := ⟨HB2.out.2.below hb3, Below.onto (Below.onto H2.out.2 HB2.out.1) hb3⟩
    have hs3 : w2.heap.size + 1 ≤ w3.heap.size := by have := hb3.size; simp at this; omega
    generalize hT : blw L k = T at *
    have HTe : Hid (blw L k = T) := hT
    clear hT
    have hsrc : ∀ j u, (encL T)[j]? = some u → w3.cell? ((⟨g, 0, none⟩ : Addr).add j) = some u := by
      obtain ⟨ad, cap, e1, hcells, _⟩ := own_sep hown
      cases e1
      intro j u hj
      have hj' : j < T.length := by have := (List.getElem?_eq_some_iff.1 hj).1; simpa [encL] using this
      rw [encL_at2 hj'] at hj
      cases hj
      obtain ⟨b, off, e2, hc⟩ := hcells j hj'
      cases e2
      rw [Go.WideShapes.add_plain]
      exact hc
    have hone : ∀ v, v ∈ encL T → v.oneCell' = true := by
      intro v hv
      simp only [encL, List.mem_map] at hv
      obtain ⟨x, _, rfl⟩ := hv
      rfl
    have hel : (encL T).length = T.length * 1 := by simp [encL]
    obtain ⟨i0, hi, hz0, hz1, hz2⟩ := info_parts Try.info3
    have aft : ∀ v' w4, w4.ownsRow w2.heap.size 3 1 v' (1 + T.length) ([.int .i64 (k : Int)] ++ encL T) → w3.grownBy w4 (some w2.heap.size) → ∃ ad cap, v' = .slice ad (k :: T).length cap ∧ w4.cell? ⟨a.p, 0, none⟩ = some (.pointer (some ⟨a.k, 0, none⟩)) ∧ Hid (Fx w4 a N L z ∧ Below w.heap.size w w4 ∧ w4.ownsRow w2.heap.size 3 1 (.slice ad (k :: T).length cap) (k :: T).length (encL (k :: T))) ∧ Calls Try.prog 56 #[.pointer (some ⟨a.k, 0, none⟩), .slice ad (k :: T).length cap] w4 fun e w' => e = .returned (.tuple #[]) ∧ (∃ z', Fk w' a N (wout L (k :: T)) z') ∧ But a.has w4 w' := by
      intro v' w4 hown4 hgrow
      have hown5 : w4.ownsRow w2.heap.size 3 1 v' (k :: T).length (encL (k :: T)) := by rw [List.length_cons, Nat.add_comm]; exact hown4
      obtain ⟨ad, cap, rfl, hcells, hge⟩ := own_sep hown5
      have hb4 : Below w.heap.size w w4 := H3.out.2.grown hgrow (by omega) (fun b e => by cases e; omega)
      have hx4 : Fx w4 a N L z := H3.out.1.same hgrow.size (fun b hb => hgrow.block b (H3.out.1.lt b hb) (fun e => by cases e; have := HL.out _ hb; omega))
      exact ⟨ad, cap, rfl, hx4.pc.cell, ⟨hx4, hb4, hown5⟩, remove_k hx4.fk (k :: T) ad cap hcells (fun x hx => by rcases List.mem_cons.1 hx with rfl | hx; exact hk; exact HG.out x hx) (fun b o e hb => by have := hge b o e; have := HL.out b hb; omega) (by simp; omega)⟩
    clear hbel hown hb3 hrow c c2 HB2
    go_wp2_with (at_builtin; refine wpList_append_own _ rfl _ _ 35 rfl w2.heap.size 3 i0 (.int .i64 0) 1 8 Try.underlying35 hi hz0 hz1 hz2 rfl (by decide) _ _ _ rfl hrow3 ⟨g, 0, none⟩ T.length T.length (encL T) rfl hel hsrc hone (by unfold maxLen; omega) (by omega) (by omega) ?_; intro v' w4 hown4 hgrow _; obtain ⟨ad, cap, rfl, c4, H4, hrem⟩ := aft v' w4 hown4 hgrow; clear hown4 hgrow aft; try simp only [List.length_cons] at hrem)
    refine hrem.mono ?_
    rintro e w5 ⟨rfl, ⟨z5, hk5⟩, hb5⟩
    have H5 : Hid (Fk w5 a N (wout L (k :: T)) z5 ∧ But a.has w4 w5) := ⟨hk5, hb5⟩
    clear hrem hk5 hb5 c4
    go_wp2_with fail
    go_ret2
    rw [HR.out.1, HR.out.2]
    exact ⟨_, rfl, ⟨z5, H5.out.1.fx HCl.out⟩, own_mono (own_butD H4.out.2.2 H5.out.2 (fun b hb => by have := HL.out b hb; omega)) hs2, (But.of H4.out.2.1).trans H5.out.2⟩
end Go.Proofs.Ytlphombjejgbiaa
