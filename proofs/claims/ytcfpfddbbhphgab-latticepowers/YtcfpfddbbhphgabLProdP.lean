/- lattice.Product: the policy of pairs. -/
import Derived.Test.YtcfpfddbbhphgabLProdS
import Derived.Test.YtcfpfddbbhphgabLMiss
import Derived.Sort.CutIn
namespace Go.Proofs.Ytcfpfddbbhphgab
open Go.RowKit Go.Shelf
attribute [local go_sem] Oper.semAt_some
attribute [local go_sem ↓] wp_at wp_succ wp_zero wpIn_at wpIn_succ wpIn_zero

theorem keeps_append {W w1 : World} {n₀ : Nat} {e : TypeId} {size : Nat} {v : Value} {k : Nat} {xs : List Value} {tmp : Obj} (hrow : W.ownsRow n₀ e size v k xs) (hgrow : (W.alloc tmp).grownBy w1 v.ownBlock) : KeepsOthers W w1 := by
  refine (KeepsOthers.alloc W tmp).trans (KeepsOthers.of_grownBy hgrow fun j o ej hj => ?_)
  rcases (hrow.alloc tmp).2 with ⟨rfl, _⟩ | ⟨g, cap, cur, rfl, _, hgb, _⟩
  · simp [Value.ownBlock] at ej
  · obtain rfl : g = j := by simpa [Value.ownBlock] using ej
    rw [hgb] at hj; cases hj; rfl

set_option maxRecDepth 100000 in
set_option maxHeartbeats 4000000 in
theorem product_ok (a b : Option Addr) (n m ca cb : Nat) (z y : Nat → Int) (w : World) (hc : Cells w .u64 a n z) (hd : Cells w .u64 b m y) (hz : Bds n z) (hy : Bds m y) (hk : polE n z = 0) (hl : polE m y = 0) (hnm : n * m ≤ 16) :
    Calls Try.prog 15 #[.slice a n ca, .slice b m cb] w (Gives w 0 (n * m) (prod n m z y)) := by
  obtain ⟨i0, hi, hz0, hz1, hz2⟩ := info_parts Try.info23
  have hPz := pol_of hz hk
  have hPy := pol_of hy hl
  have hn16 := hPz.le
  have hm16 := hPy.le
  have hm1 := hPy.one
  have h1 := fun w' h => check2_un a n ca z w' (by omega) h hz
  rw [hk] at h1
  have h2 := fun w' h => check2_un b m cb y w' (by omega) h hy
  rw [hl] at h2
  have HC : Hid (Cells w .u64 a n z) := hc
  have HD : Hid (Cells w .u64 b m y) := hd
  have HZ : Hid (Bds n z) := hz
  have HY : Hid (Bds m y) := hy
  have hmul : (n : Int) * (m : Int) = ((n * m : Nat) : Int) := by simp
  have HSh : Hid (∀ i j p, i < n → j < m → tb (z i) p = true → IntKind.u64.wrap (y j * 2 ^ (p * m)) = shlI (y j) (p * m) ∧ shlI (y j) (p * m) < 18446744073709551616) := fun i j p hi hj hp => by
    have hpn := hPz.lt hi hp
    have h3 : (p + 1) * m ≤ n * m := Nat.mul_le_mul_right m hpn
    rw [Nat.add_mul] at h3
    exact shlI_eq (m := m) (hy j hj).1 (fun k hk => hPy.lt hj hk) (by omega)
  have HRow : Hid (∀ i j, i < n → j < m → prSt m (y j) (mems (z i)) = prod n m z y (i * m + j)) := fun i j hi hj =>
    prSt_prod hm1 hj (hz i hi).2 (fun k hk => hPz.lt hi hk) (fun k hk => hPy.lt hj hk) (prSt_bd fun p hp => (HSh.out i j p hi hj (mem_mems.1 hp).2).2).1
  have HPm : Hid (∀ i p, i < n → tb (z i) p = true → p * m ≤ 16) := fun i p hi hp => by
    have := Nat.mul_le_mul_right m (hPz.lt hi hp)
    rw [Nat.succ_mul] at this
    omega
  have HIJ : Hid (∀ i j, i < n → j < m → i * m + j < n * m) := fun i j hi hj => by
    have := Nat.mul_le_mul_right m hi
    rw [Nat.succ_mul] at this
    omega
  have HE : Hid (∀ k, encU (k + 1) (prod n m z y) = encU k (prod n m z y) ++ [.int .u64 (prod n m z y k)]) := fun k => encU_snoc k _
  have HQ : Hid (∃ q, n * m = q) := ⟨_, rfl⟩
  generalize hq : n * m = q at hmul hnm HIJ ⊢
  have HQE : Hid (n * m = q) := hq
  generalize prod n m z y = G at *
  clear hc hz hk hl hd hy hq HQ hPz hPy
  have hB0 : Below w.heap.size w (w.alloc (.cells #[.slice b m cb] 22)) := (Below.refl _ w).alloc (Nat.le_refl _) _
  have bG0 := Boxed.new w 22 (.slice b m cb)
  refine (callsIn_wide (n := 8)).1 ?_
  refine callsIn_of_wp_marks Try.func15 rfl trivial ?_ rfl
  simp only [Try.ntmps15, List.size_toArray, List.length_cons, List.length_nil, Nat.reduceAdd, Nat.reduceSub, Array.replicate_succ, Array.replicate_zero, List.push_toArray, List.append_toArray, List.nil_append, List.cons_append]
  have hmx : Try.prog.follows .mixedOrders = true := by kernel_rfl
  gi_wp2_with fail
  refine ⟨trivial, (callsIn_wide.2 (h1 _ (HC.out.below hB0))).mono ?_⟩
  rintro e w1 ⟨rfl, b1⟩
  have hB1 := Below.onto hB0 b1
  have bG1 := Boxed.through bG0 b1
  have k1 := bG1.cell
  clear h1 hB0 bG0 b1
  gi_wp2_with fail
  refine ⟨trivial, (callsIn_wide.2 (h2 _ (HD.out.below hB1))).mono ?_⟩
  rintro e w2 ⟨rfl, b2⟩
  have hB2 := Below.onto hB1 b2
  have bG2 := Boxed.through bG1 b2
  have k2 := bG2.cell
  clear h2 hB1 bG1 b2 k1
  gi_wp2_with (gi_at_make; refine wpListIn_make_own _ rfl _ _ 22 rfl w2.heap.size 35 i0 (.int .u64 0) 1 Try.underlying22 hi hz0 hz1 .i64 .i64 _ q rfl rfl rfl (by rw [hz2]; omega) (by unfold maxLen; omega) (Nat.le_refl _) ?_; intro w3 hown0 hgrow0)
  have hB3 : Below w2.heap.size w2 w3 := (Below.refl _ w2).grown hgrow0 (Nat.le_refl _) (fun k e => by cases e)
  have hglt := bG2.lt
  clear hgrow0 k2
  refine wpIn_loop (fun act wr => ∃ (i : Nat) (u2 u4 u5 u6 u7 u8 u9 u10 u11 u12 u13 u14 u15 u16 u17 u18 u19 u20 u21 u22 u23 u24 u25 u26 u27 u28 u29 u30 u31 u32 u33 u34 u35 u36 u39 u40 u41 u42 u43 u44 u45 u46 u47 u48 u49 u50 u51 u52 u53 u54 u55 u56 u57 u58 u59 u60 u61 u62 u63 u64 u65 u66 : Value) (ms : List Nat), i ≤ n ∧ u39 = .int .i64 i ∧
      act = { tmps := #[.slice a n ca, .slice b m cb, u2, .pointer (some ⟨w.heap.size, 0, none⟩), u4, u5, u6, u7, u8, u9, u10, u11, u12, u13, u14, u15, u16, u17, u18, u19, u20, u21, u22, u23, u24, u25, u26, u27, u28, u29, u30, u31, u32, u33, u34, u35, u36, .slice a n ca, .int .i64 n, u39, u40, u41, u42, u43, u44, u45, u46, u47, u48, u49, u50, u51, u52, u53, u54, u55, u56, u57, u58, u59, u60, u61, u62, u63, u64, u65, u66], defers := ms.map mark } ∧
      wr.ownsRow w2.heap.size 35 1 u8 (i * m) (encU (i * m) G) ∧ Marks wr w2.heap.size ms ∧ Below w2.heap.size w2 wr) (fun act _ => n - (intOf (act.tmps.getD 39 undef)).toNat) ?start ?round
  case start => exact ⟨0, _, _, _, _, _, _, _, _, _, _, _, _, _, _, _, _, _, _, _, _, _, _, _, _, _, _, _, _, _, _, _, _, _, _, _, _, _, _, _, _, _, _, _, _, _, _, _, _, _, _, _, _, _, _, _, _, _, _, _, _, _, _, [], Nat.zero_le _, rfl, rfl, by rw [Nat.zero_mul]; exact hown0, Marks.nil _ _, hB3⟩
  case round =>
    clear hown0 hB3
    rintro act wr ⟨i, u2, u4, u5, u6, u7, u8, u9, u10, u11, u12, u13, u14, u15, u16, u17, u18, u19, u20, u21, u22, u23, u24, u25, u26, u27, u28, u29, u30, u31, u32, u33, u34, u35, u36, u39, u40, u41, u42, u43, u44, u45, u46, u47, u48, u49, u50, u51, u52, u53, u54, u55, u56, u57, u58, u59, u60, u61, u62, u63, u64, u65, u66, ms, hin, rfl, rfl, hrow, hm, hbel⟩
    by_cases hlt : i < n
    · obtain ⟨B1, o1, rfl, hcz⟩ := HC.out.below (Below.onto hB2 hbel) i hlt
      obtain ⟨z0, z1⟩ := HZ.out i hlt
      have bGr := Boxed.through bG2 hbel
      have kG := bGr.cell
      gi_wp2
      refine wpIn_loop (fun act wr => ∃ (j : Nat) (v2 v4 v5 v6 v7 v8 v9 v11 v12 v13 v14 v15 v16 v17 v18 v19 v20 v21 v22 v23 v24 v25 v26 v27 v28 v29 v30 v31 v32 v33 v34 v35 v36 v40 v41 v42 v45 v46 v47 v48 v49 v50 v51 v52 v53 v54 v55 v56 v57 v58 v59 v60 v61 v62 v63 v64 v65 v66 : Value) (ms : List Nat), j ≤ m ∧ v45 = .int .i64 j ∧
          act = { tmps := #[.slice (some ⟨B1, o1, none⟩) n ca, .slice b m cb, v2, .pointer (some ⟨w.heap.size, 0, none⟩), v4, v5, v6, v7, v8, v9, .int .u64 (z i), v11, v12, v13, v14, v15, v16, v17, v18, v19, v20, v21, v22, v23, v24, v25, v26, v27, v28, v29, v30, v31, v32, v33, v34, v35, v36, .slice (some ⟨B1, o1, none⟩) n ca, .int .i64 n, .int .i64 i, v40, v41, v42, .slice b m cb, .int .i64 m, v45, v46, v47, v48, v49, v50, v51, v52, v53, v54, v55, v56, v57, v58, v59, v60, v61, v62, v63, v64, v65, v66], defers := ms.map mark } ∧
          wr.ownsRow w2.heap.size 35 1 v8 (i * m + j) (encU (i * m + j) G) ∧ Marks wr w2.heap.size ms ∧ Below w2.heap.size w2 wr) (fun act _ => m - (intOf (act.tmps.getD 45 undef)).toNat) ?start2 ?round2
      case start2 => exact ⟨0, _, _, _, _, _, _, _, _, _, _, _, _, _, _, _, _, _, _, _, _, _, _, _, _, _, _, _, _, _, _, _, _, _, _, _, _, _, _, _, _, _, _, _, _, _, _, _, _, _, _, _, _, _, _, _, _, _, _, ms, Nat.zero_le _, rfl, rfl, hrow, hm, hbel⟩
      case round2 =>
        clear hrow hm hbel hcz bGr kG
        rintro act wr ⟨j, v2, v4, v5, v6, v7, v8, v9, v11, v12, v13, v14, v15, v16, v17, v18, v19, v20, v21, v22, v23, v24, v25, v26, v27, v28, v29, v30, v31, v32, v33, v34, v35, v36, v40, v41, v42, v45, v46, v47, v48, v49, v50, v51, v52, v53, v54, v55, v56, v57, v58, v59, v60, v61, v62, v63, v64, v65, v66, ms, hjm, rfl, rfl, hrow, hm, hbel⟩
        by_cases hltj : j < m
        · obtain ⟨B2, o2, rfl, hcy⟩ := HD.out.below (Below.onto hB2 hbel) j hltj
          obtain ⟨y0, y1⟩ := HY.out j hltj
          have hszr := hbel.size
          gi_wp2_with (refine ⟨trivial, ?_⟩; gi_at_call 26; refine (callsIn_wide.2 (all_any _ _)).mono ?_; rintro e w4 ⟨rfl, rfl⟩)
          have bC := Boxed.new wr 35 (.int .u64 (y j))
          have bS := Boxed.new (wr.alloc (.cells #[.int .u64 (y j)] 35)) 35 (.int .u64 0)
          have bA := Boxed.new ((wr.alloc (.cells #[.int .u64 (y j)] 35)).alloc (.cells #[.int .u64 0] 35)) 35 (.int .u64 (z i))
          rw [World.size_alloc] at bS
          rw [World.size_alloc, World.size_alloc] at bA
          have hB4 : Below wr.heap.size wr (((wr.alloc (.cells #[.int .u64 (y j)] 35)).alloc (.cells #[.int .u64 0] 35)).alloc (.cells #[.int .u64 (z i)] 35)) := (((Below.refl _ wr).alloc (Nat.le_refl _) _).alloc (by simp) _).alloc (by simp; omega) _
          refine wpIn_rangeFunc_ownG rfl (by omega) (gf := 37) (lb := #[.pointer (some ⟨wr.heap.size + 2, 0, none⟩)]) rfl trivial (enters_of Try.func37 (by kernel_rfl) rfl)
            (all_stops 7 (by omega) (wr.heap.size + 2) (z i) z0 z1 _ bA) keepsBox_t (fun W l o o' _ hl hc _ => keepsBox_b W l o o' hl hc) (Below.refl _ _) (fun _ => rfl)
            (fun pre W => (Boxed W wr.heap.size 35 (.int .u64 (y j)) ∧ Boxed W (wr.heap.size + 1) 35 (.int .u64 (prSt m (y j) (pre.map (·.1))))) ∧ Below wr.heap.size wr W)
            (fun _ _ _ => False)
            (OwnFrom.and (OwnFrom.and (Own.from (boxed_own _ _ _) _) (Own.from (boxed_own _ _ _) _)) (ownFrom_below (Nat.le_refl _) (by simp; omega)))
            (fun _ _ _ _ _ hs _ _ => hs)
            ⟨⟨(bC.alloc _).alloc _, bS.alloc _⟩, hB4⟩
            (fun x => { tmps := #[.slice (some ⟨B1, o1, none⟩) n ca, .slice (some ⟨B2, o2, none⟩) m cb, v2, .pointer (some ⟨w.heap.size, 0, none⟩), v4, v5, v6, v7, v8, v9, .int .u64 (z i), v11, .pointer (some ⟨wr.heap.size, 0, none⟩), .pointer (some ⟨wr.heap.size + 1, 0, none⟩), .int .i64 (x.1 : Int), v15, v16, v17, v18, v19, v20, v21, v22, v23, v24, v25, v26, v27, v28, v29, v30, v31, v32, v33, v34, v35, v36, .slice (some ⟨B1, o1, none⟩) n ca, .int .i64 n, .int .i64 i, v40, v41, v42, .slice (some ⟨B2, o2, none⟩) m cb, .int .i64 m, .int .i64 j, .bool true, .pointer (some ⟨B2, o2 + j, none⟩), .int .u64 (y j), .int .u64 (z i), .func (.func 37) #[] #[.pointer (some ⟨wr.heap.size + 2, 0, none⟩)], .int .i64 (x.1 : Int), v52, v53, v54, v55, v56, v57, v58, v59, v60, v61, v62, v63, v64, v65, v66], defers := [] }) ?assign ?body ?done ?stop
          case assign =>
            intro l x W K hK
            gi_wp2
            exact hK
          case body =>
            rintro l pre x W ⟨⟨cC, cS⟩, hBW⟩ hlen
            have hx64 := x.2.1
            have bGW := Boxed.through bG2 (Below.onto hbel hBW)
            obtain ⟨hsh, hsl⟩ := HSh.out i j x.1 hlt hltj x.2.2
            have hpm := HPm.out i x.1 hlt x.2.2
            have hxm : (x.1 : Int) * (m : Int) = ((x.1 * m : Nat) : Int) := by simp
            have HS : Hid (prSt m (y j) ((pre ++ [x]).map (·.1)) = orI (prSt m (y j) (pre.map (·.1))) (shlI (y j) (x.1 * m))) := by
              show _ = _
              rw [List.map_append]; exact prSt_snoc _ _ _ _
            have HBd : Hid (0 ≤ prSt m (y j) (pre.map (·.1)) ∧ prSt m (y j) (pre.map (·.1)) < 18446744073709551616) := prSt_bd fun p hp => by
              obtain ⟨q', _, rfl⟩ := List.mem_map.1 hp
              exact (HSh.out i j q'.1 hlt hltj q'.2.2).2
            have HO : Hid (bits .or .u64 (prSt m (y j) (pre.map (·.1))) (IntKind.u64.wrap (y j * 2 ^ (x.1 * m))) = orI (prSt m (y j) (pre.map (·.1))) (shlI (y j) (x.1 * m))) := by
              show _ = _
              rw [hsh]; exact or_eq HBd.out.1 HBd.out.2 (shlI_nonneg _ _) hsl
            generalize prSt m (y j) (pre.map (·.1)) = S at *
            generalize x.1 * m = t at *
            have hwt : IntKind.i64.wrap (t : Int) = (t : Int) := by rw [IntKind.wrap_i64]; omega
            have kC := cC.cell
            have kS := cS.cell
            have fS := cS.frozen
            have kG := bGW.cell
            clear bC bS bA hB4 hrow hm hcy hsh hlen
            gi_wp2
            gi_region_with_o (fail)
            all_goals gi_wp2
            all_goals exact ⟨((KeepsOthers.setCell _ _ _).trans (KeepsOthers.drew _)).from _, fun h => Boxed.otherAt h (by omega) _ _, ⟨Boxed.otherAt cC (by omega) _ _, by show Boxed _ _ _ (.int .u64 (prSt m (y j) ((pre ++ [x]).map (·.1)))); rw [HS.out, ← HO.out]; exact cS.set _⟩, (hBW.setCell (p := ⟨wr.heap.size + 1, 0, none⟩) (by simp) _).drew⟩
          case done =>
            rintro D ys W hD rfl ⟨⟨cC, cS⟩, hBW⟩ hK
            have em : (memS (z i) 64).map (·.1) = mems (z i) := memS_map (z i) 64 (by omega)
            rw [em, HRow.out i j hlt hltj] at cS
            have HEE : Hid (encU (i * m + j + 1) G = encU (i * m + j) G ++ [.int .u64 (G (i * m + j))]) := HE.out _
            have hij := HIJ.out i j hlt hltj
            have hmlt : ∀ D, D ∈ ms → D < wr.heap.size := fun D hD => hm.lt hD
            have hM' : Hid (Marks W w2.heap.size (D :: ms)) := (hm.below hBW).cons (by simp at hD; omega) hK (fun h => by have := hmlt D h; simp at hD; omega)
            have hrowW := own_below hrow hBW
            have hBWw := Below.onto hbel hBW
            have hszW := hBWw.size
            have kS := cS.cell
            generalize G (i * m + j) = S at *
            have HAss : Hid (i * m + (j + 1) = i * m + j + 1) := by show _ = _; omega
            generalize i * m + j = t at *
            clear bC bS bA hB4 hrow hm hcy hBW cC
            gi_wp2_with (gi_at_builtin; refine wpListIn_append_own _ rfl _ _ 22 rfl w2.heap.size 35 i0 (.int .u64 0) 1 8 Try.underlying22 hi hz0 hz1 hz2 rfl (by decide) _ _ _ rfl (hrowW.alloc _) ⟨W.heap.size, 0, none⟩ 1 1 [.int .u64 S] rfl rfl (cell_one_new _ _ _) (by simp [Value.oneCell']) (by unfold maxLen; omega) (by omega) (by simp; omega) ?_; intro v' w5 hown' hgrow _)
            refine ⟨⟨j + 1, _, _, _, _, _, _, _, _, _, _, _, _, _, _, _, _, _, _, _, _, _, _, _, _, _, _, _, _, _, _, _, _, _, _, _, _, _, _, _, _, _, _, _, _, _, _, _, _, _, _, _, _, _, _, _, _, _, _, D :: ms, by omega, rfl, rfl, ?_, hM'.out.keeps (keeps_append hrowW hgrow), ?_⟩, ?_⟩
            · rw [HAss.out, HEE.out]; exact hown'
            · exact (hBWw.alloc hszW _).grown hgrow (by simp; omega) (own_ge hrowW)
            · simp [intOf]; omega
          case stop =>
            rintro D c pre W _ _ h _
            exact h.elim
        · obtain rfl : j = m := by omega
          have HI1 : Hid ((i + 1) * j = i * j + j) := Nat.succ_mul i j
          gi_wp2
          refine ⟨⟨i + 1, _, _, _, _, _, _, _, _, _, _, _, _, _, _, _, _, _, _, _, _, _, _, _, _, _, _, _, _, _, _, _, _, _, _, _, _, _, _, _, _, _, _, _, _, _, _, _, _, _, _, _, _, _, _, _, _, _, _, _, _, _, _, ms, by omega, rfl, rfl, ?_, hm, hbel⟩, ?_⟩
          · rw [HI1.out]; exact hrow
          · simp [intOf]; omega
    · obtain rfl : i = n := by omega
      rw [HQE.out] at hrow
      gi_wp2
      refine leaves_marks w2.heap.size (fun W => W.ownsRow w2.heap.size 35 1 u8 q (encU q G) ∧ Below w2.heap.size w2 W) ?_ ?_ ms wr hm ⟨hrow, hbel⟩
      · rintro W D ⟨h1, h2⟩ hD hK
        exact ⟨ownsRow_putObj h1 _ hK rfl, h2.trans (belowK_b (w := w2) (Nat.le_refl _) W D _ _ hD hK rfl rfl)⟩
      · rintro W ⟨h1, h2⟩
        exact ⟨.tuple #[u8, .int .i64 0], by simp [results, Try.f15, go_sem], gives_own rfl (own_mono h1 hB2.size) (Below.onto hB2 h2)⟩

end Go.Proofs.Ytcfpfddbbhphgab
