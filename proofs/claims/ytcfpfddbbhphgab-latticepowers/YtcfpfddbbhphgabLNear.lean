/- lattice's nearest: the bounds from which all bounds are come to, both ways. -/
import Derived.Test.YtcfpfddbbhphgabLRead
import Derived.Sort.CutIn
namespace Go.Proofs.Ytcfpfddbbhphgab
open Go.RowKit Go.Shelf
attribute [local go_sem] Oper.semAt_some
attribute [local go_sem ↓] wp_at wp_succ wp_zero wpIn_at wpIn_succ wpIn_zero

set_option maxRecDepth 100000 in
set_option maxHeartbeats 4000000 in
theorem near_up (ua da : Option Addr) (n uc dc : Nat) (z : Nat → Int) (a b : Nat) (w : World) (ha : a < n) (hb : b < n) (hc : Cells w .u64 ua n z) (hz : Bds n z) (hin : ∀ i j, i < n → tb (z i) j = true → j < n) :
    Calls Try.prog 32 #[.func (.func 33) #[.agg #[.slice ua n uc, .slice da n dc]] #[], .int .i64 a, .int .i64 b] w fun e w' => e = .returned (.int .u64 (jn n z a b)) ∧ Below w.heap.size w w' := by
  have HC : Hid (Cells w .u64 ua n z) := hc
  obtain ⟨a0, a1⟩ := hz a ha
  obtain ⟨b0, b1⟩ := hz b hb
  have HZ : Hid (Bds n z) := hz
  have hu0 := andI_nonneg (z a) (z b)
  have hu1 := andI_lt (z b) a1
  have HU : Hid (bits .and .u64 (z a) (z b) = andI (z a) (z b)) := and_eq a0 a1 b0 b1
  have HM : Hid (∀ j, tb (andI (z a) (z b)) j = true → j < n) := fun j hj => by
    rw [tb_andI, Bool.and_eq_true] at hj; exact hin a j ha hj.1
  have HJ : Hid (nearTo z (andI (z a) (z b)) (mems (andI (z a) (z b))) = jn n z a b) := near_jn z hu1 HM.out
  clear hc hz hin
  obtain ⟨wy, hwy⟩ : ∃ wy : Value, wy = .func (.func 33) #[.agg #[.slice ua n uc, .slice da n dc]] #[] := ⟨_, rfl⟩
  refine (callsIn_wide (n := 6)).1 ?_
  refine callsIn_of_wp_marks Try.func32 rfl trivial ?_ rfl
  simp only [Try.ntmps32, List.size_toArray, List.length_cons, List.length_nil, Nat.reduceAdd, Nat.reduceSub, Array.replicate_succ, Array.replicate_zero, List.push_toArray, List.append_toArray, List.nil_append, List.cons_append]
  have hmx : Try.prog.follows .mixedOrders = true := by kernel_rfl
  gi_wp2
  have hB0 : Below w.heap.size w (w.alloc (.cells #[.func (.func 33) #[.agg #[.slice ua n uc, .slice da n dc]] #[]] 64)).drew := ((Below.refl _ w).alloc (Nat.le_refl _) _).drew
  have hP0 : Boxed (w.alloc (.cells #[.func (.func 33) #[.agg #[.slice ua n uc, .slice da n dc]] #[]] 64)).drew w.heap.size 64 (.func (.func 33) #[.agg #[.slice ua n uc, .slice da n dc]] #[]) := Boxed.new w _ _
  have hB0' : Below w.heap.size w ((w.alloc (.cells #[.func (.func 33) #[.agg #[.slice ua n uc, .slice da n dc]] #[]] 64)).alloc (.cells #[.int .u64 0] 35)).drew := (((Below.refl _ w).alloc (Nat.le_refl _) _).alloc (by simp) _).drew
  have hP0' : Boxed ((w.alloc (.cells #[.func (.func 33) #[.agg #[.slice ua n uc, .slice da n dc]] #[]] 64)).alloc (.cells #[.int .u64 0] 35)).drew w.heap.size 64 (.func (.func 33) #[.agg #[.slice ua n uc, .slice da n dc]] #[]) := (Boxed.new w _ _).alloc _
  have hN0 : Boxed ((w.alloc (.cells #[.func (.func 33) #[.agg #[.slice ua n uc, .slice da n dc]] #[]] 64)).alloc (.cells #[.int .u64 0] 35)).drew (w.heap.size + 1) 35 (.int .u64 0) := by
    have := Boxed.new (w.alloc (.cells #[.func (.func 33) #[.agg #[.slice ua n uc, .slice da n dc]] #[]] 64)) 35 (.int .u64 0)
    rwa [World.size_alloc] at this
  have hP0c := hP0'.cell
  gi_cut [7] from 10 (fun p wx => ∃ B7, p = .pointer (some ⟨B7, 0, none⟩) ∧ w.heap.size < B7 ∧ Boxed wx B7 35 (.int .u64 (andI (z a) (z b))) ∧ Boxed wx w.heap.size 64 wy ∧ Below w.heap.size w wx)
  case first =>
    refine wpIn_calm ?_
    clear HJ HM HZ hu0 hu1
    have C0 := HC.out.below hB0
    have C0' := HC.out.below hB0'
    gi_region_with_o (first
      | (refine ⟨trivial, ?_⟩; gi_at_call 33; with_reducible refine (callsIn_wide.2 (above_at ua da n n uc dc z a _ ha (by with_reducible assumption))).mono ?_; rintro e w1 ⟨rfl, hb1⟩; have C1 : Cells w1 .u64 ua n z := Cells.below (by with_reducible assumption) hb1; have hX1 : Below w.heap.size w w1 := Below.onto (by with_reducible assumption) hb1; have hq1 : Boxed w1 w.heap.size 64 (.func (.func 33) #[.agg #[.slice ua n uc, .slice da n dc]] #[]) := Boxed.through (by with_reducible assumption) hb1; (first | (have hn1 : Boxed w1 (w.heap.size + 1) 35 (.int .u64 0) := Boxed.through (by with_reducible assumption) hb1) | skip); have c1 := hq1.cell; have hq1' := hq1.alloc (.cells #[.int .u64 0] 35); have c1' := hq1'.cell; have C1' := C1.below ((Below.refl _ w1).alloc (Nat.le_refl _) (.cells #[.int .u64 0] 35)); have hX1' := hX1.alloc hX1.size (.cells #[.int .u64 0] 35); have hn1' := Boxed.new w1 35 (.int .u64 0))
      | (refine ⟨trivial, ?_⟩; gi_at_call 33; with_reducible refine (callsIn_wide.2 (above_at ua da n n uc dc z b _ hb (by with_reducible assumption))).mono ?_; rintro e w2 ⟨rfl, hb2⟩; have hX2 : Below w.heap.size w w2 := Below.onto (by with_reducible assumption) hb2; have hq2 : Boxed w2 w.heap.size 64 (.func (.func 33) #[.agg #[.slice ua n uc, .slice da n dc]] #[]) := Boxed.through (by with_reducible assumption) hb2; (first | (have hn2 : Boxed w2 (w.heap.size + 1) 35 (.int .u64 0) := Boxed.through (by with_reducible assumption) hb2; have k2 := hn2.cell; have f2 := hn2.frozen) | (have hn2 : Boxed w2 w1.heap.size 35 (.int .u64 0) := Boxed.through (by with_reducible assumption) hb2; have k2 := hn2.cell; have f2 := hn2.frozen) | skip)))
    all_goals gi_wp2
    all_goals gi_meet
    all_goals first
      | (refine ⟨w2.heap.size, rfl, hq2.lt, ?_, by rw [hwy]; exact hq2.alloc _, hX2.alloc hX2.size _⟩; rw [HU.out]; exact Boxed.new _ _ _)
      | (refine ⟨w1.heap.size, rfl, hq1.lt, ?_, by rw [hwy]; exact hq2.other (by have := hq1.lt; omega) _, hX2.setCell (p := ⟨w1.heap.size, 0, none⟩) (by have := hq1.lt; simp; omega) _⟩; rw [HU.out]; exact hn2.set _)
      | (refine ⟨w.heap.size + 1, rfl, by omega, ?_, by rw [hwy]; exact hq2.other (by omega) _, hX2.setCell (p := ⟨w.heap.size + 1, 0, none⟩) (by simp) _⟩; rw [HU.out]; exact hn2.set _)
  case rest =>
    clear hB0 hP0 hB0' hP0' hN0 hP0c
    obtain ⟨wo, hwo⟩ : ∃ wo, wo = wc := ⟨_, rfl⟩
    subst hwo
    obtain ⟨B7, rfl, h7, bU, bW, hB⟩ := hcut
    have kU := bU.cell
    subst hwy
    have hsz := hB.size
    have b7lt := bU.lt
    gi_wp2_with (refine ⟨trivial, ?_⟩; gi_at_call 26; refine (callsIn_wide.2 (all_any _ _)).mono ?_; rintro e w3 ⟨rfl, rfl⟩)
    have bS := Boxed.new wo 35 (.int .u64 0)
    have bA := Boxed.new (wo.alloc (.cells #[.int .u64 0] 35)) 35 (.int .u64 (andI (z a) (z b)))
    rw [World.size_alloc] at bA
    have hB0 : Below w.heap.size w ((wo.alloc (.cells #[.int .u64 0] 35)).alloc (.cells #[.int .u64 (andI (z a) (z b))] 35)) := (hB.alloc hsz _).alloc (by simp; omega) _
    generalize andI (z a) (z b) = u at *
    refine wpIn_rangeFunc_ownG rfl (by omega) (gf := 37) (lb := #[.pointer (some ⟨wo.heap.size + 1, 0, none⟩)]) rfl trivial (enters_of Try.func37 (by kernel_rfl) rfl)
      (all_stops 5 (by omega) (wo.heap.size + 1) u hu0 hu1 _ bA) keepsBox_t (fun W l o o' _ hl hc _ => keepsBox_b W l o o' hl hc) (Below.refl _ _) (fun _ => rfl)
      (fun pre W => (Boxed W B7 35 (.int .u64 u) ∧ Boxed W w.heap.size 64 (.func (.func 33) #[.agg #[.slice ua n uc, .slice da n dc]] #[])) ∧ (Boxed W wo.heap.size 35 (.int .u64 (nearTo z u (pre.map (·.1)))) ∧ Below w.heap.size w W))
      (fun _ _ _ => False)
      (OwnFrom.and (OwnFrom.and (Own.from (boxed_own _ _ _) _) (Own.from (boxed_own _ _ _) _)) (OwnFrom.and (Own.from (boxed_own _ _ _) _) (ownFrom_below (Nat.le_refl _) (by simp; omega))))
      (fun _ _ _ _ _ hs _ _ => hs)
      ⟨⟨(bU.alloc _).alloc _, (bW.alloc _).alloc _⟩, bS.alloc _, hB0⟩
      (fun x => { tmps := #[.func (.func 33) #[.agg #[.slice ua n uc, .slice da n dc]] #[], .int .i64 a, .int .i64 b, .pointer (some ⟨w.heap.size, 0, none⟩), undef, undef, .int .u64 0, .pointer (some ⟨B7, 0, none⟩), .pointer (some ⟨wo.heap.size, 0, none⟩), .int .i64 (x.1 : Int), u10, u11, u12, u13, u14, u15, u16, .int .u64 u, .func (.func 37) #[] #[.pointer (some ⟨wo.heap.size + 1, 0, none⟩)], .int .i64 (x.1 : Int), u20, u21, u22, u23, u24, u25, u26, u27, u28, u29, u30], defers := [] }) ?assign ?body ?done ?stop
    case assign =>
      intro l x W K hK
      gi_wp2
      exact hK
    case body =>
      rintro l pre x W ⟨⟨cU, cW⟩, cS, hBW⟩ hlt
      have hx64 := x.2.1
      have hxn := HM.out x.1 x.2.2
      obtain ⟨z0, z1⟩ := HZ.out x.1 hxn
      have HT : Hid ((bits .andNot .u64 u (z x.1) == 0) = subB u (z x.1)) := by
        show _ = _
        rw [an_eq hu0 hu1 z0 z1]; exact an_sub hu1 z0 z1
      have HS : Hid (0 ≤ nearTo z u (pre.map (·.1)) ∧ nearTo z u (pre.map (·.1)) < 18446744073709551616) := nearTo_bd z u fun q hq => by
        obtain ⟨y, _, rfl⟩ := List.mem_map.1 hq; exact y.2.1
      have k1 := cU.cell
      have k2 := cW.cell
      have CW : Cells W.drew .u64 ua n z := HC.out.below hBW.drew
      clear bS bA hB0 bU bW kU
      have hsb : ∃ B, subB u (z x.1) = B := ⟨_, rfl⟩
      obtain ⟨Bo, hsb⟩ := hsb
      have ht : (bits .andNot .u64 u (z x.1) == 0) = Bo := by rw [HT.out, hsb]
      have HB : Hid (subB u (z x.1) = Bo) := hsb
      clear hsb HT
      gi_wp2
      gi_cut [25] from 20 (fun s25 wx => s25 = .bool Bo ∧ Below W.heap.size W wx)
      case first =>
        refine wpIn_calm ?_
        clear HB HS HJ HM HZ HU HC
        gi_region_with_o (refine ⟨trivial, ?_⟩; gi_at_call 33; refine (CallsIn.inRound l (callsIn_wide.2 (above_at ua da n n uc dc z x.1 _ hxn (by with_reducible assumption)))).mono ?_; rintro e W1 ⟨rfl, hb1⟩; have hbW : Below W.heap.size W W1 := Below.onto (Below.refl _ W).drew hb1; have kB := (Boxed.through cU hbW).cell)
        all_goals gi_wp2
        all_goals gi_meet
        all_goals exact ⟨rfl, hbW⟩
      case rest =>
        obtain ⟨rfl, hbW⟩ := hcut
        clear CW k1 k2 ht
        have ne1 : B7 ≠ wo.heap.size := by omega
        have ne2 : w.heap.size ≠ wo.heap.size := by omega
        have ne3 : wo.heap.size + 1 ≠ wo.heap.size := by omega
        have cU1 := Boxed.through cU hbW
        have cW1 := Boxed.through cW hbW
        have cS1 := Boxed.through cS hbW
        have hB1 := Below.onto hBW hbW
        cases Bo
        · have HN : Hid (nearTo z u ((pre ++ [x]).map (·.1)) = nearTo z u (pre.map (·.1))) := by
            show _ = _
            rw [List.map_append]; exact nearTo_miss HB.out
          gi_wp2
          exact ⟨(keeps_below hbW).from _, fun h => Boxed.through h hbW, ⟨cU1, cW1⟩, by show Boxed _ _ _ (.int .u64 (nearTo z u ((pre ++ [x]).map (·.1)))); rw [HN.out]; exact cS1, hB1⟩
        · have HN : Hid (nearTo z u ((pre ++ [x]).map (·.1)) = setI (nearTo z u (pre.map (·.1))) x.1) := by
            show _ = _
            rw [List.map_append]; exact nearTo_hit HB.out
          generalize nearTo z u (pre.map (·.1)) = S at *
          have HO : Hid (bits .or .u64 S (IntKind.u64.wrap (2 ^ x.1)) = setI S x.1) := or_bit' HS.out.1 HS.out.2 hx64
          have kS := cS1.cell
          have fS := cS1.frozen
          gi_wp2
          gi_region_with_o (fail)
          all_goals gi_wp2
          all_goals exact ⟨(((keeps_below hbW).trans (KeepsOthers.setCell _ _ _)).trans (KeepsOthers.drew _)).from _, fun h => Boxed.otherAt (Boxed.through h hbW) ne3 _ _, ⟨Boxed.otherAt cU1 ne1 _ _, Boxed.otherAt cW1 ne2 _ _⟩, by show Boxed _ _ _ (.int .u64 (nearTo z u ((pre ++ [x]).map (·.1)))); rw [HN.out, ← HO.out]; exact cS1.set _, (hB1.setCell (p := ⟨wo.heap.size, 0, none⟩) (by simp; omega) _).drew⟩
    case done =>
      rintro D ys W hD rfl ⟨⟨cU, cW⟩, cS, hBW⟩ hK
      have em : (memS u 64).map (·.1) = mems u := memS_map u 64 (by omega)
      rw [em, HJ.out] at cS
      have kS := cS.cell
      clear bS bA hB0 bU bW kU
      gi_wp2
      refine ⟨by simp, .inl ⟨_, _, rfl, run_takeDeferred hK, ?_⟩⟩
      exact ⟨_, results_tmp rfl _ _ _, rfl, hBW.trans (belowK_b (w := w) (Nat.le_refl _) W D _ _ (by simp at hD; omega) hK rfl rfl)⟩
    case stop =>
      rintro D c pre W _ _ h _
      exact h.elim

end Go.Proofs.Ytcfpfddbbhphgab
