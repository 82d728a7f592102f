/- All below a node, told to the statement's own yield. -/
import Derived.Test.YtlphombjejgbiaaDNew
import Derived.Deep.RegionHeld3
import Derived.Lib.QuietBelow
namespace Go.Proofs.Ytlphombjejgbiaa
open Go.RowKit Go.Shelf
attribute [local go_sem] Oper.semAt_some
set_option maxRecDepth 100000

set_option maxHeartbeats 2000000 in
/-- the statement's yield -/
theorem lawYield_k (C M : Nat) (m : Nat) (x : Int) (v : Value) (n : Nat) (xs : List Value) (base : Nat) (W : World) (hv : Boxed W C 35 v) (hM : Boxed W M 3 (.int .i64 (m : Int))) (hrow : W.ownsRow base 3 1 v n xs) (hbase : base ≤ W.heap.size) (hn : n ≤ 100000) (hMb : M < base) :
    Calls Try.prog 39 #[.int .i64 x, .pointer (some ⟨C, 0, none⟩), .pointer (some ⟨M, 0, none⟩)] W fun e W' => e = .returned (.bool (decide ((n : Int) + 1 < (m : Int)))) ∧ ∃ v', Boxed W' C 35 v' ∧ W'.ownsRow base 3 1 v' (n + 1) (xs ++ [.int .i64 x]) ∧ But (fun b => b = C ∨ base ≤ b) W W' := by
  obtain ⟨i0, hi, hz0, hz1, hz2⟩ := info_parts Try.info3
  have hc := hv.cell
  have hMS : ¬ (M = C ∨ base ≤ M) := by
    rintro (e | e)
    · rw [e] at hM
      have h9 := (show W.heap[C]? = _ from hv).symm.trans hM
      injection h9 with h9
      injection h9 with _ h9
      exact absurd h9 (by decide)
    · omega
  have HM : Hid (Boxed W M 3 (.int .i64 (m : Int))) := hM
  clear hM
  go_enter Try.func39, Try.ntmps39
  go_wp2_with (at_builtin; refine wpList_append_own _ rfl _ _ 35 rfl base 3 i0 (.int .i64 0) 1 8 Try.underlying35 hi hz0 hz1 hz2 rfl (by decide) _ _ _ rfl (hrow.alloc _) ⟨W.heap.size, 0, none⟩ 1 1 [.int .i64 x] rfl rfl (cell_one_new _ _ _) (by simp [Value.oneCell']) (by unfold maxLen; omega) (by omega) (by simp; omega) ?_; intro v' w3 hown' hgrow _; obtain ⟨g', cap', rfl⟩ := ownsRow_succ hown'; have hv1 := (hv.alloc _).kept hgrow (hv.not_row (by decide) hrow); have hc1 := hv1.cell; have hf1 := hv1.frozen; have hv2 := hv1.set (.slice (some ⟨g', 0, none⟩) (n + 1) cap'); have hr2 := hown'.kept (grownBy_setCell' w3 C (.slice (some ⟨g', 0, none⟩) (n + 1) cap')) (.inr (hv1.not_row (by decide) hown').symm); have hbut : But (fun b => b = C ∨ base ≤ b) W (w3.setCell ⟨C, 0, none⟩ (.slice (some ⟨g', 0, none⟩) (n + 1) cap')) := (((But.refl _ W).alloc _).grown hgrow (fun k e => .inl (.inr (own_ge hrow k e)))).setCell (.inl rfl) _; have kM := (Boxed.but HM.out hbut hMS).cell; have hc2 := hv2.cell)
  go_ret
  exact ⟨rfl, _, hv2, hr2, hbut⟩
theorem eql_law_nil (C M : Nat) (w : World) : Sem.run Try.prog (binOp BinOp.eql 75 (Value.func (Fn.func 39) #[] #[.pointer (some ⟨C, 0, none⟩), .pointer (some ⟨M, 0, none⟩)]) Value.nilFunc) w = .ok (.bool false) w := by kernel_rfl

/-- what Below tells -/
def belT (N : Nat) (L : List Fe) (x : Int) : List Nat := if hasF N L x then blw L x.toNat else []
set_option maxHeartbeats 4000000 in
theorem below1_k {W : World} {a : Fp} {N : Nat} {L : List Fe} {z : Nat → Int} (h : Fx W a N L z) (x : Int) (C M B1 B2 m : Nat) (hm : 1 ≤ m) (bC : Boxed W C 35 (.slice none 0 0)) (bM : Boxed W M 3 (.int .i64 (m : Int))) (b1 : Boxed W B1 24 a.ptr) (b2 : Boxed W B2 3 (.int .i64 x)) (hoC : ¬ a.has C) :
    Calls Try.prog 71 #[.func (.func 39) #[] #[.pointer (some ⟨C, 0, none⟩), .pointer (some ⟨M, 0, none⟩)], .pointer (some ⟨B1, 0, none⟩), .pointer (some ⟨B2, 0, none⟩)] W fun e W' =>
      e = .returned (.tuple #[]) ∧ ∃ v, Boxed W' C 35 v ∧ W'.ownsRow W.heap.size 3 1 v ((belT N L x).take m).length (encL ((belT N L x).take m)) ∧ But (fun b => b = C) W W' := by
  have hh := fhas_any h x
  have c1 := b1.cell
  have c2 := b2.cell
  have hnil := eql_law_nil C M
  have H0 : Hid (Fx W a N L z) := h
  have HBx : Hid (Boxed W C 35 (.slice none 0 0) ∧ Boxed W M 3 (.int .i64 (m : Int)) ∧ Boxed W B1 24 a.ptr ∧ Boxed W B2 3 (.int .i64 x) ∧ ¬ a.has C) := ⟨bC, bM, b1, b2, hoC⟩
  clear h bC bM b1 b2 hoC
  cases hq : hasF N L x
  · have HT : Hid (belT N L x = []) := by show _ = _; simp [belT, hq]
    rw [hq] at hh
    clear hq
    go_enter Try.func71, Try.ntmps71
    go_wp2_with fail
    refine hh.mono ?_
    rintro e w2 ⟨rfl, hb2⟩
    go_wp2_with fail
    refine bodyPost_ret (results_none rfl _ _ _) rfl ?_
    rw [HT.out, List.take_nil]
    exact ⟨rfl, _, Boxed.but HBx.out.1 (But.of (S := fun _ => False) hb2) (fun h => h), World.ownsRow_nil _ _ _ _, But.of hb2⟩
  · have HT : Hid (belT N L x = blw L x.toNat) := by show _ = _; simp [belT, hq]
    have hin : inR N x = true := by unfold hasF at hq; rw [Bool.and_eq_true] at hq; exact hq.1
    rw [hq] at hh
    clear hq
    obtain ⟨k, rfl, hk⟩ := inR_nat hin
    clear hin
    go_enter Try.func71, Try.ntmps71
    go_wp2_with fail
    refine hh.mono ?_
    rintro e w2 ⟨rfl, hb2⟩
    have h2 := H0.out.below hb2
    have H2 : Hid (Fx w2 a N L z ∧ Below W.heap.size W w2) := ⟨h2, hb2⟩
    have d1 : w2.cell? ⟨B1, 0, none⟩ = some a.ptr := (show Boxed w2 B1 _ _ from (hb2.block _ HBx.out.2.2.1.lt).trans HBx.out.2.2.1).cell
    have d2 : w2.cell? ⟨B2, 0, none⟩ = some (.int .i64 (k : Int)) := (show Boxed w2 B2 _ _ from (hb2.block _ HBx.out.2.2.2.1.lt).trans HBx.out.2.2.2.1).cell
    have c := h2.pc.cell
    clear h2 hb2 hh c1 c2
    go_wp2_with fail
    have hbel := fun W' (hW : Below w2.heap.size w2 W') => below_k a.k a.o N L H2.out.1.ok H2.out.1.hN k hk W' (H2.out.1.below hW).k17 (H2.out.1.below hW).kv
    have toS : ∀ W', Below w2.heap.size w2 W' → W'.cell? ⟨B1, 0, none⟩ = some a.ptr ∧ W'.cell? ⟨B2, 0, none⟩ = some (.int .i64 (k : Int)) ∧ W'.cell? ⟨a.p, 0, none⟩ = some (.pointer (some ⟨a.k, 0, none⟩)) := fun W' hW => ⟨(hW.cell (p := ⟨B1, 0, none⟩) (cell_lt d1)).trans d1, (hW.cell (p := ⟨B2, 0, none⟩) (cell_lt d2)).trans d2, (hW.cell (p := ⟨a.p, 0, none⟩) (cell_lt c)).trans c⟩
    clear d1 d2 c
    go_region_held3 (fun W' => W'.cell? ⟨B1, 0, none⟩ = some a.ptr ∧ W'.cell? ⟨B2, 0, none⟩ = some (.int .i64 (k : Int)) ∧ W'.cell? ⟨a.p, 0, none⟩ = some (.pointer (some ⟨a.k, 0, none⟩))) (first | (with_reducible assumption) | exact toS _ (by assumption) | exact toS _ (Below.refl _ _).drew | exact toS _ (Below.refl _ _)) (first | (go_at_call 55; (with_reducible refine (hbel _ ((Below.refl _ _).drew)).mono ?_); rintro v w5 ⟨v0, rfl, own5, hb5, g5, rfl⟩; have e5 : Below w2.heap.size w2 w5 := (Below.refl _ w2).drew.trans hb5))
    have hlen := blw_len H2.out.1.ok k
    have hN := H2.out.1.hN
    obtain ⟨T, hT⟩ : ∃ T, blw L k = T := ⟨_, rfl⟩
    have HT2 : Hid (belT N L (k : Int) = T) := by show _ = _; rw [HT.out, ← hT]; rfl
    rw [hT] at own5 hlen
    rw [hT]
    have bel5 : Below W.heap.size W w5 := Below.onto H2.out.2 e5
    have HC5 : Hid (Boxed w5 C 35 (.slice none 0 0) ∧ Boxed w5 M 3 (.int .i64 (m : Int)) ∧ C < W.heap.size ∧ M < W.heap.size ∧ W.heap.size ≤ w5.heap.size) :=
      ⟨(bel5.block C HBx.out.1.lt).trans HBx.out.1, (bel5.block M HBx.out.2.1.lt).trans HBx.out.2.1, HBx.out.1.lt, HBx.out.2.1.lt, bel5.size⟩
    have HB5 : Hid (Below W.heap.size W w5) := bel5
    obtain ⟨ad, cap, hv, HCl, hge⟩ := own_sep own5
    have HG : Hid (Cells w5 .i64 ad T.length (atL T) ∧ ∀ b o, ad = some ⟨b, o, none⟩ → W.heap.size ≤ b ∧ b < w5.heap.size) := ⟨HCl, fun b o e => ⟨Nat.le_trans H2.out.2.size (hge b o e), by
      rw [e] at hv
      injection hv with hv
      injection hv with hv
      injection hv with hv
      have := (own5.lt g5 rfl).2
      omega⟩⟩
    have hcap : ad = some ⟨g5, 0, none⟩ := by injection hv with hv; exact hv.symm
    subst hcap
    clear hv HCl hge own5 hb5 e5 bel5 toS hbel hT H2 H0 HT HBx hk
    go_wp2_with fail
    go_loopw [21] (fun i wr => ∃ (j : Nat) (v : Value), j ≤ T.length ∧ j < m ∧ i = .int .i64 j ∧ Hid (Boxed wr C 35 v ∧ wr.ownsRow w5.heap.size 3 1 v (T.take j).length (encL (T.take j)) ∧ But (fun b => b = C ∨ w5.heap.size ≤ b) w5 wr)) (fun i _ => T.length - (intOf i).toNat)
    case atStart => exact ⟨0, .slice none 0 0, Nat.zero_le _, by omega, rfl, HC5.out.1, World.ownsRow_nil _ _ _ _, But.refl _ _⟩
    case round =>
      obtain ⟨j, v, hj, hjm, rfl, hI⟩ := hrel
      by_cases hlt : j < T.length
      · obtain ⟨b, off, e1, hcell⟩ := HG.out.1 j hlt
        have hgb := HG.out.2 g5 0 rfl
        cases e1
        rw [Nat.zero_add] at hcell
        have hcw := hI.out.2.2.cell hcell (by
          rintro (e | e)
          · have := HC5.out.2.2.1
            omega
          · omega)
        have hy := lawYield_k C M m (atL T j) v (T.take j).length (encL (T.take j)) w5.heap.size wr hI.out.1 (Boxed.but HC5.out.2.1 hI.out.2.2 (by
          rintro (e | e)
          · have h1 := HC5.out.1
            have h2 := HC5.out.2.1
            rw [e] at h2
            have h9 := (show w5.heap[C]? = _ from h1).symm.trans h2
            injection h9 with h9
            injection h9 with _ h9
            exact absurd h9 (by decide)
          · have := HC5.out.2.2.2.1; have := HC5.out.2.2.2.2; omega)) hI.out.2.1 hI.out.2.2.size (by rw [List.length_take]; omega) (by have := HC5.out.2.2.2.1; have := HC5.out.2.2.2.2; omega)
        have e3 : (T.take j).length = j := by rw [List.length_take]; omega
        have e4 : encL (T.take j) ++ [.int .i64 (atL T j)] = encL (T.take (j + 1)) := by
          rw [take_at hlt]
          simp [encL, atL]
        rw [e3, e4] at hy
        clear e3 e4 hcell hgb
        have HI : Hid (But (fun b => b = C ∨ w5.heap.size ≤ b) w5 wr) := hI.out.2.2
        by_cases hm1 : j + 1 < m
        · have e5 : decide ((j : Int) + 1 < (m : Int)) = true := by simp; omega
          rw [e5] at hy
          clear e5 hI
          go_wp2_with fail
          refine hy.mono ?_
          rintro e w6 ⟨rfl, v6, h61, h62, h63⟩
          have H6 : Hid (Boxed w6 C 35 v6 ∧ w6.ownsRow w5.heap.size 3 1 v6 (j + 1) (encL (T.take (j + 1))) ∧ But (fun b => b = C ∨ w5.heap.size ≤ b) w5 w6) := ⟨h61, h62, HI.out.trans h63⟩
          clear h61 h62 h63 hy hcw
          go_wp2_with fail
          go_roundw
          case rel => exact ⟨j + 1, v6, by omega, by omega, by go_num, H6.out.1, by rw [show (T.take (j + 1)).length = j + 1 by rw [List.length_take]; omega]; exact H6.out.2.1, H6.out.2.2⟩
          case measure => simp [intOf]; omega
        · have e5 : decide ((j : Int) + 1 < (m : Int)) = false := by simp; omega
          rw [e5] at hy
          have hm2 : m = j + 1 := by omega
          clear e5 hI
          go_wp2_with fail
          refine hy.mono ?_
          rintro e w6 ⟨rfl, v6, h61, h62, h63⟩
          have H6 : Hid (Boxed w6 C 35 v6 ∧ w6.ownsRow w5.heap.size 3 1 v6 (j + 1) (encL (T.take (j + 1))) ∧ But (fun b => b = C ∨ w5.heap.size ≤ b) w5 w6) := ⟨h61, h62, HI.out.trans h63⟩
          clear h61 h62 h63 hy hcw
          go_wp2_with fail
          refine bodyPost_ret (results_none rfl _ _ _) rfl ?_
          rw [HT2.out, hm2, show (T.take (j + 1)).length = j + 1 by rw [List.length_take]; omega]
          exact ⟨rfl, v6, H6.out.1, own_mono H6.out.2.1 HC5.out.2.2.2.2, (But.of HB5.out).onto H6.out.2.2 fun b hb => hb.elim .inl fun h => .inr (by have := HC5.out.2.2.2.2; omega)⟩
      · obtain rfl : j = T.length := by omega
        have HI := hI
        have HJ : Hid (T.length < m) := hjm
        clear hI
        go_wp2_with fail
        refine bodyPost_end (results_none rfl _ _ _) rfl ?_
        rw [HT2.out, List.take_of_length_le (by have := HJ.out; omega)]
        rw [List.take_of_length_le (Nat.le_refl _)] at HI
        exact ⟨rfl, v, HI.out.1, own_mono HI.out.2.1 HC5.out.2.2.2.2, (But.of HB5.out).onto HI.out.2.2 fun b hb => hb.elim .inl fun h => .inr (by have := HC5.out.2.2.2.2; omega)⟩
end Go.Proofs.Ytlphombjejgbiaa
