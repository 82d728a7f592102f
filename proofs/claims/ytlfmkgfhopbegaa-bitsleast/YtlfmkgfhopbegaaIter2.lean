/- bits.List and bits.Nth: loops over the iterator bits.All. -/
import Derived.Test.YtlfmkgfhopbegaaIter
namespace Go.Proofs.Ytlfmkgfhopbegaa
open Go.RowKit Go.Shelf
attribute [local go_sem] Oper.semAt_some

theorem encS (s : Int) (pre : List (Mem s)) (x : Mem s) : encL ((pre ++ [x]).map (·.1)) = encL (pre.map (·.1)) ++ [Value.int .i64 (x.1 : Int)] := by
  rw [List.map_append]; exact encL_snoc _ _

set_option maxRecDepth 100000 in
set_option maxHeartbeats 2000000 in
theorem list_own (s : Int) (w : World) (hs0 : 0 ≤ s) (hs1 : s < 18446744073709551616) :
    Calls Try.prog 13 #[.int .u64 s] w fun e w' => ∃ v, e = .returned v ∧ w'.ownsRow w.heap.size 3 1 v (mems s).length (encL (mems s)) ∧ Below w.heap.size w w' := by
  obtain ⟨i0, hi, hz0, hz1, hz2⟩ := info_parts Try.info3
  have hle : (mems s).length ≤ 64 := memsTo_le s 64
  refine (callsIn_wide (n := 6)).1 ?_
  refine callsIn_of_wp_marks Try.func13 rfl trivial ?_ rfl
  simp only [Try.ntmps13, List.size_toArray, List.length_cons, List.length_nil, Nat.reduceAdd, Nat.reduceSub, Array.replicate_succ, Array.replicate_zero, List.push_toArray, List.append_toArray, List.nil_append, List.cons_append]
  gi_wp2_with (first
    | (refine ⟨trivial, ?_⟩; gi_at_call 21; refine (callsIn_wide.2 (size_any _ _ hs0 hs1)).mono ?_; rintro e w' ⟨rfl, rfl⟩)
    | (gi_at_make; refine wpListIn_make_own _ rfl _ _ 22 rfl w'.heap.size 3 i0 (.int .i64 0) 1 Try.underlying22 hi hz0 hz1 .i64 .i64 _ (mems s).length rfl rfl rfl (by rw [hz2]; omega) (by unfold maxLen; omega) (Nat.le_refl _) ?_; intro w1 hown0 hgrow0)
    | (refine ⟨trivial, ?_⟩; gi_at_call 16; refine (callsIn_wide.2 (all_any _ _)).mono ?_; rintro e w2 ⟨rfl, rfl⟩))
  have bL := Boxed.new w1 22 (Value.slice (some ⟨w'.heap.size, 0, none⟩) 0 (mems s).length)
  have bS := Boxed.new (w1.alloc (.cells #[Value.slice (some ⟨w'.heap.size, 0, none⟩) 0 (mems s).length] 22)) 23 (.int .u64 s)
  rw [World.size_alloc] at bS
  have hB1 : Below w'.heap.size w' w1 := (Below.refl _ w').grown hgrow0 (Nat.le_refl _) (fun k e => by cases e)
  have hsz := hB1.size
  have hB0 : Below w'.heap.size w' ((w1.alloc (.cells #[Value.slice (some ⟨w'.heap.size, 0, none⟩) 0 (mems s).length] 22)).alloc (.cells #[.int .u64 s] 23)) := (hB1.alloc hsz _).alloc (by simp; omega) _
  refine wpIn_rangeFunc_ownG rfl (by omega) (gf := 39) (lb := #[.pointer (some ⟨w1.heap.size + 1, 0, none⟩)]) rfl trivial (enters_of Try.func39 (by kernel_rfl) rfl)
    (all_stops 5 (by omega) (w1.heap.size + 1) s hs0 hs1 _ bS) keepsBox_t (fun W l o o' _ hl hc _ => keepsBox_b W l o o' hl hc) (Below.refl _ _) (fun _ => rfl)
    (fun pre W => (∃ v, Boxed W w1.heap.size 22 v ∧ W.ownsRow w'.heap.size 3 1 v pre.length (encL (pre.map (·.1))) ∧ True) ∧ Below w'.heap.size w' W)
    (fun _ _ _ => False)
    (OwnFrom.and (Own.from (holdsRow_own w'.heap.size w1.heap.size 22 3 1 (fun pre : List (Mem s) => pre.length) (fun pre => encL (pre.map (·.1))) (fun _ _ => True)) _) (ownFrom_below (Nat.le_refl _) (by simp; omega)))
    (fun _ _ _ _ _ hs _ _ => hs)
    ⟨⟨_, bL.alloc _, (hown0.alloc _).alloc _, trivial⟩, hB0⟩
    (fun x => { tmps := #[.int .u64 s, undef, .slice none 0 0, .pointer (some ⟨w1.heap.size, 0, none⟩), .int .i64 (x.1 : Int), .int .u64 s, .int .i64 (mems s).length, .slice (some ⟨w'.heap.size, 0, none⟩) 0 (mems s).length, .int .u64 s, .func (.func 39) #[] #[.pointer (some ⟨w1.heap.size + 1, 0, none⟩)], .int .i64 (x.1 : Int), undef, undef, undef, undef, undef], defers := [] }) ?assign ?body ?done ?stop
  case assign =>
    intro l x W K hK
    gi_wp2
    exact hK
  case body =>
    rintro l pre x W ⟨⟨v, hv, hrow, _⟩, hB⟩ hlt
    have hc := hv.cell
    gi_wp2_with (gi_at_builtin; refine wpListIn_append_own _ rfl _ _ 22 rfl w'.heap.size 3 i0 (.int .i64 0) 1 8 Try.underlying22 hi hz0 hz1 hz2 rfl (by decide) _ _ _ rfl (hrow.alloc _) ⟨W.heap.size, 0, none⟩ 1 1 [.int .i64 (x.1 : Int)] rfl rfl (cell_one_new _ _ _) (by simp [Value.oneCell']) (by unfold maxLen; omega) (by omega) (by have := hB.size; simp; omega) ?_; intro v' w3 hown' hgrow _; obtain ⟨g', cap', rfl⟩ := ownsRow_succ hown'; obtain ⟨hv1, hv2, hr2, hk2, hb2⟩ := hv.appended (by decide) hrow hB.size hsz hown' hgrow; have hc1 := hv1.cell; have hf1 := hv1.frozen)
    refine ⟨hk2.from _, ?_, ⟨_, hv2, by rw [encS, List.length_append]; exact hr2, trivial⟩, hB.trans hb2⟩
    intro hbx
    exact ((hbx.alloc _).kept hgrow (hbx.not_row (by decide) hrow)).kept (grownBy_setCell' _ _ _) (by simp)
  case done =>
    rintro D ys W hD rfl ⟨⟨v, hv, hrow, _⟩, hB⟩ hK
    have hc := hv.cell
    gi_wp2
    refine ⟨by simp, .inl ⟨_, _, rfl, run_takeDeferred hK, ?_⟩⟩
    have hrow2 := ownsRow_putObj hrow (.deferred none) hK rfl
    have em : (memS s 64).map (·.1) = mems s := memS_map s 64 (by omega)
    have el : (memS s 64).length = (mems s).length := by rw [← em, List.length_map]
    rw [em, el] at hrow2
    exact ⟨_, results_tmp rfl _ _ _, v, rfl, hrow2, hB.trans (belowK_b (w := w') (Nat.le_refl _) W D _ _ (by simp at hD; omega) hK rfl rfl)⟩
  case stop =>
    rintro D c pre W _ _ h _
    exact h.elim

end Go.Proofs.Ytlfmkgfhopbegaa
