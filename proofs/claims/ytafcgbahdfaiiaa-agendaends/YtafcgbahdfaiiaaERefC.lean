/- The document's Set, First, Pop. -/
import Derived.Test.YtafcgbahdfaiiaaERefB
namespace Go.Proofs.Ytafcgbahdfaiiaa
open Go.RowKit Go.Sort
set_option maxRecDepth 100000

theorem encE_set {U V : List En} {e : En} {k m : Int} : ((encE (U ++ e :: V)).set (U.length * 3) (.int .i8 k)).set (U.length * 3 + 1) (.int .i64 m) = encE (U ++ ⟨k, m, e.n⟩ :: V) := by
  have henc : ∀ y : En, encE (U ++ y :: V) = encE U ++ ([.int .i8 y.k, .int .i64 y.m, .int .i64 (y.n : Int)] ++ encE V) := fun y => by rw [encE_app]; simp [encE]
  have hl : U.length * 3 = (encE U).length := (encE_len U).symm
  rw [henc, henc, hl, List.set_append_right _ _ (Nat.le_refl _), List.set_append_right _ _ (by omega)]
  simp
theorem own_set3 {w : World} {g n cap base : Nat} {e : TypeId} {xs : List Value} (h : w.ownsRow base e 3 (.slice (some ⟨g, 0, none⟩) n cap) n xs) (i : Nat) (v : Value) : (w.setCell ⟨g, i, none⟩ v).ownsRow base e 3 (.slice (some ⟨g, 0, none⟩) n cap) n (xs.set i v) := by
  refine ⟨by rw [List.length_set]; exact h.1, ?_⟩
  rcases h.2 with ⟨h1, _⟩ | ⟨g', cap', cur, h1, h2, hg, h3, h4, h5, h6⟩
  · cases h1
  · injection h1 with h1 _ hcap
    injection h1 with h1
    injection h1 with h1
    subst h1 hcap
    refine .inr ⟨g, cap, cur.setIfInBounds i v, rfl, h2, ?_, h3, h4, by simpa using h5, ?_⟩
    · rw [setCell_eq_setRow w g i cur e (0, 0) v hg]
      exact setRow_heap w g cur _ e _ hg
    · rw [Array.toList_setIfInBounds, List.take_set, h6]
set_option maxHeartbeats 4000000 in
theorem setR {w : World} {r : Nat} {D : List En} {last : Nat} {Y : Nat → Prop} (a : Rn w r D last Y) {e : En} (he : e ∈ D) (k m : Int) :
    Calls Try.prog 29 #[ptr r, .int .i64 (e.n : Int), thV k m] w fun v w' => v = .returned (.int .i64 0) ∧ Rn w' r (setD D e.n k m) last Y ∧ But (Els Y) w w' := by
  obtain ⟨i0, hi, hz0, hz1, hz2⟩ := info_parts eltEr.hi
  obtain ⟨s, rv, x, hy⟩ := a
  obtain ⟨U, V, rfl⟩ := split_at he
  have HS : Hid (Srt (setD (U ++ e :: V) e.n k m)) := set_srt s _ _ _
  rw [set_app s] at HS ⊢
  obtain ⟨w1, hw1⟩ : ∃ w1, w.alloc (.cells #[.int .i8 k, .int .i64 m] 27) = w1 := ⟨_, rfl⟩
  have hb1 : Below w.heap.size w w1 := by rw [← hw1]; exact (Below.refl _ w).alloc (Nat.le_refl _) _
  have k0 : w1.cell? ⟨w.heap.size, 0, none⟩ = some (.int .i8 k) := by rw [← hw1]; exact (blk_new w [.int .i8 k, .int .i64 m] _).cell (i := 0) rfl
  have k1 : w1.cell? ⟨w.heap.size, 1, none⟩ = some (.int .i64 m) := by rw [← hw1]; exact (blk_new w [.int .i8 k, .int .i64 m] _).cell (i := 1) rfl
  have hN1 : w1.heap.size = w.heap.size + 1 := by rw [← hw1]; simp
  have x1 := x.below hb1
  have cA := rat_in w1 r rv U V e last x1 s
  obtain ⟨g, cap, hv, hc1, hc2⟩ := x1.form1 (by rw [List.length_append, List.length_cons]; omega)
  have hlen : (U ++ e :: V).length = U.length + (V.length + 1) := by rw [List.length_append, List.length_cons]
  have c0 := x1.bl.cell (i := 0) rfl
  have hbd := x.bd.1
  have hr := x.bl.lt
  have HX : Hid (Rd w1 r rv (U ++ e :: V) last) := x1
  have HY : Hid (∀ b, Y b → b < w.heap.size ∧ ¬ rhas r rv b) := hy
  have HB : Hid (Below w.heap.size w w1) := hb1
  rw [hv] at c0
  rw [hlen] at c0 hc1 hbd
  have c0a := (((Below.refl _ w1).alloc (Nat.le_refl _) (.cells #[] 50)).cell (p := ⟨r, 0, none⟩) (cell_lt c0)).trans c0
  -- what append makes
  have hlen3 : (encE (U ++ e :: V)).length = (U.length + (V.length + 1)) * 3 := by rw [encE_len, hlen]
  have hnews : ∀ j u, (encE (U ++ e :: V))[j]? = some u → (w1.alloc (.cells #[] 50)).cell? ((⟨g, 0, none⟩ : Addr).add j) = some u := fun j u hj => by
    have h := x1.ow.cells (g := g) (by rw [hv]; rfl) j u hj
    rw [Go.WideShapes.add_plain] at h ⊢
    exact (((Below.refl _ w1).alloc (Nat.le_refl _) _).cell (p := ⟨g, 0 + j, none⟩) (cell_lt h)).trans h
  obtain ⟨v', w3, hrun, hown, hgrow, _, hloc⟩ := run_append_own_at (P := Try.prog) (w := w1.alloc (.cells #[] 50)) w1.heap.size 30 30 50 i0 (.agg #[.int .i8 0, .int .i64 0, .int .i64 0]) 3 24 Try.underlying30 hi hz0 hz1 hz2 rfl (by decide) (.slice (some ⟨w1.heap.size, 0, none⟩) 0 0) 0 [] (gown_0 w1 w1.heap.size _ 3 (Nat.le_refl _)) ⟨g, 0, none⟩ (U.length + (V.length + 1)) cap (encE (U ++ e :: V)) hlen3 hnews (encE_one _) (by unfold maxLen; omega) (by omega) (by simp)
  rw [Nat.zero_add, List.nil_append] at hown
  have hg3 : Below w1.heap.size w1 w3 := by
    refine ((Below.refl _ w1).alloc (Nat.le_refl _) _).trans ⟨hgrow.os, hgrow.tape, hgrow.output, hgrow.size, fun b hb => hgrow.block b (by rw [World.size_alloc]; omega) ?_⟩
    intro h
    simp [Value.ownBlock] at h
    omega
  obtain ⟨g', cap', hv'⟩ : ∃ g' cap', v' = .slice (some ⟨g', 0, none⟩) (U.length + (V.length + 1)) cap' := by
    rcases hown.2 with ⟨_, h⟩ | ⟨g', cap', cur, h, _⟩
    · omega
    · exact ⟨g', cap', h⟩
  subst hv'
  have hgb : w1.heap.size ≤ g' := (hown.lt g' rfl).1
  have t0 := (hg3.cell (p := ⟨w.heap.size, 0, none⟩) (by show w.heap.size < w1.heap.size; omega)).trans k0
  have t1 := (hg3.cell (p := ⟨w.heap.size, 1, none⟩) (by show w.heap.size < w1.heap.size; omega)).trans k1
  have hcell : ∀ j u, (encE (U ++ e :: V))[j]? = some u → w3.cell? ⟨g', j, none⟩ = some u := fun j u hj => by
    have h := hown.cells (g := g') rfl j u hj
    rwa [Go.WideShapes.add_plain, Nat.zero_add] at h
  obtain ⟨q0, q1, _⟩ := encE_at (D := U ++ e :: V) (j := U.length) (e := e) (by simp)
  have u0 := hcell _ _ q0
  have u1 := hcell _ _ q1
  have uf : ∀ j, w3.frozen? ⟨g', j, none⟩ = false := fun j => by
    rcases hown.2 with ⟨h, _⟩ | ⟨g2, cap2, cur, h, _, hgg, _⟩
    · cases h
    · injection h with h; injection h with h; injection h with h; subst h; exact frozen_of_row _ _ j _ _ hgg
  -- the world behind the store
  have own4 := own_set3 (own_set3 hown (U.length * 3) (.int .i8 k)) (U.length * 3 + 1) (.int .i64 m)
  rw [encE_set] at own4
  have hlen' : (U ++ (⟨k, m, e.n⟩ : En) :: V).length = U.length + (V.length + 1) := by rw [List.length_append, List.length_cons]
  rw [← hlen'] at own4
  have bl4 := ((HX.out.bl.below hg3).setO (b' := g') (i := U.length * 3) (by omega) (.int .i8 k)).setO (b' := g') (i := U.length * 3 + 1) (by omega) (.int .i64 m)
  have e4 := bl4.cell (i := 0) rfl
  have f4 := bl4.fz 0
  have x5 := Rd.put bl4 (by omega) own4 ⟨by rw [hlen']; exact hbd, HX.out.bd.2⟩
  have HR : Hid (Rn _ r (U ++ (⟨k, m, e.n⟩ : En) :: V) last Y) := Rn.new HY.out HB.out.size HS.out own4 x5 (by rw [hs_set, hs_set]; exact hg3.size)
  have HE : Hid (But (Els Y) w ((((w3.setCell ⟨g', U.length * 3, none⟩ (.int .i8 k)).setCell ⟨g', U.length * 3 + 1, none⟩ (.int .i64 m))).setCell ⟨r, 0, none⟩ (.slice (some ⟨g', 0, none⟩) (U ++ (⟨k, m, e.n⟩ : En) :: V).length cap'))) := by
    have h1 : But (Els Y) w w3 := (But.of HB.out).trans (But.of hg3)
    have hg'Y : Els Y g' := fun hy => by have := (HY.out g' hy).1; omega
    exact ((h1.setCell (p := ⟨g', U.length * 3, none⟩) hg'Y _).setCell (p := ⟨g', U.length * 3 + 1, none⟩) hg'Y _).setCell (p := ⟨r, 0, none⟩) (fun hy => (HY.out r hy).2 (.inl rfl)) _
  rw [hlen'] at HR HE
  clear hlen3 hlen hlen' x hy s he x1 hb1 hnews hown hgrow hloc hg3 hcell q0 q1 own4 bl4 x5 hi hz0 hz1 hz2 hN1
  generalize hN : w.heap.size = N at *
  unfold thV
  go_enter Try.func29, Try.ntmps29
  go_wp2_with fail
  refine cA.mono ?_
  rintro v w' ⟨rfl, hw'⟩
  subst hw'
  clear cA hw1
  generalize U.length = q at *
  go_wp2_with (at_builtin; refine wpList_append_run rfl (.tmp 14) (.tmp 18) 30 rfl _ _ _ rfl rfl hrun ?_)
  go_ret
  exact ⟨rfl, HR.out, HE.out⟩
end Go.Proofs.Ytafcgbahdfaiiaa
