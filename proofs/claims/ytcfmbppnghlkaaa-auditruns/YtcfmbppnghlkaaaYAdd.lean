/- A record is logged. -/
import Derived.Test.YtcfmbppnghlkaaaYLast2
import Derived.Test.YtcfmbppnghlkaaaJSeq
namespace Go.Proofs.Ytcfmbppnghlkaaa
open Go.RowKit Go.Sort
set_option maxRecDepth 100000

abbrev bxQ (w : World) (r : Rc) : World := w.alloc (.cells #[.int .i64 r.t, .int .i64 r.s, .int .i64 r.g, .int .u64 r.p] 38)
theorem bxQ_blk (w : World) (r : Rc) : Blk (bxQ w r) w.heap.size 38 [.int .i64 r.t, .int .i64 r.s, .int .i64 r.g, .int .u64 r.p] := blk_new w _ _
theorem bxQ_below (w : World) (r : Rc) : Below w.heap.size w (bxQ w r) := (Below.refl _ w).alloc (Nat.le_refl _) _
set_option maxHeartbeats 1000000 in
theorem yadd_full (w : World) (b : Nat) (m : Int) (a : Option Addr) (n c : Nat) (r : Rc) (h : Blk w b 63 [.int .i64 m, .slice a n c]) (hr : 0 ≤ m ∧ m ≤ 1024) (hn : n ≤ 1024) (he : (n : Int) = m) :
    Calls Try.prog 30 #[ptr b, recV r] w fun e w' => e = .returned (.int .i64 150) ∧ Below w.heap.size w w' := by
  have c1 := yleft (bxQ w r) b m a n c (h.below (bxQ_below w r)) hr hn
  rw [show m - (n : Int) = 0 by omega] at c1
  have HB : Hid (Below w.heap.size w (bxQ w r)) := bxQ_below w r
  clear h
  unfold recV
  generalize hw1 : bxQ w r = w1 at *
  unfold bxQ at hw1
  go_enter Try.func30, Try.ntmps30
  go_wp2_with fail
  refine c1.mono ?_
  rintro e w2 ⟨rfl, hb⟩
  have HE : Hid (Below w.heap.size w w2) := Below.onto HB.out hb
  clear c1 hb hw1
  go_wp2_with fail
  go_ret
  exact ⟨rfl, HE.out⟩
set_option maxHeartbeats 4000000 in
theorem yadd (w : World) (b : Nat) (m : Int) (v : Value) (l : List Rc) (r : Rc) (h : Blk w b 63 [.int .i64 m, v]) (ho : w.ownsRow 0 38 4 v l.length (encRs l)) (hr : 0 ≤ m ∧ m ≤ 1024) (hn : l.length ≤ 1024) (he : (l.length : Int) < m) :
    Calls Try.prog 30 #[ptr b, recV r] w fun e w' => e = .returned (.int .i64 0) ∧ ∃ v', Blk w' b 63 [.int .i64 m, v'] ∧ w'.ownsRow 0 38 4 v' (l ++ [r]).length (encRs (l ++ [r])) ∧ But (fun i => v.ownBlock = some i ∨ i = b) w w' ∧ (v'.ownBlock = v.ownBlock ∨ ∃ i, v'.ownBlock = some i ∧ w.heap.size ≤ i) := by
  obtain ⟨a, c, hv, _⟩ := own_at ho
  have c1 := yleft (bxQ w r) b m a l.length c (by rw [← hv]; exact h.below (bxQ_below w r)) hr hn
  have hne : ¬ m - (l.length : Int) = 0 := by omega
  generalize m - (l.length : Int) = dm at *
  have HB : Hid (Blk w b 63 [.int .i64 m, v] ∧ w.ownsRow 0 38 4 v l.length (encRs l) ∧ Below w.heap.size w (bxQ w r) ∧ Blk (bxQ w r) w.heap.size 38 [.int .i64 r.t, .int .i64 r.s, .int .i64 r.g, .int .u64 r.p]) := ⟨h, ho, bxQ_below w r, bxQ_blk w r⟩
  clear h ho
  unfold recV
  generalize hw1 : bxQ w r = w1 at *
  unfold bxQ at hw1
  go_enter Try.func30, Try.ntmps30
  go_wp2_with fail
  refine c1.mono ?_
  rintro e w2 ⟨rfl, hb⟩
  have hb2 : Below w.heap.size w w2 := Below.onto HB.out.2.2.1 hb
  have hq2 := HB.out.2.2.2.below hb
  clear c1 hb hw1
  have hd : Below w2.heap.size w2 w2.drew := (Below.refl _ w2).drew
  have hB2 := (HB.out.1.below hb2).below hd
  have hO2 : w2.drew.ownsRow 0 38 4 v l.length (encRs l) := eown_block HB.out.2.1 fun i hi => hb2.block i (HB.out.2.1.lt i hi).2
  have hQ2 := hq2.below hd
  obtain ⟨v', w4, hrun, hown, hgrow, hloc⟩ := ysnocR 0 v l.length (encRs l) r w2.drew hO2 (by omega) (Nat.zero_le _)
  obtain ⟨g', cap', hv'⟩ := ownsRow_succ hown
  have hvb : v.ownBlock ≠ some b := fun e => by
    obtain ⟨cur, hc⟩ := own_cells hO2 e
    have h1 : w2.drew.heap[b]? = _ := hB2
    rw [hc] at h1; injection h1 with h1; injection h1 with _ h1; cases h1
  have hlt := hB2.lt
  have hB4 : Blk w4 b 63 [.int .i64 m, v] := hB2.same ((hgrow.block b (by rw [World.size_alloc]; exact Nat.lt_succ_of_lt hlt) (Ne.symm hvb)).trans (Below.heap_alloc _ _ _ hlt))
  have hsz2 : w.heap.size ≤ w2.heap.size := hb2.size
  have HG : Hid (∃ v', Blk (w4.setCell ⟨b, 1, none⟩ (.slice (some ⟨g', 0, none⟩) (l.length + 1) cap')) b 63 [.int .i64 m, v'] ∧ (w4.setCell ⟨b, 1, none⟩ (.slice (some ⟨g', 0, none⟩) (l.length + 1) cap')).ownsRow 0 38 4 v' (l ++ [r]).length (encRs (l ++ [r])) ∧ But (fun i => v.ownBlock = some i ∨ i = b) w (w4.setCell ⟨b, 1, none⟩ (.slice (some ⟨g', 0, none⟩) (l.length + 1) cap')) ∧ (v'.ownBlock = v.ownBlock ∨ ∃ i, v'.ownBlock = some i ∧ w.heap.size ≤ i)) := by
    refine ⟨v', ?_, ?_, ?_, ?_⟩
    · rw [← hv']; exact hB4.set 1 v'
    · rw [encRs_app, encRs_one, List.length_append]
      refine own_setO hown ?_ _
      rcases hloc with e | e
      · rw [e]; exact hvb
      · rw [e]; intro h; injection h with h; omega
    · have b1 : But (fun i => v.ownBlock = some i ∨ i = b) w2.drew w4 := ⟨hgrow.os, hgrow.tape, hgrow.output, by have := hgrow.size; rw [World.size_alloc] at this; omega, fun i hi hn => (hgrow.block i (by rw [World.size_alloc]; omega) (fun e => hn (.inl e.symm))).trans (Below.heap_alloc _ _ _ hi)⟩
      exact ((But.of hb2).trans ((But.of hd).trans b1)).setCell (p := ⟨b, 1, none⟩) (.inr rfl) _
    · rcases hloc with e | e
      · exact .inl e
      · exact .inr ⟨_, e, Nat.le_succ_of_le hsz2⟩
  have h1 := hB2.cell (i := 1) rfl
  have h4 := hB4.cell (i := 1) rfl
  have f4 := hB4.fz 1
  have q0 := hQ2.cell (i := 0) rfl
  have q1 := hQ2.cell (i := 1) rfl
  have q2 := hQ2.cell (i := 2) rfl
  have q3 := hQ2.cell (i := 3) rfl
  have h13 := (hB2.below ((Below.refl _ w2.drew).alloc (Nat.le_refl _) (.cells (encR r).toArray 38))).cell (i := 1) rfl
  have hQ3 := hQ2.below ((Below.refl _ w2.drew).alloc (Nat.le_refl _) (.cells (encR r).toArray 38))
  have hvw : v.ownBlock ≠ some w.heap.size := fun e => Nat.lt_irrefl _ (HB.out.2.1.lt _ e).2
  have hQ4 : Blk w4 w.heap.size 38 [.int .i64 r.t, .int .i64 r.s, .int .i64 r.g, .int .u64 r.p] := hQ3.same (hgrow.block _ hQ3.lt (Ne.symm hvw))
  have s3 : (w2.drew.alloc (.cells (encR r).toArray 38)).cell? ⟨w.heap.size, 0, none⟩ = some (.int .i64 r.t) ∧ (w2.drew.alloc (.cells (encR r).toArray 38)).cell? ⟨w.heap.size, 1, none⟩ = some (.int .i64 r.s) ∧ (w2.drew.alloc (.cells (encR r).toArray 38)).cell? ⟨w.heap.size, 2, none⟩ = some (.int .i64 r.g) ∧ (w2.drew.alloc (.cells (encR r).toArray 38)).cell? ⟨w.heap.size, 3, none⟩ = some (.int .u64 r.p) := ⟨hQ3.cell (i := 0) rfl, hQ3.cell (i := 1) rfl, hQ3.cell (i := 2) rfl, hQ3.cell (i := 3) rfl⟩
  have s4 : w4.cell? ⟨w.heap.size, 0, none⟩ = some (.int .i64 r.t) ∧ w4.cell? ⟨w.heap.size, 1, none⟩ = some (.int .i64 r.s) ∧ w4.cell? ⟨w.heap.size, 2, none⟩ = some (.int .i64 r.g) ∧ w4.cell? ⟨w.heap.size, 3, none⟩ = some (.int .u64 r.p) := ⟨hQ4.cell (i := 0) rfl, hQ4.cell (i := 1) rfl, hQ4.cell (i := 2) rfl, hQ4.cell (i := 3) rfl⟩
  clear hown hgrow hloc hB2 hO2 hQ2 hB4 hq2 hvb hlt hd hQ3 hQ4 hvw
  subst hv hv'
  go_wp2_with fail
  refine wp_region_noPanic ?_
  refine wp_region_takes_seq (by simp) [0, 1, 2, 3, 4, 5] [6, 7, 8, 9]
    { tmps := #[ptr b, .agg #[.int .i64 r.t, .int .i64 r.s, .int .i64 r.g, .int .u64 r.p], undef, .pointer (some ⟨w.heap.size, 0, none⟩), .int .i64 0, ptr b, .int .i64 dm, .bool (dm == 0), ptr b, ptr b, ptr b, .pointer (some ⟨b, 1, none⟩), .slice a l.length c, .agg #[.int .i64 r.t, .int .i64 r.s, .int .i64 r.g, .int .u64 r.p], undef, undef, undef, undef], defers := [] }
    (fun W => W.cell? ⟨b, 1, none⟩ = some (.slice a l.length c) ∧ W.cell? ⟨w.heap.size, 0, none⟩ = some (.int .i64 r.t) ∧ W.cell? ⟨w.heap.size, 1, none⟩ = some (.int .i64 r.s) ∧ W.cell? ⟨w.heap.size, 2, none⟩ = some (.int .i64 r.g) ∧ W.cell? ⟨w.heap.size, 3, none⟩ = some (.int .u64 r.p)) (by kernel_rfl) (by kernel_rfl) (by kernel_rfl) (by kernel_rfl) (by kernel_rfl) (by kernel_rfl) (fun _ _ _ _ _ h => h) ⟨h1, q0, q1, q2, q3⟩ (by rfl) ?_ ?_
  · dsimp only [List.dropLast]
    refine ⟨⟨_, _, _, rfl, rfl, rfl, ?_⟩, ⟨_, _, _, rfl, rfl, rfl, ?_⟩, ⟨_, _, _, rfl, rfl, rfl, ?_⟩, ⟨_, _, _, rfl, rfl, rfl, ?_⟩, ⟨_, _, _, rfl, rfl, rfl, ?_⟩, ⟨_, _, _, rfl, rfl, rfl, ?_⟩, trivial⟩
    all_goals
      rintro W ⟨z0, z1, z2, z3, z4⟩
      clear HG hrun q0 q1 q2 q3 h1 h4 h13 s3 s4
      go_simp
  · dsimp only [List.dropLast, List.getLast]
    unfold seqWp
    simp only [List.getElem?_toArray, List.getElem?_cons_succ, List.getElem?_cons_zero]
    intro K hK
    go_simp
    refine hK _ _ ⟨h13, s3⟩ ?_
    clear hK
    unfold seqWp
    simp only [List.getElem?_toArray, List.getElem?_cons_succ, List.getElem?_cons_zero]
    intro K hK
    refine wp_append_run (.tmp 12) (.tmp 14) 61 rfl (.slice a l.length c) (.slice (some ⟨w2.drew.heap.size, 0, none⟩) 1 1) _ rfl rfl hrun ?_
    refine hK _ _ ⟨h4, s4⟩ ?_
    clear hrun hK
    unfold seqWp
    simp only [List.getElem?_toArray, List.getElem?_cons_succ, List.getElem?_cons_zero]
    intro K hK
    go_simp
    refine hK _ _ ⟨h4, s4⟩ ?_
    clear hK
    unfold seqWp
    simp only [List.getElem?_toArray, List.getElem?_cons_succ, List.getElem?_cons_zero]
    intro K hK
    go_simp
    refine hK _ _ ⟨h4, s4⟩ ?_
    clear hK
    unfold seqWp lastQ
    go_simp
    refine NoPanic.normal ?_
    go_wp2_with fail
    go_ret
    exact ⟨rfl, HG.out⟩
end Go.Proofs.Ytcfmbppnghlkaaa
