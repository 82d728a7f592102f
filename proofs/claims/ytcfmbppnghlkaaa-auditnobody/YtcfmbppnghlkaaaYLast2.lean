/- Last, whole. -/
import Derived.Test.YtcfmbppnghlkaaaYLast
namespace Go.Proofs.Ytcfmbppnghlkaaa
open Go.RowKit Go.Sort
set_option maxRecDepth 100000

theorem fend : ∀ args W, (callFunc 32 args).run Try.prog W = .ok (.enter 32 args) W := enters_of Try.func32 (by kernel_rfl) rfl
abbrev bxZ (w : World) : World := w.alloc (.cells #[.int .i64 0, .int .i64 0, .int .i64 0, .int .u64 0] 38)
theorem bxZ_blk (w : World) : Blk (bxZ w) w.heap.size 38 [.int .i64 0, .int .i64 0, .int .i64 0, .int .u64 0] := blk_new w _ _
theorem bxZ_below (w : World) : Below w.heap.size w (bxZ w) := (Below.refl _ w).alloc (Nat.le_refl _) _
/-- all four are stored -/
theorem Blk.set4 {w : World} {b : Nat} {T : TypeId} {a0 a1 a2 a3 : Value} (h : Blk w b T [a0, a1, a2, a3]) (v0 v1 v2 v3 : Value) : Blk ((((w.setCell ⟨b, 0, none⟩ v0).setCell ⟨b, 1, none⟩ v1).setCell ⟨b, 2, none⟩ v2).setCell ⟨b, 3, none⟩ v3) b T [v0, v1, v2, v3] := (((h.set 0 v0).set 1 v1).set 2 v2).set 3 v3
set_option maxHeartbeats 1000000 in
theorem yLast_0 (w : World) (P : Value) (c : Calls Try.prog 31 #[P, .func (.func 32) #[] #[]] (bxZ w) fun e w' => ∃ a cp, e = .returned (.slice a 0 cp) ∧ Below (bxZ w).heap.size (bxZ w) w') :
    Calls Try.prog 14 #[P] w fun e w' => e = .returned (.tuple #[recV rec0, .bool false]) ∧ Below w.heap.size w w' := by
  have HB : Hid (Blk (bxZ w) w.heap.size 38 [.int .i64 0, .int .i64 0, .int .i64 0, .int .u64 0] ∧ Below w.heap.size w (bxZ w)) := ⟨bxZ_blk w, bxZ_below w⟩
  generalize hw1 : bxZ w = w1 at *
  unfold bxZ at hw1
  go_enter Try.func14, Try.ntmps14
  go_wp2_with fail
  refine c.mono ?_
  rintro e w2 ⟨a, cp, rfl, hb⟩
  have hB2 := HB.out.1.below hb
  have h3 := hB2.set4 (.int .i64 0) (.int .i64 0) (.int .i64 0) (.int .u64 0)
  have q0 := hB2.cell (i := 0) rfl
  have q1 := hB2.cell (i := 1) rfl
  have q2 := hB2.cell (i := 2) rfl
  have q3 := hB2.cell (i := 3) rfl
  have qf := hB2.fz
  have s0 := h3.cell (i := 0) rfl
  have s1 := h3.cell (i := 1) rfl
  have s2 := h3.cell (i := 2) rfl
  have s3 := h3.cell (i := 3) rfl
  have HE : Hid (Below w.heap.size w w2) := Below.onto HB.out.2 hb
  clear c hb hB2 h3 hw1
  go_wp2_with fail
  refine bodyPost_ret (v := .tuple #[recV rec0, .bool false]) (by simp [results, Try.results14, go_sem, s0, s1, s2, s3, recV, rec0]) rfl ⟨rfl, ?_⟩
  exact (((HE.out.setCell (Nat.le_refl _) _).setCell (Nat.le_refl _) _).setCell (Nat.le_refl _) _).setCell (Nat.le_refl _) _
set_option maxHeartbeats 1000000 in
theorem yLast_1 (w : World) (P : Value) (K : Nat) (hK : 0 < K) (r : Rc) (S : Option Addr → Nat → World → Prop) (c : Calls Try.prog 31 #[P, .func (.func 32) #[] #[]] (bxZ w) fun e w' => ∃ ra cap, e = .returned (.slice ra K cap) ∧ Below (bxZ w).heap.size (bxZ w) w' ∧ S ra cap w')
    (cM : ∀ ra cap w', S ra cap w' → Calls Try.prog 33 #[.slice ra K cap, .func (.func 34) #[] #[]] w' fun e w'' => ∃ x : Pt, Hd w'' x r ∧ e = .returned x.V ∧ Below w'.heap.size w' w'') :
    Calls Try.prog 14 #[P] w fun e w' => e = .returned (.tuple #[recV r, .bool true]) ∧ Below w.heap.size w w' := by
  have HB : Hid (Blk (bxZ w) w.heap.size 38 [.int .i64 0, .int .i64 0, .int .i64 0, .int .u64 0] ∧ Below w.heap.size w (bxZ w)) := ⟨bxZ_blk w, bxZ_below w⟩
  have HM : Hid (∀ ra cap w', S ra cap w' → Calls Try.prog 33 #[.slice ra K cap, .func (.func 34) #[] #[]] w' fun e w'' => ∃ x : Pt, Hd w'' x r ∧ e = .returned x.V ∧ Below w'.heap.size w' w'') := cM
  have hne : ¬ K = 0 := by omega
  clear cM
  generalize hw1 : bxZ w = w1 at *
  unfold bxZ at hw1
  go_enter Try.func14, Try.ntmps14
  go_wp2_with fail
  refine c.mono ?_
  rintro e w2 ⟨ra, cap, rfl, hb, hS⟩
  have cm := HM.out ra cap w2 hS
  have HB2 : Hid (Blk w2 w.heap.size 38 [.int .i64 0, .int .i64 0, .int .i64 0, .int .u64 0] ∧ Below w.heap.size w w2) := ⟨HB.out.1.below hb, Below.onto HB.out.2 hb⟩
  clear c hb hw1 hS
  go_wp2_with fail
  refine cm.mono ?_
  rintro e w3 ⟨x, hd, rfl, hb3⟩
  obtain ⟨b, of, hxa, hc⟩ := hd.at_
  have hxn := hd.n
  have hxn2 : ¬ x.n = 0 := by omega
  have hB2 := HB2.out.1.below hb3
  have h3 := hB2.set4 (.int .i64 r.t) (.int .i64 r.s) (.int .i64 r.g) (.int .u64 r.p)
  have q0 := hB2.cell (i := 0) rfl
  have q1 := hB2.cell (i := 1) rfl
  have q2 := hB2.cell (i := 2) rfl
  have q3 := hB2.cell (i := 3) rfl
  have qf := hB2.fz
  have s0 := h3.cell (i := 0) rfl
  have s1 := h3.cell (i := 1) rfl
  have s2 := h3.cell (i := 2) rfl
  have s3 := h3.cell (i := 3) rfl
  have k0 : w3.cell? ⟨b, of, none⟩ = some (.int .i64 r.t) := hc 0 _ rfl
  have k1 := hc 1 _ rfl
  have k2 := hc 2 _ rfl
  have k3 := hc 3 _ rfl
  have HE : Hid (Below w.heap.size w w3) := Below.onto HB2.out.2 hb3
  unfold Pt.V
  rw [hxa]
  clear cm hb3 hB2 h3 hd hc hxa
  go_wp2_with fail
  refine bodyPost_ret (v := .tuple #[recV r, .bool true]) (by simp [results, Try.results14, go_sem, s0, s1, s2, s3, recV]) rfl ⟨rfl, ?_⟩
  exact (((HE.out.setCell (Nat.le_refl _) _).setCell (Nat.le_refl _) _).setCell (Nat.le_refl _) _).setCell (Nat.le_refl _) _
theorem yLast_no (w : World) (P : Value) (h : NbL w P) : Calls Try.prog 14 #[P] w fun e w' => e = .returned (.tuple #[recV rec0, .bool false]) ∧ Below w.heap.size w w' :=
  yLast_0 w P ((yparts_no (bxZ w) P (h.below (bxZ_below w)) _).mono fun _ _ ⟨h1, h2⟩ => ⟨none, 0, h1, by rw [h2]; exact Below.refl _ _⟩)
theorem getD_at {l : List Nat} {i : Nat} (h : i < l.length) : l.getD i 0 = l[i] := by simp [List.getD, h]
/-- what Last tells -/
theorem yLast (w : World) (p : Nat) (o : Yo) (R : List Int) (L : List Rc) (x : Yx w p o R L) : Calls Try.prog 14 #[ptr p] w fun e w' => e = .returned (.tuple #[recV (lastR L), .bool (!L.isEmpty)]) ∧ Below w.heap.size w w' := by
  have x1 := x.below (bxZ_below w)
  have cP := yparts (bxZ w) p o R L x1 32 #[] (endP o L) fend (fun i W hi hb => by
    simpa using (x1.below hb).yend hi)
  have hgs : ∀ i, i ∈ gsTo (endP o L) R.length ↔ i < R.length ∧ 0 < (ownR L i).length := fun i => by rw [mem_gs, endP_n]
  have gate : ∀ r, r ∈ L → ∃ i, i ∈ gsTo (endP o L) R.length ∧ r ∈ ownR L i := fun r hr => by
    have hg := x.ok.gate r hr
    have hm : r ∈ ownR L r.g.toNat := mem_own.2 ⟨hr, by omega⟩
    exact ⟨r.g.toNat, (hgs _).2 ⟨by omega, List.length_pos_of_mem hm⟩, hm⟩
  by_cases hL : L = []
  · subst hL
    have e0 : ptsTo (endP o []) R.length = [] := by
      rw [pts_gs, List.map_eq_nil_iff, List.eq_nil_iff_forall_not_mem]
      intro i hi
      have := ((hgs i).1 hi).2
      simp [ownR] at this
    rw [e0] at cP
    refine yLast_0 w (ptr p) (cP.mono ?_)
    rintro e w' ⟨v, rfl, ho, hb⟩
    obtain ⟨a, cp, rfl, _⟩ := own_at ho
    exact ⟨a, cp, rfl, hb⟩
  · have hr0 : lastR L ∈ L := (x.ok.rise.last (List.head_mem hL)).1
    obtain ⟨i0, hi0, _⟩ := gate _ hr0
    have hK : 0 < (gsTo (endP o L) R.length).length := List.length_pos_of_mem hi0
    have hKb : (gsTo (endP o L) R.length).length ≤ 16 := by
      have h1 := ptsTo_len (endP o L) R.length
      rw [pts_gs, List.length_map] at h1
      have := x.ok.few
      omega
    have he : (!L.isEmpty) = true := by cases L with | nil => exact absurd rfl hL | cons _ _ => rfl
    rw [he]
    rw [pts_gs, List.length_map] at cP
    refine yLast_1 w (ptr p) _ hK (lastR L) (fun ra cap W => Below (bxZ w).heap.size (bxZ w) W ∧ ∀ i, i < (gsTo (endP o L) R.length).length → ∃ g, ra = some ⟨g, 0, none⟩ ∧ W.cell? ⟨g, i, none⟩ = some (endP o L ((gsTo (endP o L) R.length).getD i 0)).V) (cP.mono ?_) ?_
    · rintro e w' ⟨v, rfl, ho, hb⟩
      obtain ⟨a, cp, rfl, _, hat⟩ := own_at ho
      refine ⟨a, cp, rfl, hb, hb, fun i hi => ?_⟩
      obtain ⟨g, _, h1, h2⟩ := hat i (endP o L ((gsTo (endP o L) R.length).getD i 0)).V (by simp [List.getD, hi])
      exact ⟨g, h1, h2⟩
    · rintro ra cap W ⟨hb, hr⟩
      have hin : ∀ i, i < (gsTo (endP o L) R.length).length → (gsTo (endP o L) R.length).getD i 0 < R.length ∧ 0 < (ownR L ((gsTo (endP o L) R.length).getD i 0)).length := fun i hi => (hgs _).1 (by
        rw [getD_at hi]; exact List.getElem_mem hi)
      refine (ymax W ra cap _ hK (by omega) (fun i => endP o L ((gsTo (endP o L) R.length).getD i 0)) (fun i => lastR (ownR L ((gsTo (endP o L) R.length).getD i 0))) hr (fun i hi => ((x1.below hb).hd (hin i hi).1 (hin i hi).2).1)).mono ?_
      rintro e w'' ⟨k, hk, hmax, rfl, hb2⟩
      refine ⟨_, ?_, rfl, hb2⟩
      obtain ⟨h1, h2, h3⟩ := (x1.below hb).hd (hin k hk).1 (hin k hk).2
      have heq : lastR (ownR L ((gsTo (endP o L) R.length).getD k 0)) = lastR L := by
        refine x.ok.rise.uniq h2 hr0 ?_
        have a1 := (x.ok.rise.last h2).2
        obtain ⟨i, hi, hio⟩ := gate _ hr0
        obtain ⟨m, hm⟩ := List.getElem?_of_mem hi
        have hml := (List.getElem?_eq_some_iff.1 hm).1
        have a2 := hmax m hml
        rw [getD_at hml, (List.getElem?_eq_some_iff.1 hm).2] at a2
        have a3 := (RiseR.last (L := ownR L i) (x.ok.rise.filter _) hio).2
        omega
      rw [← heq]
      exact h1.below hb2
end Go.Proofs.Ytcfmbppnghlkaaa
