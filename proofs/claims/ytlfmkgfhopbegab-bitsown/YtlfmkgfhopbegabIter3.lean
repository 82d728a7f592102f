/- bits.Nth: a loop over the iterator bits.All that is left early. -/
import Derived.Test.YtlfmkgfhopbegabIter2
namespace Go.Proofs.Ytlfmkgfhopbegab
open Go.RowKit Go.Shelf
attribute [local go_sem] Oper.semAt_some

theorem memsTo_at (s : Int) (x : Nat) (ht : tb s x = true) : ∀ n, x < n → (memsTo s n)[(memsTo s x).length]? = some x := by
  intro n
  induction n with
  | zero => intro h; omega
  | succ n ih =>
    intro h
    by_cases e : x = n
    · subst e; rw [memsTo_hit s x ht]; simp
    · have h' := ih (by omega)
      rw [memsTo_succ, List.getElem?_append_left (List.getElem?_eq_some_iff.1 h').1]
      exact h'
theorem rankI_mem (s : Int) (x : Nat) (h : x < 64) : rankI s x = (memsTo s x).length := by
  unfold rankI; rw [Int.toNat_natCast, Nat.min_eq_left (by omega)]
theorem rank_at (s : Int) (x : Nat) (h : x < 64) (ht : tb s x = true) : (mems s)[rankI s x]? = some x := by
  rw [rankI_mem s x h]; exact memsTo_at s x ht 64 h
theorem mems_nodup (s : Int) {i j : Nat} (hi : i < (mems s).length) (e : (mems s)[i]? = (mems s)[j]?) : i = j := by
  have hs : (mems s).Pairwise (· < ·) := List.Pairwise.filter _ List.pairwise_lt_range
  have hj : j < (mems s).length := by
    rw [List.getElem?_eq_getElem hi] at e
    exact (List.getElem?_eq_some_iff.1 e.symm).1
  rw [List.getElem?_eq_getElem hi, List.getElem?_eq_getElem hj] at e
  have e' : (mems s)[i] = (mems s)[j] := by simpa using e
  rcases Nat.lt_trichotomy i j with h | h | h
  · have := List.pairwise_iff_getElem.1 hs i j hi hj h; omega
  · exact h
  · have := List.pairwise_iff_getElem.1 hs j i hj hi h; omega
/-- the member with k below it -/
theorem nth_found {s k : Int} {x : Nat} (h : x < 64) (ht : tb s x = true) (hr : ((rankI s x : Nat) : Int) = k) : nthB s k = true ∧ nthI s k = x := by
  have hat := rank_at s x h ht
  have hlt := (List.getElem?_eq_some_iff.1 hat).1
  have hb : nthB s k = true := by rw [← hr]; simp [nthB]; omega
  refine ⟨hb, ?_⟩
  unfold nthI
  rw [if_pos hb, ← hr, Int.toNat_natCast]
  unfold memAt
  rw [hat]; rfl
theorem nth_none {s k : Int} (h : ∀ x, x < 64 → tb s x = true → ((rankI s x : Nat) : Int) ≠ k) : nthB s k = false ∧ nthI s k = 0 := by
  have hb : nthB s k = false := by
    cases hb : nthB s k
    · rfl
    · exfalso
      simp only [nthB, Bool.and_eq_true, decide_eq_true_eq] at hb
      obtain ⟨h0, h1⟩ := hb
      obtain ⟨q, rfl⟩ := Int.eq_ofNat_of_zero_le h0
      have hq : q < (mems s).length := by omega
      obtain ⟨m1, m2⟩ := mem_mems.1 (List.getElem_mem hq)
      refine h _ m1 m2 ?_
      have h2 := rank_at s _ m1 m2
      have := mems_nodup s hq (j := rankI s ((mems s)[q] : Nat)) (by rw [h2, List.getElem?_eq_getElem hq])
      omega
  exact ⟨hb, by simp [nthI, hb]⟩

set_option maxRecDepth 100000 in
set_option maxHeartbeats 2000000 in
theorem nth_any (s k : Int) (w : World) (hs0 : 0 ≤ s) (hs1 : s < 18446744073709551616) :
    Calls Try.prog 17 #[.int .u64 s, .int .i64 k] w fun e w' => e = .returned (.tuple #[.int .i64 (nthI s k), .bool (nthB s k)]) ∧ Below w.heap.size w w' := by
  refine (callsIn_wide (n := 6)).1 ?_
  refine callsIn_of_wp_marks Try.func17 rfl trivial ?_ rfl
  simp only [Try.ntmps17, List.size_toArray, List.length_cons, List.length_nil, Nat.reduceAdd, Nat.reduceSub, Array.replicate_succ, Array.replicate_zero, List.push_toArray, List.append_toArray, List.nil_append, List.cons_append]
  gi_wp2_with (refine ⟨trivial, ?_⟩; gi_at_call 13; refine (callsIn_wide.2 (all_any _ _)).mono ?_; rintro e w2 ⟨rfl, rfl⟩)
  have b0 := Boxed.new w 31 (.int .u64 s)
  have b1 := Boxed.new (w.alloc (.cells #[.int .u64 s] 31)) 3 (.int .i64 k)
  have b2 := Boxed.new ((w.alloc (.cells #[.int .u64 s] 31)).alloc (.cells #[.int .i64 k] 3)) 3 (.int .i64 0)
  have b3 := Boxed.new (((w.alloc (.cells #[.int .u64 s] 31)).alloc (.cells #[.int .i64 k] 3)).alloc (.cells #[.int .i64 0] 3)) 4 (.bool false)
  have b4 := Boxed.new ((((w.alloc (.cells #[.int .u64 s] 31)).alloc (.cells #[.int .i64 k] 3)).alloc (.cells #[.int .i64 0] 3)).alloc (.cells #[.bool false] 4)) 31 (.int .u64 s)
  simp only [World.size_alloc] at b1 b2 b3 b4
  obtain ⟨W0, hW0⟩ : ∃ W0, ((((w.alloc (.cells #[.int .u64 s] 31)).alloc (.cells #[.int .i64 k] 3)).alloc (.cells #[.int .i64 0] 3)).alloc (.cells #[.bool false] 4)).alloc (.cells #[.int .u64 s] 31) = W0 := ⟨_, rfl⟩
  have B0 : Boxed W0 w.heap.size 31 (.int .u64 s) := by rw [← hW0]; exact (((b0.alloc _).alloc _).alloc _).alloc _
  have B1 : Boxed W0 (w.heap.size + 1) 3 (.int .i64 k) := by rw [← hW0]; exact ((b1.alloc _).alloc _).alloc _
  have B2 : Boxed W0 (w.heap.size + 1 + 1) 3 (.int .i64 0) := by rw [← hW0]; exact (b2.alloc _).alloc _
  have B3 : Boxed W0 (w.heap.size + 1 + 1 + 1) 4 (.bool false) := by rw [← hW0]; exact b3.alloc _
  have B4 : Boxed W0 (w.heap.size + 1 + 1 + 1 + 1) 31 (.int .u64 s) := by rw [← hW0]; exact b4
  have hB0 : Below w.heap.size w W0 := by
    rw [← hW0]
    exact (((((Below.refl _ w).alloc (Nat.le_refl _) _).alloc (by simp) _).alloc (by simp; omega) _).alloc (by simp; omega) _).alloc (by simp; omega) _
  have hsz : W0.heap.size = w.heap.size + 5 := by rw [← hW0]; simp
  rw [hW0]
  clear b0 b1 b2 b3 b4 hW0
  refine wpIn_rangeFunc_ownG rfl (by omega) (gf := 20) (lb := #[.pointer (some ⟨w.heap.size + 1 + 1 + 1 + 1, 0, none⟩)]) rfl trivial (enters_of Try.func20 (by kernel_rfl) rfl)
    (all_stops 5 (by omega) (w.heap.size + 1 + 1 + 1 + 1) s hs0 hs1 _ B4) keepsBox_t (fun W l o o' _ hl hc _ => keepsBox_b W l o o' hl hc) (Below.refl _ _) (fun _ => rfl)
    (fun pre W => ((∀ y : Mem s, y ∈ pre → ((rankI s y.1 : Nat) : Int) ≠ k) ∧ Boxed W w.heap.size 31 (.int .u64 s)) ∧ (Boxed W (w.heap.size + 1) 3 (.int .i64 k) ∧ Boxed W (w.heap.size + 1 + 1) 3 (.int .i64 0)) ∧ (Boxed W (w.heap.size + 1 + 1 + 1) 4 (.bool false) ∧ Below w.heap.size w W))
    (fun c pre W => (c = .ret ∧ ∃ x : Mem s, x ∈ pre ∧ ((rankI s x.1 : Nat) : Int) = k ∧ Boxed W (w.heap.size + 1 + 1) 3 (.int .i64 (x.1 : Int)) ∧ Boxed W (w.heap.size + 1 + 1 + 1) 4 (.bool true)) ∧ Below w.heap.size w W)
    (OwnFrom.and (OwnFrom.and (ownFrom_pure _ _) (Own.from (boxed_own _ _ _) _)) (OwnFrom.and (OwnFrom.and (Own.from (boxed_own _ _ _) _) (Own.from (boxed_own _ _ _) _)) (OwnFrom.and (Own.from (boxed_own _ _ _) _) (ownFrom_below (Nat.le_refl _) (by omega)))))
    (fun c => OwnFrom.and (fun pre A B row hs hg hr => ⟨hs.1, by
        obtain ⟨x, hx, hk, h2, h3⟩ := hs.2
        refine ⟨x, hx, hk, ?_, ?_⟩
        · exact boxed_own (β := Unit) _ _ (fun _ => _) () A B row h2 hg (fun r e => (hr r e).2)
        · exact boxed_own (β := Unit) _ _ (fun _ => _) () A B row h3 hg (fun r e => (hr r e).2)⟩) (ownFrom_below (Nat.le_refl _) (by omega)))
    ⟨⟨fun y hy => absurd hy (by simp), B0⟩, ⟨B1, B2⟩, ⟨B3, hB0⟩⟩
    (fun x => { tmps := #[.int .u64 s, .int .i64 k, .pointer (some ⟨w.heap.size, 0, none⟩), .pointer (some ⟨w.heap.size + 1, 0, none⟩), .pointer (some ⟨w.heap.size + 1 + 1, 0, none⟩), .pointer (some ⟨w.heap.size + 1 + 1 + 1, 0, none⟩), .int .i64 (x.1 : Int), .int .u64 s, .func (.func 20) #[] #[.pointer (some ⟨w.heap.size + 1 + 1 + 1 + 1, 0, none⟩)], .int .i64 (x.1 : Int), undef, undef, undef, undef, undef, undef], defers := [] }) ?assign ?body ?done ?stop
  case assign =>
    intro l x W K hK
    gi_wp2
    exact hK
  case body =>
    rintro l pre x W ⟨⟨hp, c0⟩, ⟨c1, c2⟩, c3, hB⟩ hlt
    have k0 := c0.cell
    have k1 := c1.cell
    have k2 := c2.cell
    have k3 := c3.cell
    have f2 := c2.frozen
    have f3 := c3.frozen
    have hx64 := x.2.1
    have hmx : Try.prog.follows .mixedOrders = true := by kernel_rfl
    have hrk := fun w => rank_any s (x.1 : Int) w hs0 hs1 (by omega)
    have HP : Hid (∀ y : Mem s, y ∈ pre → ((rankI s y.1 : Nat) : Int) ≠ k) := hp
    clear hp B0 B1 B2 B3 B4 hB0
    by_cases hr : ((rankI s x.1 : Nat) : Int) = k
    · have hr' : (((rankI s x.1 : Nat) : Int) == k) = true := by simp [hr]
      have HR : Hid (((rankI s x.1 : Nat) : Int) = k) := hr
      clear hr
      gi_wp2
      gi_region_with_o (refine ⟨trivial, ?_⟩; gi_at_call 24; refine (CallsIn.inRound l (callsIn_wide.2 (hrk _))).mono ?_; rintro e w' ⟨rfl, rfl⟩)
      all_goals gi_wp2
      all_goals refine ⟨(((KeepsOthers.setCell _ _ _).trans (KeepsOthers.setCell _ _ _)).trans (KeepsOthers.drew _)).from _, ⟨rfl, x, by simp, HR.out, ?_, ?_⟩, ?_⟩
      all_goals first
        | exact (c2.set _).other (by omega) _
        | exact (c3.other (by omega) _).set _
        | exact ((hB.setCell (p := ⟨w.heap.size + 1 + 1, 0, none⟩) (by simp; omega) _).setCell (p := ⟨w.heap.size + 1 + 1 + 1, 0, none⟩) (by simp; omega) _).drew
    · have hr' : (((rankI s x.1 : Nat) : Int) == k) = false := by simp [hr]
      have HR : Hid (((rankI s x.1 : Nat) : Int) ≠ k) := hr
      clear hr
      gi_wp2
      gi_region_with_o (refine ⟨trivial, ?_⟩; gi_at_call 24; refine (CallsIn.inRound l (callsIn_wide.2 (hrk _))).mono ?_; rintro e w' ⟨rfl, rfl⟩)
      all_goals gi_wp2
      all_goals refine ⟨(KeepsOthers.drew _).from _, fun h => h, ⟨fun y hy => ?_, c0⟩, ⟨c1, c2⟩, c3, hB.drew⟩
      all_goals
        rcases List.mem_append.1 hy with hy | hy
        · exact HP.out y hy
        · rw [List.mem_singleton.1 hy]; exact HR.out
  case done =>
    rintro D ys W hD rfl ⟨⟨hp, c0⟩, ⟨c1, c2⟩, c3, hB⟩ hK
    obtain ⟨hn1, hn2⟩ := nth_none (s := s) (k := k) fun x hx ht => by
      have hm : x ∈ (memS s 64).map (·.1) := by rw [memS_map s 64 (by omega)]; exact mem_mems.2 ⟨hx, ht⟩
      obtain ⟨y, hy, rfl⟩ := List.mem_map.1 hm
      exact hp y hy
    have H1 : Hid (nthB s k = false) := hn1
    have H2 : Hid (nthI s k = 0) := hn2
    have k2 := c2.cell
    have k3 := c3.cell
    have f2 := c2.frozen
    have f3 := c3.frozen
    clear hp hn1 hn2 B0 B1 B2 B3 B4 hB0
    gi_wp2
    have hK' := ((KeepsOthers.setCell W ⟨w.heap.size + 1 + 1, 0, none⟩ (.int .i64 0)).trans (KeepsOthers.setCell _ ⟨w.heap.size + 1 + 1 + 1, 0, none⟩ (.bool false))).same D _ hK rfl
    refine ⟨by simp, .inl ⟨_, _, rfl, run_takeDeferred hK', ?_⟩⟩
    have g2 := cell_kept ((c2.set (.int .i64 0)).other (B' := w.heap.size + 1 + 1 + 1) (by omega) (.bool false)).cell (grownBy_putObj' _ D (.deferred none)) (fun r e => by cases e; exact ⟨_, hK', rfl⟩)
    have g3 := cell_kept ((c3.other (B' := w.heap.size + 1 + 1) (by omega) (.int .i64 0)).set (.bool false)).cell (grownBy_putObj' _ D (.deferred none)) (fun r e => by cases e; exact ⟨_, hK', rfl⟩)
    refine ⟨.tuple #[.int .i64 0, .bool false], ?_, by rw [H1.out, H2.out], ((hB.setCell (p := ⟨w.heap.size + 1 + 1, 0, none⟩) (by simp; omega) _).setCell (p := ⟨w.heap.size + 1 + 1 + 1, 0, none⟩) (by simp; omega) _).trans (belowK_b (w := w) (Nat.le_refl _) _ D _ _ (by omega) hK' rfl rfl)⟩
    simp [results, Try.f17, go_sem, g2, g3]
  case stop =>
    rintro D c pre W hD _ ⟨⟨rfl, x, hx, hk, c2, c3⟩, hB⟩ hK
    obtain ⟨hn1, hn2⟩ := nth_found x.2.1 x.2.2 hk
    have H1 : Hid (nthB s k = true) := hn1
    have H2 : Hid (nthI s k = (x.1 : Int)) := hn2
    clear hn1 hn2 B0 B1 B2 B3 B4 hB0
    gi_wp2
    refine ⟨by simp, .inl ⟨_, _, rfl, run_takeDeferred hK, ?_⟩⟩
    have g2 := cell_kept c2.cell (grownBy_putObj' _ D (.deferred none)) (fun r e => by cases e; exact ⟨_, hK, rfl⟩)
    have g3 := cell_kept c3.cell (grownBy_putObj' _ D (.deferred none)) (fun r e => by cases e; exact ⟨_, hK, rfl⟩)
    refine ⟨.tuple #[.int .i64 (x.1 : Int), .bool true], ?_, by rw [H1.out, H2.out], hB.trans (belowK_b (w := w) (Nat.le_refl _) _ D _ _ (by omega) hK rfl rfl)⟩
    simp [results, Try.f17, go_sem, g2, g3]

end Go.Proofs.Ytlfmkgfhopbegab
