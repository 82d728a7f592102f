/- bits.Turn: rows turned around, worked out in an array; a loop over an iterator in a loop. -/
import Derived.Test.YtcfpfddbbhphgabClo
namespace Go.Proofs.Ytcfpfddbbhphgab
open Go.RowKit Go.Shelf
attribute [local go_sem] Oper.semAt_some

/-! ### the marks that loops over iterators leave for the function's end -/
def mark (D : Nat) : Deferred := { target := .collected D, args := #[] }
/-- each of the blocks ms is a block for deferred calls, empty, at or beyond lo; no two are one -/
def Marks (W : World) (lo : Nat) (ms : List Nat) : Prop := (∀ D, D ∈ ms → lo ≤ D ∧ W.heap[D]? = some (.deferred (some []))) ∧ ms.Pairwise (· ≠ ·)
theorem Marks.nil (W : World) (lo : Nat) : Marks W lo [] := ⟨fun _ h => absurd h (by simp), .nil⟩
theorem Marks.lt {W : World} {lo : Nat} {ms : List Nat} (h : Marks W lo ms) {D : Nat} (hD : D ∈ ms) : D < W.heap.size := (Array.getElem?_eq_some_iff.1 (h.1 D hD).2).1
theorem Marks.cons {W : World} {lo D : Nat} {ms : List Nat} (h : Marks W lo ms) (hD : lo ≤ D) (hK : W.heap[D]? = some (.deferred (some []))) (hne : D ∉ ms) : Marks W lo (D :: ms) :=
  ⟨fun d hd => by
    rcases List.mem_cons.1 hd with rfl | hd
    · exact ⟨hD, hK⟩
    · exact h.1 d hd, List.pairwise_cons.2 ⟨fun d hd e => hne (e ▸ hd), h.2⟩⟩
theorem Marks.keeps {W W' : World} {lo : Nat} {ms : List Nat} (h : Marks W lo ms) (hk : KeepsOthers W W') : Marks W' lo ms :=
  ⟨fun D hD => ⟨(h.1 D hD).1, hk.same D _ (h.1 D hD).2 rfl⟩, h.2⟩
theorem Marks.below {W W' : World} {lo : Nat} {ms : List Nat} (h : Marks W lo ms) (hb : Below W.heap.size W W') : Marks W' lo ms :=
  ⟨fun D hD => ⟨(h.1 D hD).1, (hb.block D (h.lt hD)).trans (h.1 D hD).2⟩, h.2⟩
theorem marks_own (lo B : Nat) (ms : List Nat) {β : Type} (hB : ∀ D, D ∈ ms → D < B) : OwnFrom B (fun (_ : β) W => Marks W lo ms) := fun _ W W' row hs hg hr =>
  ⟨fun D hD => ⟨(hs.1 D hD).1, (hg.block D (hs.lt hD) (fun e => by have h1 := (hr D e.symm).1; have h2 := hB D hD; omega)).trans (hs.1 D hD).2⟩, hs.2⟩

/-- at the function's end each mark is taken up; K abides that -/
theorem leaves_marks {F : Fence} {n : Nat} {P : Program} {fn : Func} {tmps : Array Value} {R : Ending → World → Prop} (lo : Nat) (K : World → Prop)
    (hK : ∀ W D, K W → lo ≤ D → W.heap[D]? = some (.deferred (some [])) → K (W.putObj D (.deferred none)))
    (hR : ∀ W, K W → LeavesInM F n P fn tmps R [] .returning W) : ∀ (ms : List Nat) (W : World), Marks W lo ms → K W → LeavesInM F n P fn tmps R (ms.map mark) .returning W := by
  intro ms
  induction ms with
  | nil => exact fun W _ h => hR W h
  | cons D ms ih =>
    intro W hm hk
    have hD := hm.1 D (by simp)
    refine ⟨by simp, .inl ⟨D, _, rfl, run_takeDeferred hD.2, ih _ ?_ (hK W D hk hD.1 hD.2)⟩⟩
    obtain ⟨hne, hp⟩ := List.pairwise_cons.1 hm.2
    exact ⟨fun d hd => ⟨(hm.1 d (by simp [hd])).1, (World.putObj_heap_other (fun e => hne d hd e.symm)).trans (hm.1 d (by simp [hd])).2⟩, hp⟩

theorem grid_own {β : Type} (B : Nat) (f : β → Nat → Int) : Own (fun s W => GridIs W B (f s)) := fun _ _ _ _ hs hg hr => fun j hj =>
  ⟨cell_kept (hs j hj).1 hg hr, (frozen_kept (hs j hj).1 hg hr).trans (hs j hj).2⟩

theorem Boxed.otherAt {W : World} {B B' : Nat} {t : TypeId} {v : Value} (h : Boxed W B t v) (hne : B ≠ B') (o : Nat) (u : Value) : Boxed (W.setCell ⟨B', o, none⟩ u) B t v :=
  (Below.heap_setCell _ _ _ B (fun e => hne e)).trans h

/-! ### the turned rows, as they are worked out -/
def turnStep (g : Nat → Int) (i : Nat) (l : List Nat) : Nat → Int := l.foldl (fun g x => upd g x (setI (g x) i)) g
theorem turnStep_snoc (g : Nat → Int) (i : Nat) (l : List Nat) (x : Nat) : turnStep g i (l ++ [x]) = upd (turnStep g i l) x (setI (turnStep g i l x) i) := by simp [turnStep]
def turnTo (z : Nat → Int) : Nat → (Nat → Int)
  | 0 => fun _ => 0
  | k + 1 => turnStep (turnTo z k) k (mems (z k))
theorem turnStep_bd {g : Nat → Int} (h : Bd g) {i : Nat} (hi : i < 64) (l : List Nat) : Bd (turnStep g i l) := by
  unfold turnStep
  induction l generalizing g with
  | nil => exact h
  | cons x l ih => exact ih (h.upd x (setI_nonneg _ _) (setI_lt (h x).2 hi))
theorem turnTo_bd (z : Nat → Int) {k : Nat} (hk : k ≤ 64) : Bd (turnTo z k) := by
  induction k with
  | zero => exact fun _ => ⟨Int.le_refl 0, by show (0 : Int) < _; decide⟩
  | succ k ih => exact turnStep_bd (ih (by omega)) (by omega) _

set_option maxHeartbeats 1000000 in
theorem turn_bad (a : Option Addr) (n cap : Nat) (z : Nat → Int) (w : World) (hn : n < 9223372036854775807) (hc : Cells w .u64 a n z) (hz : ∀ j, j < n → 0 ≤ z j ∧ z j < 18446744073709551616) (hk : chkI n z ≠ 0) :
    Calls Try.prog 30 #[.slice a n cap] w fun e w' => e = .returned (.tuple #[.slice none 0 0, .int .i64 (chkI n z)]) ∧ w' = w := by
  have hchk := check_any a n cap z w hn hc hz
  have hne : (chkI n z != 0) = true := by simp [hk]
  generalize chkI n z = c at *
  clear hk hc hz
  go_enter Try.func30, Try.ntmps30
  go_wp2_with (go_at_call 40; refine hchk.mono ?_; rintro e w' ⟨rfl, rfl⟩)
  go_ret2
  exact ⟨rfl, rfl⟩

set_option maxRecDepth 100000 in
set_option maxHeartbeats 4000000 in
theorem turn_ok (a : Option Addr) (n cap : Nat) (z : Nat → Int) (w : World) (hc : Cells w .u64 a n z) (hz : ∀ j, j < n → 0 ≤ z j ∧ z j < 18446744073709551616) (hk : chkI n z = 0) :
    Calls Try.prog 30 #[.slice a n cap] w fun e w' => ∃ v, e = .returned (.tuple #[v, .int .i64 0]) ∧ w'.ownsRow w.heap.size 35 1 v n (encU n (turnTo z n)) ∧ Below w.heap.size w w' := by
  have HZ : Hid (∀ j, j < n → 0 ≤ z j ∧ z j < 18446744073709551616) := hz
  have hn := (chk_ok hk).1
  have hchk := check_any a n cap z w (by omega) hc HZ.out
  rw [hk] at hchk
  have HC : Hid (Cells w .u64 a n z) := hc
  clear hc hz hk
  refine (callsIn_wide (n := 8)).1 ?_
  refine callsIn_of_wp_marks Try.func30 rfl trivial ?_ rfl
  simp only [Try.ntmps30, List.size_toArray, List.length_cons, List.length_nil, Nat.reduceAdd, Nat.reduceSub, Array.replicate_succ, Array.replicate_zero, List.push_toArray, List.append_toArray, List.nil_append, List.cons_append]
  gi_wp2_with (refine ⟨trivial, ?_⟩; gi_at_call 40; refine (callsIn_wide.2 hchk).mono ?_; rintro e w1 ⟨rfl, hw1⟩; subst hw1)
  have g0 := grid_new w1
  have hB0 : Below w1.heap.size w1 (w1.alloc (.cells zeros 72)) := (Below.refl w1.heap.size w1).alloc (Nat.le_refl _) (.cells zeros 72)
  refine wpIn_loop (fun act wr => ∃ (k : Nat) (u6 u7 u17 u18 u19 u20 u21 u22 u31 : Value) (ms : List Nat), k ≤ n ∧
      act = { tmps := #[.slice a n cap, undef, .slice none 0 0, .int .i64 0, .int .i64 0, .pointer (some ⟨w1.heap.size, 0, none⟩), u6, u7, undef, .slice a n cap, .int .i64 0, .int .i64 0, .bool false, undef, .slice a n cap, .int .i64 n, .int .i64 k, u17, u18, u19, u20, u21, u22, undef, undef, undef, undef, undef, undef, undef, undef, u31, undef, undef, undef], defers := ms.map mark } ∧
      GridIs wr w1.heap.size (turnTo z k) ∧ Marks wr w1.heap.size ms ∧ Below w1.heap.size w1 wr) (fun act _ => n - (intOf (act.tmps.getD 16 undef)).toNat) ?start ?round
  case start => exact ⟨0, undef, undef, undef, undef, undef, undef, undef, undef, undef, [], Nat.zero_le _, rfl, g0, Marks.nil _ _, hB0⟩
  case round =>
    clear g0 hB0 hchk
    rintro act wr ⟨k, u6, u7, u17, u18, u19, u20, u21, u22, u31, ms, hk, rfl, hg, hm, hbel⟩
    by_cases hlt : k < n
    · obtain ⟨b, off, rfl, hcell⟩ := HC.out.below hbel k hlt
      obtain ⟨hz0, hz1⟩ := HZ.out k hlt
      gi_wp2_with (refine ⟨trivial, ?_⟩; gi_at_call 26; refine (callsIn_wide.2 (all_any _ _)).mono ?_; rintro e w2 ⟨rfl, rfl⟩)
      have bI0 := Boxed.new wr 3 (.int .i64 k)
      have bS0 := Boxed.new (wr.alloc (.cells #[.int .i64 k] 3)) 35 (.int .u64 (z k))
      rw [World.size_alloc] at bS0
      have hsz := hbel.size
      have hB2 : Below w1.heap.size w1 ((wr.alloc (.cells #[.int .i64 k] 3)).alloc (.cells #[.int .u64 (z k)] 35)) := (hbel.alloc hsz _).alloc (by simp; omega) _
      have hm2 : Marks ((wr.alloc (.cells #[.int .i64 k] 3)).alloc (.cells #[.int .u64 (z k)] 35)) w1.heap.size ms := hm.keeps ((KeepsOthers.alloc _ _).trans (KeepsOthers.alloc _ _))
      have hg2 : GridIs ((wr.alloc (.cells #[.int .i64 k] 3)).alloc (.cells #[.int .u64 (z k)] 35)) w1.heap.size (turnTo z k) := hg.below (((Below.refl _ wr).alloc (Nat.le_refl _) _).alloc (by simp) _)
      have hmlt : ∀ D, D ∈ ms → D < wr.heap.size := fun D hD => hm.lt hD
      have hglt := hg.lt
      refine wpIn_rangeFunc_ownG rfl (by omega) (gf := 37) (lb := #[.pointer (some ⟨wr.heap.size + 1, 0, none⟩)]) rfl trivial (enters_of Try.func37 (by kernel_rfl) rfl)
        (all_stops 7 (by omega) (wr.heap.size + 1) (z k) hz0 hz1 _ bS0) keepsBox_t (fun W l o o' _ hl hc _ => keepsBox_b W l o o' hl hc) (Below.refl _ _) (fun _ => rfl)
        (fun pre W => (Boxed W wr.heap.size 3 (.int .i64 k) ∧ GridIs W w1.heap.size (turnStep (turnTo z k) k (pre.map (·.1)))) ∧ (Marks W w1.heap.size ms ∧ Below w1.heap.size w1 W))
        (fun _ _ _ => False)
        (OwnFrom.and (OwnFrom.and (Own.from (boxed_own _ _ _) _) (Own.from (grid_own _ _) _)) (OwnFrom.and (marks_own _ _ _ (fun D hD => by have := hmlt D hD; simp; omega)) (ownFrom_below (Nat.le_refl _) (by simp; omega))))
        (fun _ _ _ _ _ hs _ _ => hs)
        ⟨⟨bI0.alloc _, hg2⟩, hm2, hB2⟩
        (fun x => { tmps := #[.slice (some ⟨b, off, none⟩) n cap, undef, .slice none 0 0, .int .i64 0, .int .i64 0, .pointer (some ⟨w1.heap.size, 0, none⟩), .pointer (some ⟨wr.heap.size, 0, none⟩), .int .u64 (z k), .int .i64 (x.1 : Int), .slice (some ⟨b, off, none⟩) n cap, .int .i64 0, .int .i64 0, .bool false, undef, .slice (some ⟨b, off, none⟩) n cap, .int .i64 n, .int .i64 k, .bool true, .int .i64 k, .pointer (some ⟨b, off + k, none⟩), .int .u64 (z k), .int .u64 (z k), .func (.func 37) #[] #[.pointer (some ⟨wr.heap.size + 1, 0, none⟩)], .int .i64 (x.1 : Int), undef, undef, undef, undef, undef, undef, undef, u31, undef, undef, undef], defers := [] }) ?assign ?body ?done ?stop
      case assign =>
        intro l x W K hK
        gi_wp2
        exact hK
      case body =>
        rintro l pre x W ⟨⟨bI, hgr⟩, hmk, hB⟩ hlen
        have hbd := turnStep_bd (turnTo_bd z (show k ≤ 64 by omega)) (show k < 64 by omega) (pre.map (·.1))
        have HS : Hid (turnStep (turnTo z k) k ((pre ++ [x]).map (·.1)) = upd (turnStep (turnTo z k) k (pre.map (·.1))) x.1 (setI (turnStep (turnTo z k) k (pre.map (·.1)) x.1) k)) := by
          show _ = _
          rw [List.map_append]; exact turnStep_snoc _ _ _ _
        generalize turnStep (turnTo z k) k (pre.map (·.1)) = G at *
        have hx64 := x.2.1
        obtain ⟨hx0, hx1⟩ := hbd x.1
        obtain ⟨hgx, hfx⟩ := hgr x.1 hx64
        have kI := bI.cell
        have hmx : Try.prog.follows .mixedOrders = true := by kernel_rfl
        have hne1 : wr.heap.size + 1 ≠ w1.heap.size := by omega
        have hne2 : wr.heap.size ≠ w1.heap.size := by omega
        have hset : Hid (GridIs (W.setCell ⟨w1.heap.size, x.1, none⟩ (.int .u64 (bits .or .u64 (G x.1) (IntKind.u64.wrap (2 ^ k))))) w1.heap.size (turnStep (turnTo z k) k ((pre ++ [x]).map (·.1)))) := by
          show GridIs _ _ _
          rw [HS.out, or_bit' hx0 hx1 (by omega)]; exact hgr.set hx64 _
        clear hbd bS0 bI0 hm2 hg2 hB2 hg hm
        gi_wp2
        gi_region_with_o (fail)
        all_goals gi_wp2
        all_goals exact ⟨((KeepsOthers.setCell _ _ _).trans (KeepsOthers.drew _)).from _, fun h => Boxed.otherAt h hne1 _ _, ⟨Boxed.otherAt bI hne2 _ _, hset.out⟩, hmk.keeps ((KeepsOthers.setCell _ _ _).trans (KeepsOthers.drew _)), (hB.setCell (p := ⟨w1.heap.size, x.1, none⟩) (Nat.le_refl _) _).drew⟩
      case done =>
        rintro D ys W hD rfl ⟨⟨bI, hgr⟩, hmk, hB⟩ hK
        have HT : Hid (GridIs W w1.heap.size (turnTo z (k + 1))) := by
          show GridIs W _ (turnStep (turnTo z k) k (mems (z k)))
          rw [← show (memS (z k) 64).map (·.1) = mems (z k) from memS_map (z k) 64 (by omega)]; exact hgr
        have hM' : Hid (Marks W w1.heap.size (D :: ms)) := hmk.cons (by simp at hD; omega) hK (fun h => by have := hmlt D h; simp at hD; omega)
        clear bS0 bI0 hm2 hg2 hB2 hg hm hgr
        gi_wp2
        refine ⟨⟨k + 1, .pointer (some ⟨wr.heap.size, 0, none⟩), .int .u64 (z k), .bool true, .int .i64 k, .pointer (some ⟨b, off + k, none⟩), .int .u64 (z k), .int .u64 (z k), .func (.func 37) #[] #[.pointer (some ⟨wr.heap.size + 1, 0, none⟩)], .int .i64 ((k : Int) + 1), D :: ms, by omega, ?_, HT.out, hM'.out, hB⟩, ?_⟩
        · rw [show (((k + 1 : Nat)) : Int) = (k : Int) + 1 by omega]; rfl
        · simp [intOf]; omega
      case stop =>
        rintro D c pre W _ _ h _
        exact h.elim
    · obtain rfl : k = n := by omega
      gi_wp2_with (refine ⟨trivial, ?_⟩; gi_at_call 41; refine (callsIn_wide.2 (first_own _ _ _ _ hn hg)).mono ?_; rintro e w2 ⟨v, rfl, hown, hb2⟩)
      refine leaves_marks w1.heap.size (fun W => W.ownsRow w1.heap.size 35 1 v k (encU k (turnTo z k)) ∧ Below w1.heap.size w1 W) ?_ ?_ ms w2 (hm.below hb2) ⟨own_mono hown hbel.size, Below.onto hbel hb2⟩
      · rintro W D ⟨h1, h2⟩ hD hK
        exact ⟨ownsRow_putObj h1 _ hK rfl, h2.trans (belowK_b (w := w1) (Nat.le_refl _) W D _ _ hD hK rfl rfl)⟩
      · rintro W ⟨h1, h2⟩
        exact ⟨.tuple #[v, .int .i64 0], by simp [results, Try.f30, go_sem], v, rfl, h1, h2⟩

end Go.Proofs.Ytcfpfddbbhphgab
