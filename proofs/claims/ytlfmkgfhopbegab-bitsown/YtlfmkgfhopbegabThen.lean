/- bits.Then: one relation behind another one. -/
import Derived.Test.YtlfmkgfhopbegabTurn
namespace Go.Proofs.Ytlfmkgfhopbegab
open Go.RowKit Go.Shelf
attribute [local go_sem] Oper.semAt_some

def thenRow (l : List Nat) (y : Nat → Int) : Int := l.foldl (fun acc x => orI acc (y x)) 0
theorem thenRow_snoc (l : List Nat) (x : Nat) (y : Nat → Int) : thenRow (l ++ [x]) y = orI (thenRow l y) (y x) := by simp [thenRow]
def thenTo (z y : Nat → Int) (k : Nat) : Nat → Int := fun j => if j < k then thenRow (mems (z j)) y else 0
theorem thenTo_succ (z y : Nat → Int) (k : Nat) : upd (thenTo z y k) k (thenRow (mems (z k)) y) = thenTo z y (k + 1) := by
  funext j
  unfold upd thenTo
  by_cases e : j = k
  · subst e; simp
  · by_cases h : j < k
    · simp [e, h, show j < k + 1 by omega]
    · simp [e, h, show ¬ j < k + 1 by omega]
theorem upd_upd (g : Nat → Int) (k : Nat) (u v : Int) : upd (upd g k u) k v = upd g k v := by
  funext j; unfold upd; by_cases e : j = k <;> simp [e]
theorem upd_at (g : Nat → Int) (k : Nat) (v : Int) : upd g k v k = v := by simp [upd]
theorem thenRow_bd {n : Nat} {y : Nat → Int} (hy : ∀ j, j < n → 0 ≤ y j ∧ y j < 18446744073709551616) (l : List Nat) (hl : ∀ x, x ∈ l → x < n) : 0 ≤ thenRow l y ∧ thenRow l y < 18446744073709551616 := by
  have key : ∀ (l : List Nat) (acc : Int), (∀ x, x ∈ l → x < n) → 0 ≤ acc ∧ acc < 18446744073709551616 → 0 ≤ l.foldl (fun acc x => orI acc (y x)) acc ∧ l.foldl (fun acc x => orI acc (y x)) acc < 18446744073709551616 := by
    intro l
    induction l with
    | nil => exact fun acc _ h => h
    | cons x l ih =>
      intro acc hl h
      exact ih _ (fun x' hx => hl x' (by simp [hx])) ⟨orI_nonneg _ _, orI_lt h.2 (hy x (hl x (by simp))).2⟩
  exact key l 0 hl ⟨by decide, by decide⟩
theorem chk_row {n : Nat} {z : Nat → Int} (h : chkI n z = 0) {k : Nat} (hk : k < n) {x : Nat} (hx : x < 64) (ht : tb (z k) x = true) : x < n :=
  rowOk_iff.1 (chkB_iff.1 (chk_ok h).2 k hk) x hx ht

set_option maxHeartbeats 1000000 in
theorem then_bad1 (a b : Option Addr) (n m ca cb : Nat) (z : Nat → Int) (w : World) (hn : n < 9223372036854775807) (hc : Cells w .u64 a n z) (hz : ∀ j, j < n → 0 ≤ z j ∧ z j < 18446744073709551616) (hk : chkI n z ≠ 0) :
    Calls Try.prog 7 #[.slice a n ca, .slice b m cb] w fun e w' => e = .returned (.tuple #[.slice none 0 0, .int .i64 (chkI n z)]) ∧ Below w.heap.size w w' := by
  have hb0 := (Below.refl w.heap.size w).alloc (Nat.le_refl _) (.cells #[.slice b m cb] 22)
  have hchk := check_any a n ca z _ hn (hc.below hb0) hz
  have hne : (chkI n z != 0) = true := by simp [hk]
  generalize chkI n z = c at *
  clear hk hc hz
  go_enter Try.func7, Try.ntmps7
  go_wp2_with fail
  refine hchk.mono ?_
  rintro e w' ⟨rfl, rfl⟩
  go_wp2_with fail
  go_ret2
  exact ⟨rfl, hb0⟩
set_option maxHeartbeats 1000000 in
theorem then_bad2 (a b : Option Addr) (n m ca cb : Nat) (z y : Nat → Int) (w : World) (hn : n < 9223372036854775807) (hm : m < 9223372036854775807) (hc : Cells w .u64 a n z) (hd : Cells w .u64 b m y) (hz : ∀ j, j < n → 0 ≤ z j ∧ z j < 18446744073709551616) (hy : ∀ j, j < m → 0 ≤ y j ∧ y j < 18446744073709551616) (hk : chkI n z = 0) (hl : chkI m y ≠ 0) :
    Calls Try.prog 7 #[.slice a n ca, .slice b m cb] w fun e w' => e = .returned (.tuple #[.slice none 0 0, .int .i64 (chkI m y)]) ∧ Below w.heap.size w w' := by
  have hb0 := (Below.refl w.heap.size w).alloc (Nat.le_refl _) (.cells #[.slice b m cb] 22)
  have hchk := check_any a n ca z _ hn (hc.below hb0) hz
  have hchk2 := check_any b m cb y _ hm (hd.below hb0) hy
  rw [hk] at hchk
  have hne : (chkI m y != 0) = true := by simp [hl]
  generalize chkI m y = c at *
  clear hk hc hz hy hl hd
  go_enter Try.func7, Try.ntmps7
  go_wp2_with fail
  refine hchk.mono ?_
  rintro e w' ⟨rfl, rfl⟩
  go_wp2_with fail
  refine hchk2.mono ?_
  rintro e w' ⟨rfl, rfl⟩
  go_wp2_with fail
  go_ret2
  exact ⟨rfl, hb0⟩
set_option maxHeartbeats 1000000 in
theorem then_arg (a b : Option Addr) (n m ca cb : Nat) (z y : Nat → Int) (w : World) (hc : Cells w .u64 a n z) (hd : Cells w .u64 b m y) (hz : ∀ j, j < n → 0 ≤ z j ∧ z j < 18446744073709551616) (hy : ∀ j, j < m → 0 ≤ y j ∧ y j < 18446744073709551616) (hk : chkI n z = 0) (hl : chkI m y = 0) (hnm : n ≠ m) :
    Calls Try.prog 7 #[.slice a n ca, .slice b m cb] w fun e w' => e = .returned (.tuple #[.slice none 0 0, .int .i64 1]) ∧ Below w.heap.size w w' := by
  have hn := (chk_ok hk).1
  have hm := (chk_ok hl).1
  have hb0 := (Below.refl w.heap.size w).alloc (Nat.le_refl _) (.cells #[.slice b m cb] 22)
  have hchk := check_any a n ca z _ (by omega) (hc.below hb0) hz
  have hchk2 := check_any b m cb y _ (by omega) (hd.below hb0) hy
  rw [hk] at hchk
  rw [hl] at hchk2
  have hne : ((n : Int) != (m : Int)) = true := by simp; omega
  clear hk hc hz hy hl hd
  go_enter Try.func7, Try.ntmps7
  go_wp2_with fail
  refine hchk.mono ?_
  rintro e w' ⟨rfl, hw⟩
  subst hw
  go_wp2_with fail
  refine hchk2.mono ?_
  rintro e w' ⟨rfl, hw⟩
  subst hw
  go_wp2_with fail
  go_ret2
  exact ⟨rfl, hb0⟩

set_option maxRecDepth 100000 in
set_option maxHeartbeats 4000000 in
theorem then_ok (a b : Option Addr) (n ca cb : Nat) (z y : Nat → Int) (w : World) (hc : Cells w .u64 a n z) (hd : Cells w .u64 b n y) (hz : ∀ j, j < n → 0 ≤ z j ∧ z j < 18446744073709551616) (hy : ∀ j, j < n → 0 ≤ y j ∧ y j < 18446744073709551616) (hk : chkI n z = 0) (hl : chkI n y = 0) :
    Calls Try.prog 7 #[.slice a n ca, .slice b n cb] w fun e w' => ∃ v, e = .returned (.tuple #[v, .int .i64 0]) ∧ w'.ownsRow w.heap.size 31 1 v n (encU n (thenTo z y n)) ∧ Below w.heap.size w w' := by
  have HZ : Hid (∀ j, j < n → 0 ≤ z j ∧ z j < 18446744073709551616) := hz
  have HY : Hid (∀ j, j < n → 0 ≤ y j ∧ y j < 18446744073709551616) := hy
  have HK : Hid (chkI n z = 0) := hk
  have hn := (chk_ok hk).1
  have hb0 := (Below.refl w.heap.size w).alloc (Nat.le_refl _) (.cells #[.slice b n cb] 22)
  have bB := Boxed.new w 22 (.slice b n cb)
  have hchk := check_any a n ca z _ (by omega) (hc.below hb0) hz
  have hchk2 := check_any b n cb y _ (by omega) (hd.below hb0) hy
  rw [hk] at hchk
  rw [hl] at hchk2
  have HC : Hid (Cells (w.alloc (.cells #[.slice b n cb] 22)) .u64 a n z) := hc.below hb0
  have HD : Hid (Cells (w.alloc (.cells #[.slice b n cb] 22)) .u64 b n y) := hd.below hb0
  have hs1 : (w.alloc (.cells #[.slice b n cb] 22)).heap.size = w.heap.size + 1 := by simp
  clear hc hz hk hl hy hd
  refine (callsIn_wide (n := 8)).1 ?_
  refine callsIn_of_wp_marks Try.func7 rfl trivial ?_ rfl
  simp only [Try.ntmps7, List.size_toArray, List.length_cons, List.length_nil, Nat.reduceAdd, Nat.reduceSub, Array.replicate_succ, Array.replicate_zero, List.push_toArray, List.append_toArray, List.nil_append, List.cons_append]
  gi_wp2_with fail
  generalize hW1 : w.alloc (.cells #[.slice b n cb] 22) = w1 at *
  clear hW1
  refine ⟨trivial, ?_⟩
  refine (callsIn_wide.2 hchk).mono ?_
  rintro e w' ⟨rfl, hw⟩
  subst hw
  have kB := bB.cell
  gi_wp2_with fail
  refine ⟨trivial, ?_⟩
  refine (callsIn_wide.2 hchk2).mono ?_
  rintro e w' ⟨rfl, hw⟩
  subst hw
  gi_wp2_with fail
  have g0 := grid_new w'
  rw [hs1] at g0
  have hB0 : Below (w.heap.size + 1) w' (w'.alloc (.cells zeros 35)) := (Below.refl _ w').alloc (by omega) (.cells zeros 35)
  refine wpIn_loop (fun act wr => ∃ (k : Nat) (u9 u10 u30 u31 u32 u33 u34 u35 u46 : Value) (ms : List Nat), k ≤ n ∧
      act = { tmps := #[.slice a n ca, .slice b n cb, undef, .pointer (some ⟨w.heap.size, 0, none⟩), .slice none 0 0, .int .i64 0, .int .i64 0, .int .i64 0, .pointer (some ⟨w.heap.size + 1, 0, none⟩), u9, u10, undef, .slice a n ca, .int .i64 0, .int .i64 0, .bool false, undef, .slice b n cb, .int .i64 0, .int .i64 0, .bool false, undef, .slice a n ca, .int .i64 n, .slice b n cb, .int .i64 n, .bool false, .slice a n ca, .int .i64 n, .int .i64 k, u30, u31, u32, u33, u34, u35, undef, undef, undef, undef, undef, undef, undef, undef, undef, undef, u46, undef, undef, undef], defers := ms.map mark } ∧
      GridIs wr (w.heap.size + 1) (thenTo z y k) ∧ Marks wr (w.heap.size + 1) ms ∧ Below (w.heap.size + 1) w' wr) (fun act _ => n - (intOf (act.tmps.getD 29 undef)).toNat) ?start ?round
  case start => exact ⟨0, undef, undef, undef, undef, undef, undef, undef, undef, undef, [], Nat.zero_le _, rfl, g0.congr (fun j _ => by simp [thenTo]), Marks.nil _ _, hB0⟩
  case round =>
    clear g0 hB0 hchk hchk2 kB
    rintro act wr ⟨k, u9, u10, u30, u31, u32, u33, u34, u35, u46, ms, hk, rfl, hg, hm, hbel⟩
    have hsz := hbel.size
    rw [hs1] at hsz
    by_cases hlt : k < n
    · obtain ⟨ba, oa, rfl, hcell⟩ := HC.out.below (by rw [hs1]; exact hbel) k hlt
      obtain ⟨hz0, hz1⟩ := HZ.out k hlt
      have HR : Hid (∀ x, x < 64 → tb (z k) x = true → x < n) := fun x hx ht => chk_row HK.out hlt hx ht
      gi_wp2_with (refine ⟨trivial, ?_⟩; gi_at_call 13; refine (callsIn_wide.2 (all_any _ _)).mono ?_; rintro e w2 ⟨rfl, rfl⟩)
      have bI0 := Boxed.new wr 3 (.int .i64 k)
      have bS0 := Boxed.new (wr.alloc (.cells #[.int .i64 k] 3)) 31 (.int .u64 (z k))
      rw [World.size_alloc] at bS0
      have hB2 : Below (w.heap.size + 1) w' ((wr.alloc (.cells #[.int .i64 k] 3)).alloc (.cells #[.int .u64 (z k)] 31)) := (hbel.alloc (by omega) _).alloc (by simp; omega) _
      have hm2 : Marks ((wr.alloc (.cells #[.int .i64 k] 3)).alloc (.cells #[.int .u64 (z k)] 31)) (w.heap.size + 1) ms := hm.keeps ((KeepsOthers.alloc _ _).trans (KeepsOthers.alloc _ _))
      have hg2 : GridIs ((wr.alloc (.cells #[.int .i64 k] 3)).alloc (.cells #[.int .u64 (z k)] 31)) (w.heap.size + 1) (upd (thenTo z y k) k 0) := (hg.below (((Below.refl _ wr).alloc (Nat.le_refl _) _).alloc (by simp) _)).congr (fun j _ => by
        unfold upd thenTo; by_cases e : j = k
        · subst e; simp
        · simp [e])
      have hmlt : ∀ D, D ∈ ms → D < wr.heap.size := fun D hD => hm.lt hD
      have hglt := hg.lt
      refine wpIn_rangeFunc_ownG rfl (by omega) (gf := 20) (lb := #[.pointer (some ⟨wr.heap.size + 1, 0, none⟩)]) rfl trivial (enters_of Try.func20 (by kernel_rfl) rfl)
        (all_stops 7 (by omega) (wr.heap.size + 1) (z k) hz0 hz1 _ bS0) keepsBox_t (fun W l o o' _ hl hc _ => keepsBox_b W l o o' hl hc) (Below.refl _ _) (fun _ => rfl)
        (fun pre W => (Boxed W wr.heap.size 3 (.int .i64 k) ∧ GridIs W (w.heap.size + 1) (upd (thenTo z y k) k (thenRow (pre.map (·.1)) y))) ∧ (Marks W (w.heap.size + 1) ms ∧ Below (w.heap.size + 1) w' W))
        (fun _ _ _ => False)
        (OwnFrom.and (OwnFrom.and (Own.from (boxed_own _ _ _) _) (Own.from (grid_own _ _) _)) (OwnFrom.and (marks_own _ _ _ (fun D hD => by have := hmlt D hD; simp; omega)) (ownFrom_below (by omega) (by simp; omega))))
        (fun _ _ _ _ _ hs _ _ => hs)
        ⟨⟨bI0.alloc _, hg2⟩, hm2, hB2⟩
        (fun x => { tmps := #[.slice (some ⟨ba, oa, none⟩) n ca, .slice b n cb, undef, .pointer (some ⟨w.heap.size, 0, none⟩), .slice none 0 0, .int .i64 0, .int .i64 0, .int .i64 0, .pointer (some ⟨w.heap.size + 1, 0, none⟩), .pointer (some ⟨wr.heap.size, 0, none⟩), .int .u64 (z k), .int .i64 (x.1 : Int), .slice (some ⟨ba, oa, none⟩) n ca, .int .i64 0, .int .i64 0, .bool false, undef, .slice b n cb, .int .i64 0, .int .i64 0, .bool false, undef, .slice (some ⟨ba, oa, none⟩) n ca, .int .i64 n, .slice b n cb, .int .i64 n, .bool false, .slice (some ⟨ba, oa, none⟩) n ca, .int .i64 n, .int .i64 k, .bool true, .int .i64 k, .pointer (some ⟨ba, oa + k, none⟩), .int .u64 (z k), .int .u64 (z k), .func (.func 20) #[] #[.pointer (some ⟨wr.heap.size + 1, 0, none⟩)], .int .i64 (x.1 : Int), undef, undef, undef, undef, undef, undef, undef, undef, undef, u46, undef, undef, undef], defers := [] }) ?assign ?body ?done ?stop
      case assign =>
        intro l x W K hK
        gi_wp2
        exact hK
      case body =>
        rintro l pre x W ⟨⟨bI, hgr⟩, hmk, hB⟩ hlen
        have hxn : x.1 < n := HR.out x.1 x.2.1 x.2.2
        have hbd := thenRow_bd HY.out (pre.map (·.1)) (fun q hq => by
          obtain ⟨u, _, rfl⟩ := List.mem_map.1 hq
          exact HR.out u.1 u.2.1 u.2.2)
        have HS : Hid (thenRow ((pre ++ [x]).map (·.1)) y = orI (thenRow (pre.map (·.1)) y) (y x.1)) := by
          show _ = _
          rw [List.map_append]; exact thenRow_snoc _ _ _
        generalize thenRow (pre.map (·.1)) y = G at *
        obtain ⟨hx0, hx1⟩ := hbd
        obtain ⟨hy0, hy1⟩ := HY.out x.1 hxn
        have hgk := hgr k (by omega)
        rw [upd_at] at hgk
        obtain ⟨hgx, hfx⟩ := hgk
        have kI := bI.cell
        have kB := (show Boxed W w.heap.size 22 (.slice b n cb) from (hB.block _ (by omega)).trans bB).cell
        obtain ⟨bb, ob, hbb, hcb⟩ := HD.out.below (by rw [hs1]; exact hB) x.1 hxn
        have hmx : Try.prog.follows .mixedOrders = true := by kernel_rfl
        have hne1 : wr.heap.size + 1 ≠ w.heap.size + 1 := by omega
        have hne2 : wr.heap.size ≠ w.heap.size + 1 := by omega
        have hset : Hid (GridIs (W.setCell ⟨w.heap.size + 1, k, none⟩ (.int .u64 (bits .or .u64 G (y x.1)))) (w.heap.size + 1) (upd (thenTo z y k) k (thenRow ((pre ++ [x]).map (·.1)) y))) := by
          show GridIs _ _ _
          rw [HS.out, or_eq hx0 hx1 hy0 hy1, ← upd_upd (thenTo z y k) k G]; exact hgr.set (by omega) _
        subst hbb
        clear bS0 bI0 hm2 hg2 hB2 hg hm
        gi_wp2
        gi_region_with_o (fail)
        all_goals gi_wp2
        all_goals exact ⟨((KeepsOthers.setCell _ _ _).trans (KeepsOthers.drew _)).from _, fun h => Boxed.otherAt h hne1 _ _, ⟨Boxed.otherAt bI hne2 _ _, hset.out⟩, hmk.keeps ((KeepsOthers.setCell _ _ _).trans (KeepsOthers.drew _)), (hB.setCell (p := ⟨w.heap.size + 1, k, none⟩) (Nat.le_refl _) _).drew⟩
      case done =>
        rintro D ys W hD rfl ⟨⟨bI, hgr⟩, hmk, hB⟩ hK
        have HT : Hid (GridIs W (w.heap.size + 1) (thenTo z y (k + 1))) := by
          show GridIs W _ _
          rw [← thenTo_succ, ← show (memS (z k) 64).map (·.1) = mems (z k) from memS_map (z k) 64 (by omega)]; exact hgr
        have hM' : Hid (Marks W (w.heap.size + 1) (D :: ms)) := hmk.cons (by simp at hD; omega) hK (fun h => by have := hmlt D h; simp at hD; omega)
        clear bS0 bI0 hm2 hg2 hB2 hg hm hgr
        gi_wp2
        refine ⟨⟨k + 1, .pointer (some ⟨wr.heap.size, 0, none⟩), .int .u64 (z k), .bool true, .int .i64 k, .pointer (some ⟨ba, oa + k, none⟩), .int .u64 (z k), .int .u64 (z k), .func (.func 20) #[] #[.pointer (some ⟨wr.heap.size + 1, 0, none⟩)], .int .i64 ((k : Int) + 1), D :: ms, by omega, ?_, HT.out, hM'.out, hB⟩, ?_⟩
        · rw [show (((k + 1 : Nat)) : Int) = (k : Int) + 1 by omega]; rfl
        · simp [intOf]; omega
      case stop =>
        rintro D c pre W _ _ h _
        exact h.elim
    · obtain rfl : k = n := by omega
      gi_wp2_with (refine ⟨trivial, ?_⟩; gi_at_call 14; refine (callsIn_wide.2 (first_own _ _ _ _ hn hg)).mono ?_; rintro e w2 ⟨v, rfl, hown, hb2⟩)
      have hbw : Below w.heap.size w wr := hb0.trans (hbel.mono (by omega))
      refine leaves_marks (w.heap.size + 1) (fun W => W.ownsRow w.heap.size 31 1 v k (encU k (thenTo z y k)) ∧ Below w.heap.size w W) ?_ ?_ ms w2 (hm.below hb2) ⟨own_mono hown (by omega), Below.onto hbw hb2⟩
      · rintro W D ⟨h1, h2⟩ hD hK
        exact ⟨ownsRow_putObj h1 _ hK rfl, h2.trans (belowK_b (w := w) (Nat.le_refl _) W D _ _ (by omega) hK rfl rfl)⟩
      · rintro W ⟨h1, h2⟩
        exact ⟨.tuple #[v, .int .i64 0], by simp [results, Try.f7, go_sem], v, rfl, h1, h2⟩

end Go.Proofs.Ytlfmkgfhopbegab
