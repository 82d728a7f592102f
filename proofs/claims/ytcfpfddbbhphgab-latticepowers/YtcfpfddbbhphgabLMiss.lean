/- lattice.Missing: the flows that would make flows a policy. -/
import Derived.Test.YtcfpfddbbhphgabLRead
import Derived.Sort.CutIn
namespace Go.Proofs.Ytcfpfddbbhphgab
open Go.RowKit Go.Shelf
attribute [local go_sem] Oper.semAt_some
attribute [local go_sem ↓] wp_at wp_succ wp_zero wpIn_at wpIn_succ wpIn_zero

def encF (l : List (Nat × Nat)) : List Value := l.flatMap fun p => [Value.int .i64 (p.1 : Int), Value.int .i64 (p.2 : Int)]
theorem encF_snoc (l : List (Nat × Nat)) (p : Nat × Nat) : encF (l ++ [p]) = encF l ++ [Value.int .i64 (p.1 : Int), Value.int .i64 (p.2 : Int)] := by simp [encF]
theorem encF_len (l : List (Nat × Nat)) : (encF l).length = l.length * 2 := by
  induction l with
  | nil => rfl
  | cons p l ih =>
    have : (encF (p :: l)).length = 2 + (encF l).length := by simp [encF]; omega
    rw [this, ih]; simp; omega
/-- what the row i lacks -/
def lackI (n : Nat) (z : Nat → Int) (i : Nat) : Int := anI (clo n z i) (z i)
def msTo (n : Nat) (z : Nat → Int) (a : Nat) : List (Nat × Nat) := (List.range a).flatMap fun i => (mems (lackI n z i)).map fun j => (i, j)
theorem msTo_succ (n : Nat) (z : Nat → Int) (a : Nat) : msTo n z (a + 1) = msTo n z a ++ (mems (lackI n z a)).map fun j => (a, j) := by simp [msTo, List.range_succ]
theorem msTo_len (n : Nat) (z : Nat → Int) (a : Nat) : (msTo n z a).length ≤ a * 64 := by
  induction a with
  | zero => simp [msTo]
  | succ a ih =>
    rw [msTo_succ, List.length_append, List.length_map]
    have := memsTo_le (lackI n z a) 64
    have h : (mems (lackI n z a)).length ≤ 64 := this
    omega
theorem cell_two_new (w : World) (x y : Value) (t : TypeId) : ∀ j u, [x, y][j]? = some u → (w.alloc (.cells #[x, y] t)).cell? ((⟨w.heap.size, 0, none⟩ : Addr).add j) = some u := by
  intro j u hj
  have hb : (w.alloc (.cells #[x, y] t)).heap[w.heap.size]? = some (.cells #[x, y] t (0, 0)) := World.alloc_heap_new w _
  rw [Addr.add_lit, Nat.zero_add, cell_of_row _ _ j _ t (0, 0) hb]
  match j, hj with
  | 0, hj => exact hj
  | 1, hj => exact hj
theorem own_below {W W' : World} {base e size : Nat} {v : Value} {n : Nat} {xs : List Value} (h : W.ownsRow base e size v n xs) (hb : Below W.heap.size W W') : W'.ownsRow base e size v n xs := by
  refine ⟨h.1, ?_⟩
  rcases h.2 with h' | ⟨g', cap, cur, e, h1, hg, h2⟩
  · exact .inl h'
  · exact .inr ⟨g', cap, cur, e, h1, (hb.block g' (Array.getElem?_eq_some_iff.1 hg).1).trans hg, h2⟩
theorem Try.infoF : (Try.prog.info? 26).map (fun i => (i.zero, i.size, i.bytes)) = some (some (.agg #[.int .i64 0, .int .i64 0]), 2, 16) := by kernel_rfl

set_option maxRecDepth 100000 in
set_option maxHeartbeats 4000000 in
theorem missing_ok (a : Option Addr) (n cap : Nat) (z : Nat → Int) (w : World) (hc : Cells w .u64 a n z) (hz : Bds n z) (hk : shpE n z = 0) :
    Calls Try.prog 18 #[.slice a n cap] w fun e w' => ∃ v, e = .returned (.tuple #[v, .int .i64 0]) ∧ w'.ownsRow w.heap.size 26 2 v (msTo n z n).length (encF (msTo n z n)) ∧ Below w.heap.size w w' := by
  obtain ⟨i0, hi, hz0, hz1, hz2⟩ := info_parts Try.infoF
  obtain ⟨h1, h16, hchk⟩ := shpE_ok hk
  have HZ : Hid (Bds n z) := hz
  have HC : Hid (Cells w .u64 a n z) := hc
  have HCl : Hid (Bd (clo n z)) := clo_bd (by omega) hz
  have hcl := closed_un a n cap z w (by omega) hc hz
  rw [hk] at hcl
  have hl : lenIf 0 n = n := by simp [lenIf]
  clear hc hz hk hchk
  refine (callsIn_wide (n := 8)).1 ?_
  refine callsIn_of_wp_marks Try.func18 rfl trivial ?_ rfl
  simp only [Try.ntmps18, List.size_toArray, List.length_cons, List.length_nil, Nat.reduceAdd, Nat.reduceSub, Array.replicate_succ, Array.replicate_zero, List.push_toArray, List.append_toArray, List.nil_append, List.cons_append]
  have hmx : Try.prog.follows .mixedOrders = true := by kernel_rfl
  gi_wp2_with fail
  refine ⟨trivial, (callsIn_wide.2 hcl).mono ?_⟩
  rintro e w1 ⟨c, cc, rfl, hcc, hb1⟩
  rw [hl] at hcc
  rw [hl]
  have HCC : Hid (Cells w1 .u64 c n (clo n z)) := hcc
  clear hcc hcl
  gi_wp2_with fail
  have hBl : Below w.heap.size w (w1.alloc (.cells #[.slice none 0 0] 46)) := hb1.alloc hb1.size _
  have bL0 := Boxed.new w1 46 (.slice none 0 0)
  have hsw := hb1.size
  have HCA : Hid (Below w1.heap.size w1 (w1.alloc (.cells #[.slice none 0 0] 46))) := (Below.refl _ w1).alloc (Nat.le_refl _) _
  refine wpIn_loop (fun act wr => ∃ (k : Nat) (u7 u8 u20 u21 u22 u23 u24 u25 u26 u27 u28 u29 u30 u31 u32 u33 u34 u35 u36 u37 u38 u39 u40 : Value) (ms : List Nat), k ≤ n ∧
      act = { tmps := #[.slice a n cap, undef, .slice none 0 0, .int .i64 0, .slice c n cc, .int .i64 0, .pointer (some ⟨w1.heap.size, 0, none⟩), u7, u8, .tuple #[.slice c n cc, .int .i64 0], .slice a n cap, .tuple #[.slice c n cc, .int .i64 0], .slice c n cc, .int .i64 0, .int .i64 0, .bool false, undef, .slice c n cc, .int .i64 n, .int .i64 k, u20, u21, u22, u23, u24, u25, u26, u27, u28, u29, u30, u31, u32, u33, u34, u35, u36, u37, u38, u39, u40], defers := ms.map mark } ∧
      (∃ v, Boxed wr w1.heap.size 46 v ∧ wr.ownsRow w1.heap.size 26 2 v (msTo n z k).length (encF (msTo n z k))) ∧ Marks wr w1.heap.size ms ∧ Below w1.heap.size w1 wr) (fun act _ => n - (intOf (act.tmps.getD 19 undef)).toNat) ?start ?round
  case start => exact ⟨0, undef, undef, undef, undef, undef, undef, undef, undef, undef, undef, undef, undef, undef, undef, undef, undef, undef, undef, undef, undef, undef, undef, undef, [], Nat.zero_le _, rfl, ⟨_, bL0, World.ownsRow_nil _ _ _ _⟩, Marks.nil _ _, HCA.out⟩
  case round =>
    clear bL0 hBl HCA
    rintro act wr ⟨k, u7, u8, u20, u21, u22, u23, u24, u25, u26, u27, u28, u29, u30, u31, u32, u33, u34, u35, u36, u37, u38, u39, u40, ms, hk, rfl, ⟨v, bL, hrow⟩, hm, hbel⟩
    have hwr : Below w.heap.size w wr := Below.onto hb1 hbel
    by_cases hlt : k < n
    · obtain ⟨b1, o1, rfl, hc1⟩ := HCC.out.below hbel k hlt
      obtain ⟨b2, o2, rfl, hc2⟩ := HC.out.below hwr k hlt
      obtain ⟨l0, l1⟩ := HCl.out k
      obtain ⟨z0, z1⟩ := HZ.out k hlt
      have HAn : Hid (bits .andNot .u64 (clo n z k) (z k) = lackI n z k) := an_eq l0 l1 z0 z1
      have a0 := anI_nonneg (clo n z k) (z k)
      have a1 := anI_lt (z k) l1
      have HBW : Hid (Below wr.heap.size wr ((wr.alloc (.cells #[.int .i64 k] 3)).alloc (.cells #[.int .u64 (lackI n z k)] 35)).drew) := (((Below.refl _ wr).alloc (Nat.le_refl _) _).alloc (by simp) _).drew
      have bI0 := Boxed.new wr 3 (.int .i64 k)
      have d1 : (wr.alloc (.cells #[.int .i64 k] 3)).drew.cell? ⟨b1, o1 + k, none⟩ = some (.int .u64 (clo n z k)) := Lib.cell?_alloc_some _ hc1
      have d2 : (wr.alloc (.cells #[.int .i64 k] 3)).drew.cell? ⟨b2, o2 + k, none⟩ = some (.int .u64 (z k)) := Lib.cell?_alloc_some _ hc2
      have d3 := bI0.cell
      gi_wp2
      gi_cut [31] from 22 (fun s31 wx => s31 = .func (.func 37) #[] #[.pointer (some ⟨wr.heap.size + 1, 0, none⟩)] ∧ wx = ((wr.alloc (.cells #[.int .i64 k] 3)).alloc (.cells #[.int .u64 (lackI n z k)] 35)).drew)
      case first =>
        refine wpIn_calm ?_
        clear HBW hm hrow bL
        have han := HAn.out
        gi_region_with_o (refine ⟨trivial, ?_⟩; gi_at_call 26; refine (callsIn_wide.2 (all_any _ _)).mono ?_; rintro e w3 ⟨rfl, rfl⟩)
        all_goals gi_wp2
        all_goals gi_meet
        all_goals exact ⟨rfl, rfl⟩
      case rest =>
        obtain ⟨rfl, hwc⟩ := hcut
        have hBx : Below wr.heap.size wr wc := by rw [hwc]; exact HBW.out
        have bI1 : Boxed wc wr.heap.size 3 (.int .i64 k) := by rw [hwc]; exact bI0.alloc _
        have bA1 : Boxed wc (wr.heap.size + 1) 35 (.int .u64 (lackI n z k)) := by
          rw [hwc]
          have := Boxed.new (wr.alloc (.cells #[.int .i64 k] 3)) 35 (.int .u64 (lackI n z k))
          rwa [World.size_alloc] at this
        have hsx : wc.heap.size = wr.heap.size + 2 := by rw [hwc]; simp
        have bL1 := Boxed.through bL hBx
        have hrow1 := own_below hrow hBx
        have hm1 := hm.below hBx
        have hB1 : Below w1.heap.size w1 wc := Below.onto hbel hBx
        have hszr := hbel.size
        have hmlt : ∀ D, D ∈ ms → D < wr.heap.size := fun D hD => hm.lt hD
        have hLl := msTo_len n z k
        have hL1 := bL.lt
        clear hwc HBW bI0 d1 d2 d3 hc1 hc2 bL hrow hm hbel hwr HAn
        gi_wp2
        refine wpIn_rangeFunc_ownG rfl (by omega) (gf := 37) (lb := #[.pointer (some ⟨wr.heap.size + 1, 0, none⟩)]) rfl trivial (enters_of Try.func37 (by kernel_rfl) rfl)
          (all_stops 7 (by omega) (wr.heap.size + 1) (lackI n z k) a0 a1 _ bA1) keepsBox_t (fun W l o o' _ hl hc _ => keepsBox_b W l o o' hl hc) (Below.refl _ _) (fun _ => rfl)
          (fun (pre : List (Mem (lackI n z k))) W => ((∃ v, Boxed W w1.heap.size 46 v ∧ W.ownsRow w1.heap.size 26 2 v (msTo n z k ++ pre.map fun x => (k, x.1)).length (encF (msTo n z k ++ pre.map fun x => (k, x.1))) ∧ True) ∧ Boxed W wr.heap.size 3 (.int .i64 k)) ∧ (Marks W w1.heap.size ms ∧ Below w1.heap.size w1 W))
          (fun _ _ _ => False)
          (OwnFrom.and (OwnFrom.and (Own.from (holdsRow_own w1.heap.size w1.heap.size 46 26 2 (fun pre : List (Mem (lackI n z k)) => (msTo n z k ++ pre.map fun x => (k, x.1)).length) (fun pre => encF (msTo n z k ++ pre.map fun x => (k, x.1))) (fun _ _ => True)) _) (Own.from (boxed_own _ _ _) _)) (OwnFrom.and (marks_own _ _ _ (fun D hD => by have := hmlt D hD; omega)) (ownFrom_below (Nat.le_refl _) (by omega))))
          (fun _ _ _ _ _ hs _ _ => hs)
          ⟨⟨⟨_, bL1, by rw [List.map_nil, List.append_nil]; exact hrow1, trivial⟩, bI1⟩, hm1, hB1⟩
          (fun x : Mem (lackI n z k) => { tmps := #[.slice (some ⟨b2, o2, none⟩) n cap, undef, .slice none 0 0, .int .i64 0, .slice (some ⟨b1, o1, none⟩) n cc, .int .i64 0, .pointer (some ⟨w1.heap.size, 0, none⟩), .pointer (some ⟨wr.heap.size, 0, none⟩), .int .i64 (x.1 : Int), .tuple #[.slice (some ⟨b1, o1, none⟩) n cc, .int .i64 0], .slice (some ⟨b2, o2, none⟩) n cap, .tuple #[.slice (some ⟨b1, o1, none⟩) n cc, .int .i64 0], .slice (some ⟨b1, o1, none⟩) n cc, .int .i64 0, .int .i64 0, .bool false, undef, .slice (some ⟨b1, o1, none⟩) n cc, .int .i64 n, .int .i64 k, .bool true, .int .i64 k, u22, u23, u24, u25, u26, u27, u28, u29, u30, .func (.func 37) #[] #[.pointer (some ⟨wr.heap.size + 1, 0, none⟩)], .int .i64 (x.1 : Int), u33, u34, u35, u36, u37, u38, u39, u40], defers := [] }) ?assign ?body ?done ?stop
        case assign =>
          intro l x W K hK
          gi_wp2
          exact hK
        case body =>
          rintro l pre x W ⟨⟨⟨v, hv, hrow, _⟩, bI⟩, hmk, hB⟩ hlen
          have hc := hv.cell
          have ki := bI.cell
          have HS : Hid (msTo n z k ++ (pre ++ [x]).map (fun x => (k, x.1)) = (msTo n z k ++ pre.map fun x => (k, x.1)) ++ [(k, x.1)]) := by show _ = _; simp
          have hLn : (msTo n z k ++ pre.map fun x => (k, x.1)).length ≤ 2000 := by rw [List.length_append, List.length_map]; omega
          generalize (msTo n z k ++ pre.map fun x => (k, x.1)) = L at *
          have hsB := hB.size
          clear bI1 bA1 bL1 hrow1 hm1 hB1 hlen
          gi_wp2_with (gi_at_builtin; refine wpListIn_append_own _ rfl _ _ 46 rfl w1.heap.size 26 i0 (.agg #[.int .i64 0, .int .i64 0]) 2 16 Try.underlying46 hi hz0 hz1 hz2 rfl (by decide) _ _ _ rfl (hrow.alloc _) ⟨W.heap.size, 0, none⟩ 1 1 [.int .i64 k, .int .i64 (x.1 : Int)] rfl rfl (cell_two_new _ _ _ _) (by simp [Value.oneCell']) (by unfold maxLen; omega) (by omega) (by simp; omega) ?_; intro v' w3 hown' hgrow _; obtain ⟨g', cap', rfl⟩ := ownsRow_succ hown'; obtain ⟨hv1, hv2, hr2, hk2, hb2⟩ := hv.appended (by decide) hrow hsB (Nat.le_refl _) hown' hgrow; have hc1 := hv1.cell; have hf1 := hv1.frozen)
          refine ⟨hk2.from _, ?_, ⟨⟨_, hv2, ?_, trivial⟩, ?_⟩, hmk.keeps hk2, hB.trans hb2⟩
          · intro hbx
            exact ((hbx.alloc _).kept hgrow (hbx.not_row (by decide) hrow)).kept (grownBy_setCell' _ _ _) (by simp; omega)
          · show World.ownsRow _ _ _ _ _ (msTo n z k ++ (pre ++ [x]).map (fun x => (k, x.1))).length (encF (msTo n z k ++ (pre ++ [x]).map (fun x => (k, x.1))))
            rw [HS.out, encF_snoc, List.length_append]; exact hr2
          · exact ((bI.alloc _).kept hgrow (bI.not_row (by decide) hrow)).kept (grownBy_setCell' _ _ _) (by simp; omega)
        case done =>
          rintro D ys W hD rfl ⟨⟨⟨v, hv, hrow, _⟩, bI⟩, hmk, hB⟩ hK
          have em : msTo n z k ++ (memS (lackI n z k) 64).map (fun x => (k, x.1)) = msTo n z (k + 1) := by
            rw [msTo_succ, ← show (memS (lackI n z k) 64).map (·.1) = mems (lackI n z k) from memS_map _ 64 (by omega), List.map_map]; rfl
          rw [em] at hrow
          have hM' : Hid (Marks W w1.heap.size (D :: ms)) := hmk.cons (by omega) hK (fun h => by have := hmlt D h; omega)
          clear bI1 bA1 bL1 hrow1 hm1 hB1
          gi_wp2
          refine ⟨⟨k + 1, .pointer (some ⟨wr.heap.size, 0, none⟩), u8, .bool true, .int .i64 k, u22, u23, u24, u25, u26, u27, u28, u29, u30, .func (.func 37) #[] #[.pointer (some ⟨wr.heap.size + 1, 0, none⟩)], u32, u33, u34, u35, u36, u37, u38, .int .i64 ((k : Int) + 1), u40, D :: ms, by omega, ?_, ⟨v, hv, hrow⟩, hM'.out, hB⟩, ?_⟩
          · rw [show (((k + 1 : Nat)) : Int) = (k : Int) + 1 by omega]; rfl
          · simp [intOf]; omega
        case stop =>
          rintro D c pre W _ _ h _
          exact h.elim
    · obtain rfl : k = n := by omega
      have hcv := bL.cell
      gi_wp2
      refine leaves_marks w1.heap.size (fun W => W.ownsRow w1.heap.size 26 2 v (msTo k z k).length (encF (msTo k z k)) ∧ Below w.heap.size w W) ?_ ?_ ms wr hm ⟨hrow, hwr⟩
      · rintro W D ⟨h1, h2⟩ hD hK
        exact ⟨ownsRow_putObj h1 _ hK rfl, h2.trans (belowK_b (w := w) (Nat.le_refl _) W D _ _ (by omega) hK rfl rfl)⟩
      · rintro W ⟨h1, h2⟩
        exact ⟨.tuple #[v, .int .i64 0], by simp [results, Try.f18, go_sem], v, rfl, own_mono h1 hsw, h2⟩

end Go.Proofs.Ytcfpfddbbhphgab
