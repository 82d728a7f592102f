/- The walks of the statement BitsSets, by cases: more than 100 numbers. -/
import Derived.Test.YtlfmkgfhopbegaaRow
import Derived.ProofKit
import Derived.Deep.RegionWith
import Derived.ShutString
import Derived.ChangeOld
namespace Go.Proofs.Ytlfmkgfhopbegaa.bitsSets
open Go.ChangeShapes Go.WideShapes Go.ChangeAt Go.RowKit

/-- the box G holds the members that have come -/
def Got (W : World) (G : Nat) (l : List Nat) : Prop := ∃ v, Boxed W G 22 v ∧ W.ownsRow G 3 1 v l.length (encL l)
theorem boxed_below {W W' : World} {B G : Nat} {t : TypeId} {v : Value} (h : Boxed W B t v) (hB : B < G) (hb : Below G W W') : Boxed W' B t v := (hb.block B hB).trans h
set_option maxHeartbeats 2000000 in
/-- the loop's body: one member more; on while fewer than m have come -/
theorem body_any (W : World) (G M m x : Nat) (l : List Nat) (hM : M < G) (hl : l.length < 64) (h : Got W G l) (bM : Boxed W M 3 (.int .i64 m)) :
    Calls Try.prog 17 #[.int .i64 x, .pointer (some ⟨G, 0, none⟩), .pointer (some ⟨M, 0, none⟩)] W fun e W' => e = .returned (.bool (decide (l.length + 1 < m))) ∧ Got W' G (l ++ [x]) ∧ Below G W W' := by
  obtain ⟨i0, hi, hz0, hz1, hz2⟩ := info_parts Try.info3
  obtain ⟨v, bG, hrow⟩ := h
  have kG := bG.cell
  have hW : G ≤ W.heap.size := Nat.le_of_lt bG.lt
  go_enter Try.func17, Try.ntmps17
  go_wp2_with (at_builtin; refine wpList_append_own _ rfl _ _ 22 rfl G 3 i0 (.int .i64 0) 1 8 Try.underlying22 hi hz0 hz1 hz2 rfl (by decide) _ _ _ rfl (hrow.alloc _) ⟨W.heap.size, 0, none⟩ 1 1 [.int .i64 x] rfl rfl (cell_one_new _ _ _) (by simp [Value.oneCell']) (by unfold maxLen; omega) (by omega) (by simp; omega) ?_; intro v' w1 hown' hgrow _; obtain ⟨g', cap', rfl⟩ := ownsRow_succ hown'; obtain ⟨hv1, hv2, hr2, hk2, hb2⟩ := bG.appended (by decide) hrow hW (Nat.le_refl _) hown' hgrow; have hc1 := hv1.cell; have hf1 := hv1.frozen; have hc2 := hv2.cell; have hM2 := (boxed_below bM hM hb2).cell)
  go_ret
  exact ⟨ret_bool (decide_eq_decide.2 (by omega)), ⟨_, hv2, by rw [encL_snoc, List.length_append]; exact hr2⟩, hb2⟩

theorem memsTo_take (s : Int) (k : Nat) (hk : k ≤ 64) : memsTo s k = (mems s).take (memsTo s k).length := by
  have h : ∀ d, memsTo s k <+: memsTo s (k + d) := by
    intro d
    induction d with
    | zero => exact List.prefix_refl _
    | succ d ih => rw [show k + (d + 1) = (k + d) + 1 by omega, memsTo_succ]; exact ih.trans (List.prefix_append _ _)
  have := h (64 - k)
  rw [show k + (64 - k) = 64 by omega] at this
  exact List.prefix_iff_eq_take.1 this

theorem eql_body_nil (G M : Nat) (w : World) : Sem.run Try.prog (binOp BinOp.eql 34 (Value.func (Fn.func 17) #[] #[.pointer (some ⟨G, 0, none⟩), .pointer (some ⟨M, 0, none⟩)]) Value.nilFunc) w = .ok (.bool false) w := by kernel_rfl
theorem eql_seq_nil (B : Nat) (w : World) : Sem.run Try.prog (binOp BinOp.eql 32 (Value.func (Fn.func 39) #[] #[.pointer (some ⟨B, 0, none⟩)]) Value.nilFunc) w = .ok (.bool false) w := by kernel_rfl

set_option maxRecDepth 100000 in
set_option maxHeartbeats 2000000 in
/-- the members, one by one, as far as they are asked for -/
theorem iter_any (W : World) (G M Bs m : Nat) (s : Int) (hs0 : 0 ≤ s) (hs1 : s < 18446744073709551616) (hM : M < G) (hB : Bs < G) (hm1 : 1 ≤ m) (bG : Got W G []) (bM : Boxed W M 3 (.int .i64 m)) (bB : Boxed W Bs 23 (.int .u64 s)) :
    Calls Try.prog 39 #[.func (.func 17) #[] #[.pointer (some ⟨G, 0, none⟩), .pointer (some ⟨M, 0, none⟩)], .pointer (some ⟨Bs, 0, none⟩)] W fun e W' => e = .returned (.tuple #[]) ∧ Got W' G ((mems s).take m) ∧ Below G W W' := by
  have hnil := eql_body_nil G M
  go_enter Try.func39, Try.ntmps39
  go_wp2
  clear hnil
  go_loopw [6] (fun i wr => ∃ k : Nat, k ≤ 64 ∧ i = .int .i64 k ∧ Got wr G (memsTo s k) ∧ (memsTo s k).length < m ∧ Below G W wr) (fun i _ => 64 - (intOf i).toNat)
  case atStart => exact ⟨0, Nat.zero_le _, rfl, bG, by rw [memsTo_zero]; exact hm1, Below.refl _ _⟩
  case round =>
    obtain ⟨k, hk, rfl, hgot, hlen, hbel⟩ := hrel
    have bB' := boxed_below bB hB hbel
    have bM' := boxed_below bM hM hbel
    have kB := bB'.cell
    have hle := memsTo_le s k
    by_cases hlt : k < 64
    · cases ht : tb s k
      · have hh := fun w => has_at s k w hs0 hs1 hlt false ht
        have HM : Hid (memsTo s (k + 1) = memsTo s k) := memsTo_miss s k ht
        clear ht
        go_wp2_with (go_at_call 14; refine (hh _).mono ?_; rintro e w' ⟨rfl, rfl⟩)
        go_roundw
        case rel => exact ⟨k + 1, by omega, by go_num, by rw [HM.out]; exact hgot, by rw [HM.out]; exact hlen, hbel⟩
        case measure => simp [intOf]; omega
      · have hh := fun w => has_at s k w hs0 hs1 hlt true ht
        have HM : Hid (memsTo s (k + 1) = memsTo s k ++ [k]) := memsTo_hit s k ht
        have hbody := body_any wr G M m k (memsTo s k) hM (by omega) hgot bM'
        by_cases hmore : (memsTo s k).length + 1 < m
        · rw [decide_eq_true hmore] at hbody
          clear ht
          go_wp2_with (first | (go_at_call 14; refine (hh _).mono ?_; rintro e w' ⟨rfl, hw⟩; subst hw) | (go_at_call 17; refine hbody.mono ?_; rintro e W2 ⟨rfl, hgot2, hb2⟩))
          go_roundw
          case rel => exact ⟨k + 1, by omega, by go_num, by rw [HM.out]; exact hgot2, by rw [HM.out, List.length_append]; exact hmore, hbel.trans hb2⟩
          case measure => simp [intOf]; omega
        · rw [decide_eq_false hmore] at hbody
          clear ht
          go_wp2_with (first | (go_at_call 14; refine (hh _).mono ?_; rintro e w' ⟨rfl, hw⟩; subst hw) | (go_at_call 17; refine hbody.mono ?_; rintro e W2 ⟨rfl, hgot2, hb2⟩))
          refine bodyPost_ret (results_none rfl _ _ _) rfl ?_
          refine ⟨rfl, ?_, hbel.trans hb2⟩
          have e := memsTo_take s (k + 1) (by omega)
          rw [HM.out, List.length_append, show (memsTo s k).length + [k].length = m by simp; omega] at e
          rw [← e]; exact hgot2
    · obtain rfl : k = 64 := by omega
      go_wp2
      go_end0
      refine ⟨rfl, ?_, hbel⟩
      rw [List.take_of_length_le (by exact Nat.le_of_lt hlen)]
      exact hgot

theorem take_at (s : Int) (m j : Nat) (hj : j < ((mems s).take m).length) : (encL ((mems s).take m))[j]? = some (.int .i64 (memAt s j)) := by
  have h1 : j < m ∧ j < (mems s).length := by simp at hj; omega
  simp [encL, memAt, h1.1, h1.2]
theorem of_both (n : Nat) (z : Nat → Int) (hn : n ≤ 100) : ∃ x y : Int, ∀ (a : Option Addr) (cap : Nat) (w : World), Cells w .i64 a n z →
    Calls Try.prog 9 #[.slice a n cap] w (fun e w' => e = .returned (.tuple #[.int .u64 x, .int .i64 y]) ∧ w' = w) ∧
    Calls Try.prog 10 #[.slice a n cap] w (fun e w' => e = .returned (.tuple #[.int .u64 x, .int .i64 y]) ∧ w' = w) := by
  by_cases hall : ∀ j, j < n → 0 ≤ z j ∧ z j < 64
  · refine ⟨ofSet z n, 0, fun a cap w hc => ⟨(of_any a n cap z w (by omega) hc).mono ?_, (rof_any a n cap z w (by omega) hc).mono ?_⟩⟩
    all_goals
      rintro e w' ⟨⟨_, rfl⟩ | ⟨⟨j, hj, hb⟩, _⟩, rfl⟩
      · exact ⟨rfl, rfl⟩
      · have := hall j hj; omega
  · refine ⟨0, 10, fun a cap w hc => ⟨(of_any a n cap z w (by omega) hc).mono ?_, (rof_any a n cap z w (by omega) hc).mono ?_⟩⟩
    all_goals
      rintro e w' ⟨⟨h, rfl⟩ | ⟨_, rfl⟩, rfl⟩
      · exact absurd h hall
      · exact ⟨rfl, rfl⟩

theorem slice_head (a : Option Addr) (n q cap : Nat) (hq : q ≤ cap) (W : World) : (Instr.slice 22 (.slice a n cap) none (some (.int .i64 (q : Int))) none).run Try.prog W = .ok (.slice a q cap) W := by
  have hs : ∀ w, (sizeOf (Try.prog.elem 22)).run Try.prog w = .ok 1 w := fun w => by kernel_rfl
  rw [run_slice_h _ 22 a n cap (by kernel_rfl) .i64 q (by omega) (by omega), hs]
  cases a with
  | none => simp [sliced, Result.andThen]
  | some x => simp only [sliced, Result.andThen, Option.map_some, Nat.zero_mul, Nat.sub_zero, Int.toNat_natCast]; split <;> rfl
theorem cells_set {w : World} {k : IntKind} {a : Option Addr} {n M : Nat} {z : Nat → Int} (h : Cells w k a n z) (hM : ∀ b o p, a = some ⟨b, o, p⟩ → M < b) (v : Value) : Cells (w.setCell ⟨M, 0, none⟩ v) k a n z := fun j hj => by
  obtain ⟨b, off, e, hc⟩ := h j hj
  refine ⟨b, off, e, ?_⟩
  rw [World.cell?_setCell_other _ _ _ _ (by intro h; have h1 := congrArg Addr.block h; have h2 := hM _ _ _ e; simp only at h1; omega)]
  exact hc

set_option maxRecDepth 100000 in
set_option maxHeartbeats 4000000 in
theorem walkBigIn (ad : Addr) (len cap m : Nat) (z : Nat → Int) (s i most : Int) (w : World) (hc : Cells w .i64 (some ad) 100 z) (hl : 100 < len) (hlc : len ≤ cap) (hcap : cap ≤ 9223372036854775807) (hs0 : 0 ≤ s) (hs1 : s < 18446744073709551616) (hm : most = m) (hm1 : 1 ≤ m) (hm2 : m ≤ 64) :
    Calls Try.prog 3 #[.slice (some ad) len cap, .int .u64 s, .int .i64 i, .int .i64 most] w fun e w' => e = .returned (.bool true) ∧ Below w.heap.size w w' := by
  subst hm
  obtain ⟨x, y, hof⟩ := of_both 100 z (by omega)
  have HC : Hid (Cells w .i64 (some ad) 100 z) := hc
  have hle : (mems s).length ≤ 64 := memsTo_le s 64
  clear hc
  go_enter Try.func3, Try.ntmps3
  go_wp2_with fail
  have bM := Boxed.new w 3 (.int .i64 m)
  have hb0 : Below w.heap.size w (w.alloc (.cells #[.int .i64 m] 3)) := (Below.refl _ w).alloc (Nat.le_refl _) _
  have hcs := HC.out.below hb0
  generalize hW1 : w.alloc (.cells #[.int .i64 m] 3) = W1 at *
  clear hW1
  refine (hof _ cap _ hcs).1.mono ?_
  rintro e w1 ⟨rfl, e1⟩
  subst e1
  go_wp2_with fail
  refine (hof _ cap _ hcs).2.mono ?_
  rintro e w2 ⟨rfl, e2⟩
  subst e2
  clear hof hcs
  go_wp2_with fail
  refine (rlist_own s _ hs0 hs1).mono ?_
  rintro e w3 ⟨v3, rfl, hown3, h3⟩
  obtain ⟨a3, cap3, rfl, hc3, hge3⟩ := cells_of_own hown3 (encL_at s)
  have hr3 := (own_room hown3).1
  clear hown3
  have HG3 : Hid (∀ b o p, a3 = some ⟨b, o, p⟩ → w.heap.size < b) := fun b o p e => Nat.lt_of_lt_of_le bM.lt (hge3 b o p e)
  clear hge3
  have HC3 : Hid (Cells w3 .i64 a3 (mems s).length (memAt s)) := hc3
  have bM3 := boxed_below bM bM.lt h3
  have hb3 := Below.onto hb0 h3
  clear hc3 h3 bM hb0
  go_wp2_with fail
  refine (list_own s _ hs0 hs1).mono ?_
  rintro e w4 ⟨v4, rfl, hown4, h4⟩
  obtain ⟨a4, cap4, rfl, hc4, _⟩ := cells_of_own hown4 (encL_at s)
  have HC4 : Hid (Cells w4 .i64 a4 (mems s).length (memAt s)) := hc4
  have HC34 : Hid (Cells w4 .i64 a3 (mems s).length (memAt s)) := HC3.out.below h4
  have bM4 := boxed_below bM3 bM3.lt h4
  have hb4 := Below.onto hb3 h4
  clear hc4 h4 hown4 bM3 hb3 HC3
  go_wp2_with fail
  refine (same_true a4 a3 _ cap4 cap3 _ _ _ (by omega) HC4.out HC34.out (fun _ _ => rfl)).mono ?_
  rintro e w5 ⟨rfl, h5⟩
  have HC5 : Hid (Cells w5 .i64 a3 (mems s).length (memAt s)) := HC34.out.below h5
  have bM5 := boxed_below bM4 bM4.lt h5
  have hb5 := Below.onto hb4 h5
  clear h5 bM4 hb4 HC4 HC34
  go_wp2_with fail
  refine (has_any s i _ hs0 hs1).mono ?_
  rintro e w6 ⟨rfl, e6⟩
  subst e6
  go_wp2_with fail
  refine (rhas_any s i _ hs0 hs1).mono ?_
  rintro e w7 ⟨rfl, e7⟩
  subst e7
  go_wp2_with fail
  refine (all_any s _).mono ?_
  rintro e w8 ⟨rfl, e8⟩
  have bB := Boxed.new w7 23 (.int .u64 s)
  have bM8 := bM5.alloc (.cells #[.int .u64 s] 23)
  rw [← e8] at bB bM8
  have hb8 : Below w.heap.size w w8 := by rw [e8]; exact hb5.alloc hb5.size _
  have HC8 : Hid (Cells w8 .i64 a3 (mems s).length (memAt s)) := HC5.out.below (by rw [e8]; exact (Below.refl _ w7).alloc (Nat.le_refl _) _)
  have hsz8 : w8.heap.size = w7.heap.size + 1 := by rw [e8]; simp
  have kM8 := bM8.cell
  have fM8 := bM8.frozen
  have hMlt := bM5.lt
  have hB7 := hb5.size
  have hnil := eql_seq_nil w7.heap.size
  clear e8 bM5 hb5 HC5
  go_wp2_with fail
  clear kM8 fM8
  have bG : Got (w8.alloc (.cells #[.slice none 0 0] 22)) (w7.heap.size + 1) [] := by
    refine ⟨_, ?_, World.ownsRow_nil _ _ _ _⟩
    have := Boxed.new w8 22 (.slice none 0 0)
    rwa [hsz8] at this
  refine (iter_any _ (w7.heap.size + 1) w.heap.size w7.heap.size m s hs0 hs1 (by omega) (by omega) hm1 bG (bM8.alloc _) (bB.alloc _)).mono ?_
  rintro e w9 ⟨rfl, hgot, h9⟩
  obtain ⟨v9, bG9, hown9⟩ := hgot
  have bM9 := boxed_below (bM8.alloc _) (by omega) h9
  have h9' : Below w8.heap.size (w8.alloc (.cells #[.slice none 0 0] 22)) w9 := by rw [hsz8]; exact h9
  have HC9 : Hid (Cells w9 .i64 a3 (mems s).length (memAt s)) := HC8.out.below (((Below.refl _ w8).alloc (Nat.le_refl _) _).trans h9')
  have hb9 : Below w.heap.size w w9 := (hb8.alloc hb8.size _).trans (h9.mono (by omega))
  obtain ⟨a9, cap9, rfl, hc9, _⟩ := cells_of_own (z := memAt s) hown9 (fun j hj => take_at s m j hj)
  have kM9 := bM9.cell
  have kG9 := bG9.cell
  have HG9 : Hid (Cells w9 .i64 a9 ((mems s).take m).length (memAt s)) := hc9
  clear h9 h9' bG bM8 bB HC8 hb8 hown9 hc9
  have hmin : ((mems s).take m).length = min m (mems s).length := List.length_take
  obtain ⟨q, hq⟩ : ∃ q, q = min m (mems s).length := ⟨_, rfl⟩
  rw [hmin, ← hq] at kG9
  have HGq : Hid (Cells w9 .i64 a9 q (memAt s)) := by have h := HG9.out; rw [hmin, ← hq] at h; exact h
  have hqn : q ≤ (mems s).length := by omega
  have hqc : q ≤ cap3 := by omega
  have HCq : Hid (Cells w9 .i64 a3 q (memAt s)) := HC9.out.mono hqn
  have hmi : (if (m : Int) < ((mems s).length : Int) then (m : Int) else ((mems s).length : Int)) = (q : Int) := by split <;> omega
  have hmi3 : ∀ W ts t, (Builtin.min_ ts t #[.int .i64 ((mems s).length : Int), .int .i64 (m : Int)]).run Try.prog W = .ok (.int .i64 (q : Int)) W := fun W ts t => by rw [run_min_int2, hmi]
  have halive := fun W => alive_any W
  have hq64 : q ≤ 64 := by omega
  have hsl := slice_head a3 (mems s).length q cap3 hqc
  clear hmin HG9 hq HC9 hr3 hmi
  go_wp2_with fail
  go_region_with (first | (go_at_call 12; refine (same_true a9 a3 q cap9 cap3 (memAt s) (memAt s) _ (by omega) ?_ ?_ (fun _ _ => rfl)).mono ?_; exact HGq.out; exact HCq.out; rintro e w10 ⟨rfl, h10⟩) | (go_at_call 18; refine (halive _).mono ?_; rintro e w11 ⟨rfl, h11⟩))
  all_goals go_wp2_with fail
  all_goals go_ret
  all_goals exact ⟨rfl, Below.onto (Below.onto hb9.drew h10) h11⟩

set_option maxRecDepth 100000 in
set_option maxHeartbeats 4000000 in
theorem walkBigLo (ad : Addr) (len cap m : Nat) (z : Nat → Int) (s i most : Int) (w : World) (hc : Cells w .i64 (some ad) 100 z) (hl : 100 < len) (hlc : len ≤ cap) (hcap : cap ≤ 9223372036854775807) (hs0 : 0 ≤ s) (hs1 : s < 18446744073709551616) (hm : most < 1 ∧ m = 64) (hm1 : 1 ≤ m) :
    Calls Try.prog 3 #[.slice (some ad) len cap, .int .u64 s, .int .i64 i, .int .i64 most] w fun e w' => e = .returned (.bool true) ∧ Below w.heap.size w w' := by
  obtain ⟨hmost, HM64⟩ := hm
  have HM : Hid (m = 64) := HM64
  clear HM64
  obtain ⟨x, y, hof⟩ := of_both 100 z (by omega)
  have HC : Hid (Cells w .i64 (some ad) 100 z) := hc
  have hle : (mems s).length ≤ 64 := memsTo_le s 64
  clear hc
  go_enter Try.func3, Try.ntmps3
  go_wp2_with fail
  have bM := Boxed.new w 3 (.int .i64 most)
  have hb0 : Below w.heap.size w (w.alloc (.cells #[.int .i64 most] 3)) := (Below.refl _ w).alloc (Nat.le_refl _) _
  have hcs := HC.out.below hb0
  generalize hW1 : w.alloc (.cells #[.int .i64 most] 3) = W1 at *
  clear hW1
  refine (hof _ cap _ hcs).1.mono ?_
  rintro e w1 ⟨rfl, e1⟩
  subst e1
  go_wp2_with fail
  refine (hof _ cap _ hcs).2.mono ?_
  rintro e w2 ⟨rfl, e2⟩
  subst e2
  clear hof hcs
  go_wp2_with fail
  refine (rlist_own s _ hs0 hs1).mono ?_
  rintro e w3 ⟨v3, rfl, hown3, h3⟩
  obtain ⟨a3, cap3, rfl, hc3, hge3⟩ := cells_of_own hown3 (encL_at s)
  have hr3 := (own_room hown3).1
  clear hown3
  have HG3 : Hid (∀ b o p, a3 = some ⟨b, o, p⟩ → w.heap.size < b) := fun b o p e => Nat.lt_of_lt_of_le bM.lt (hge3 b o p e)
  clear hge3
  have HC3 : Hid (Cells w3 .i64 a3 (mems s).length (memAt s)) := hc3
  have bM3 := boxed_below bM bM.lt h3
  have hb3 := Below.onto hb0 h3
  clear hc3 h3 bM hb0
  go_wp2_with fail
  refine (list_own s _ hs0 hs1).mono ?_
  rintro e w4 ⟨v4, rfl, hown4, h4⟩
  obtain ⟨a4, cap4, rfl, hc4, _⟩ := cells_of_own hown4 (encL_at s)
  have HC4 : Hid (Cells w4 .i64 a4 (mems s).length (memAt s)) := hc4
  have HC34 : Hid (Cells w4 .i64 a3 (mems s).length (memAt s)) := HC3.out.below h4
  have bM4 := boxed_below bM3 bM3.lt h4
  have hb4 := Below.onto hb3 h4
  clear hc4 h4 hown4 bM3 hb3 HC3
  go_wp2_with fail
  refine (same_true a4 a3 _ cap4 cap3 _ _ _ (by omega) HC4.out HC34.out (fun _ _ => rfl)).mono ?_
  rintro e w5 ⟨rfl, h5⟩
  have HC5 : Hid (Cells w5 .i64 a3 (mems s).length (memAt s)) := HC34.out.below h5
  have bM5 := boxed_below bM4 bM4.lt h5
  have hb5 := Below.onto hb4 h5
  clear h5 bM4 hb4 HC4 HC34
  go_wp2_with fail
  refine (has_any s i _ hs0 hs1).mono ?_
  rintro e w6 ⟨rfl, e6⟩
  subst e6
  go_wp2_with fail
  refine (rhas_any s i _ hs0 hs1).mono ?_
  rintro e w7 ⟨rfl, e7⟩
  subst e7
  go_wp2_with fail
  refine (all_any s _).mono ?_
  rintro e w8 ⟨rfl, e8⟩
  have bB := Boxed.new w7 23 (.int .u64 s)
  have bM8 := bM5.alloc (.cells #[.int .u64 s] 23)
  rw [← e8] at bB bM8
  have hb8 : Below w.heap.size w w8 := by rw [e8]; exact hb5.alloc hb5.size _
  have HC8 : Hid (Cells w8 .i64 a3 (mems s).length (memAt s)) := HC5.out.below (by rw [e8]; exact (Below.refl _ w7).alloc (Nat.le_refl _) _)
  have hsz8 : w8.heap.size = w7.heap.size + 1 := by rw [e8]; simp
  have kM8 := bM8.cell
  have fM8 := bM8.frozen
  have hMlt := bM5.lt
  have hB7 := hb5.size
  have hnil := eql_seq_nil w7.heap.size
  clear e8 bM5 hb5 HC5
  go_wp2_with fail
  have bM8' : Boxed (w8.setCell ⟨w.heap.size, 0, none⟩ (.int .i64 64)) w.heap.size 3 (.int .i64 m) := by rw [HM.out]; exact bM8.set _
  have bB' : Boxed (w8.setCell ⟨w.heap.size, 0, none⟩ (.int .i64 64)) w7.heap.size 23 (.int .u64 s) := bB.other (by omega) _
  have hb8' : Below w.heap.size w (w8.setCell ⟨w.heap.size, 0, none⟩ (.int .i64 64)) := hb8.setCell (p := ⟨w.heap.size, 0, none⟩) (Nat.le_refl _) _
  have HC8' : Hid (Cells (w8.setCell ⟨w.heap.size, 0, none⟩ (.int .i64 64)) .i64 a3 (mems s).length (memAt s)) := cells_set HC8.out HG3.out _
  have hsz8' : (w8.setCell ⟨w.heap.size, 0, none⟩ (.int .i64 64)).heap.size = w7.heap.size + 1 := by rw [← hsz8]; simp [World.setCell]
  clear kM8 fM8 bM8 bB hb8 HC8 hsz8
  generalize hW8 : w8.setCell ⟨w.heap.size, 0, none⟩ (.int .i64 64) = W8 at *
  clear hW8
  have bG : Got (W8.alloc (.cells #[.slice none 0 0] 22)) (w7.heap.size + 1) [] := by
    refine ⟨_, ?_, World.ownsRow_nil _ _ _ _⟩
    have := Boxed.new W8 22 (.slice none 0 0)
    rwa [hsz8'] at this
  refine (iter_any _ (w7.heap.size + 1) w.heap.size w7.heap.size m s hs0 hs1 (by omega) (by omega) hm1 bG (bM8'.alloc _) (bB'.alloc _)).mono ?_
  rintro e w9 ⟨rfl, hgot, h9⟩
  obtain ⟨v9, bG9, hown9⟩ := hgot
  have bM9 := boxed_below (bM8'.alloc _) (by omega) h9
  have h9' : Below W8.heap.size (W8.alloc (.cells #[.slice none 0 0] 22)) w9 := by rw [hsz8']; exact h9
  have HC9 : Hid (Cells w9 .i64 a3 (mems s).length (memAt s)) := HC8'.out.below (((Below.refl _ W8).alloc (Nat.le_refl _) _).trans h9')
  have hb9 : Below w.heap.size w w9 := (hb8'.alloc hb8'.size _).trans (h9.mono (by omega))
  obtain ⟨a9, cap9, rfl, hc9, _⟩ := cells_of_own (z := memAt s) hown9 (fun j hj => take_at s m j hj)
  have kM9 := bM9.cell
  have kG9 := bG9.cell
  have HG9 : Hid (Cells w9 .i64 a9 ((mems s).take m).length (memAt s)) := hc9
  clear h9 h9' bG bM8' bB' HC8' hb8' hown9 hc9
  have hmin : ((mems s).take m).length = min m (mems s).length := List.length_take
  obtain ⟨q, hq⟩ : ∃ q, q = min m (mems s).length := ⟨_, rfl⟩
  rw [hmin, ← hq] at kG9
  have HGq : Hid (Cells w9 .i64 a9 q (memAt s)) := by have h := HG9.out; rw [hmin, ← hq] at h; exact h
  have hqn : q ≤ (mems s).length := by omega
  have hqc : q ≤ cap3 := by omega
  have HCq : Hid (Cells w9 .i64 a3 q (memAt s)) := HC9.out.mono hqn
  have hmi : (if (m : Int) < ((mems s).length : Int) then (m : Int) else ((mems s).length : Int)) = (q : Int) := by split <;> omega
  have hmi3 : ∀ W ts t, (Builtin.min_ ts t #[.int .i64 ((mems s).length : Int), .int .i64 (m : Int)]).run Try.prog W = .ok (.int .i64 (q : Int)) W := fun W ts t => by rw [run_min_int2, hmi]
  have halive := fun W => alive_any W
  have hq64 : q ≤ 64 := by omega
  have hsl := slice_head a3 (mems s).length q cap3 hqc
  clear hmin HG9 hq HC9 hr3 hmi
  go_wp2_with fail
  go_region_with (first | (go_at_call 12; refine (same_true a9 a3 q cap9 cap3 (memAt s) (memAt s) _ (by omega) ?_ ?_ (fun _ _ => rfl)).mono ?_; exact HGq.out; exact HCq.out; rintro e w10 ⟨rfl, h10⟩) | (go_at_call 18; refine (halive _).mono ?_; rintro e w11 ⟨rfl, h11⟩))
  all_goals go_wp2_with fail
  all_goals go_ret
  all_goals exact ⟨rfl, Below.onto (Below.onto hb9.drew h10) h11⟩

set_option maxRecDepth 100000 in
set_option maxHeartbeats 4000000 in
theorem walkBigHi (ad : Addr) (len cap m : Nat) (z : Nat → Int) (s i most : Int) (w : World) (hc : Cells w .i64 (some ad) 100 z) (hl : 100 < len) (hlc : len ≤ cap) (hcap : cap ≤ 9223372036854775807) (hs0 : 0 ≤ s) (hs1 : s < 18446744073709551616) (hm : 64 < most ∧ m = 64) (hm1 : 1 ≤ m) :
    Calls Try.prog 3 #[.slice (some ad) len cap, .int .u64 s, .int .i64 i, .int .i64 most] w fun e w' => e = .returned (.bool true) ∧ Below w.heap.size w w' := by
  obtain ⟨hmost, HM64⟩ := hm
  have hmost' : 1 ≤ most := by omega
  have HM : Hid (m = 64) := HM64
  clear HM64
  obtain ⟨x, y, hof⟩ := of_both 100 z (by omega)
  have HC : Hid (Cells w .i64 (some ad) 100 z) := hc
  have hle : (mems s).length ≤ 64 := memsTo_le s 64
  clear hc
  go_enter Try.func3, Try.ntmps3
  go_wp2_with fail
  have bM := Boxed.new w 3 (.int .i64 most)
  have hb0 : Below w.heap.size w (w.alloc (.cells #[.int .i64 most] 3)) := (Below.refl _ w).alloc (Nat.le_refl _) _
  have hcs := HC.out.below hb0
  generalize hW1 : w.alloc (.cells #[.int .i64 most] 3) = W1 at *
  clear hW1
  refine (hof _ cap _ hcs).1.mono ?_
  rintro e w1 ⟨rfl, e1⟩
  subst e1
  go_wp2_with fail
  refine (hof _ cap _ hcs).2.mono ?_
  rintro e w2 ⟨rfl, e2⟩
  subst e2
  clear hof hcs
  go_wp2_with fail
  refine (rlist_own s _ hs0 hs1).mono ?_
  rintro e w3 ⟨v3, rfl, hown3, h3⟩
  obtain ⟨a3, cap3, rfl, hc3, hge3⟩ := cells_of_own hown3 (encL_at s)
  have hr3 := (own_room hown3).1
  clear hown3
  have HG3 : Hid (∀ b o p, a3 = some ⟨b, o, p⟩ → w.heap.size < b) := fun b o p e => Nat.lt_of_lt_of_le bM.lt (hge3 b o p e)
  clear hge3
  have HC3 : Hid (Cells w3 .i64 a3 (mems s).length (memAt s)) := hc3
  have bM3 := boxed_below bM bM.lt h3
  have hb3 := Below.onto hb0 h3
  clear hc3 h3 bM hb0
  go_wp2_with fail
  refine (list_own s _ hs0 hs1).mono ?_
  rintro e w4 ⟨v4, rfl, hown4, h4⟩
  obtain ⟨a4, cap4, rfl, hc4, _⟩ := cells_of_own hown4 (encL_at s)
  have HC4 : Hid (Cells w4 .i64 a4 (mems s).length (memAt s)) := hc4
  have HC34 : Hid (Cells w4 .i64 a3 (mems s).length (memAt s)) := HC3.out.below h4
  have bM4 := boxed_below bM3 bM3.lt h4
  have hb4 := Below.onto hb3 h4
  clear hc4 h4 hown4 bM3 hb3 HC3
  go_wp2_with fail
  refine (same_true a4 a3 _ cap4 cap3 _ _ _ (by omega) HC4.out HC34.out (fun _ _ => rfl)).mono ?_
  rintro e w5 ⟨rfl, h5⟩
  have HC5 : Hid (Cells w5 .i64 a3 (mems s).length (memAt s)) := HC34.out.below h5
  have bM5 := boxed_below bM4 bM4.lt h5
  have hb5 := Below.onto hb4 h5
  clear h5 bM4 hb4 HC4 HC34
  go_wp2_with fail
  refine (has_any s i _ hs0 hs1).mono ?_
  rintro e w6 ⟨rfl, e6⟩
  subst e6
  go_wp2_with fail
  refine (rhas_any s i _ hs0 hs1).mono ?_
  rintro e w7 ⟨rfl, e7⟩
  subst e7
  go_wp2_with fail
  refine (all_any s _).mono ?_
  rintro e w8 ⟨rfl, e8⟩
  have bB := Boxed.new w7 23 (.int .u64 s)
  have bM8 := bM5.alloc (.cells #[.int .u64 s] 23)
  rw [← e8] at bB bM8
  have hb8 : Below w.heap.size w w8 := by rw [e8]; exact hb5.alloc hb5.size _
  have HC8 : Hid (Cells w8 .i64 a3 (mems s).length (memAt s)) := HC5.out.below (by rw [e8]; exact (Below.refl _ w7).alloc (Nat.le_refl _) _)
  have hsz8 : w8.heap.size = w7.heap.size + 1 := by rw [e8]; simp
  have kM8 := bM8.cell
  have fM8 := bM8.frozen
  have hMlt := bM5.lt
  have hB7 := hb5.size
  have hnil := eql_seq_nil w7.heap.size
  clear e8 bM5 hb5 HC5
  go_wp2_with fail
  have bM8' : Boxed (w8.setCell ⟨w.heap.size, 0, none⟩ (.int .i64 64)) w.heap.size 3 (.int .i64 m) := by rw [HM.out]; exact bM8.set _
  have bB' : Boxed (w8.setCell ⟨w.heap.size, 0, none⟩ (.int .i64 64)) w7.heap.size 23 (.int .u64 s) := bB.other (by omega) _
  have hb8' : Below w.heap.size w (w8.setCell ⟨w.heap.size, 0, none⟩ (.int .i64 64)) := hb8.setCell (p := ⟨w.heap.size, 0, none⟩) (Nat.le_refl _) _
  have HC8' : Hid (Cells (w8.setCell ⟨w.heap.size, 0, none⟩ (.int .i64 64)) .i64 a3 (mems s).length (memAt s)) := cells_set HC8.out HG3.out _
  have hsz8' : (w8.setCell ⟨w.heap.size, 0, none⟩ (.int .i64 64)).heap.size = w7.heap.size + 1 := by rw [← hsz8]; simp [World.setCell]
  clear kM8 fM8 bM8 bB hb8 HC8 hsz8
  generalize hW8 : w8.setCell ⟨w.heap.size, 0, none⟩ (.int .i64 64) = W8 at *
  clear hW8
  have bG : Got (W8.alloc (.cells #[.slice none 0 0] 22)) (w7.heap.size + 1) [] := by
    refine ⟨_, ?_, World.ownsRow_nil _ _ _ _⟩
    have := Boxed.new W8 22 (.slice none 0 0)
    rwa [hsz8'] at this
  refine (iter_any _ (w7.heap.size + 1) w.heap.size w7.heap.size m s hs0 hs1 (by omega) (by omega) hm1 bG (bM8'.alloc _) (bB'.alloc _)).mono ?_
  rintro e w9 ⟨rfl, hgot, h9⟩
  obtain ⟨v9, bG9, hown9⟩ := hgot
  have bM9 := boxed_below (bM8'.alloc _) (by omega) h9
  have h9' : Below W8.heap.size (W8.alloc (.cells #[.slice none 0 0] 22)) w9 := by rw [hsz8']; exact h9
  have HC9 : Hid (Cells w9 .i64 a3 (mems s).length (memAt s)) := HC8'.out.below (((Below.refl _ W8).alloc (Nat.le_refl _) _).trans h9')
  have hb9 : Below w.heap.size w w9 := (hb8'.alloc hb8'.size _).trans (h9.mono (by omega))
  obtain ⟨a9, cap9, rfl, hc9, _⟩ := cells_of_own (z := memAt s) hown9 (fun j hj => take_at s m j hj)
  have kM9 := bM9.cell
  have kG9 := bG9.cell
  have HG9 : Hid (Cells w9 .i64 a9 ((mems s).take m).length (memAt s)) := hc9
  clear h9 h9' bG bM8' bB' HC8' hb8' hown9 hc9
  have hmin : ((mems s).take m).length = min m (mems s).length := List.length_take
  obtain ⟨q, hq⟩ : ∃ q, q = min m (mems s).length := ⟨_, rfl⟩
  rw [hmin, ← hq] at kG9
  have HGq : Hid (Cells w9 .i64 a9 q (memAt s)) := by have h := HG9.out; rw [hmin, ← hq] at h; exact h
  have hqn : q ≤ (mems s).length := by omega
  have hqc : q ≤ cap3 := by omega
  have HCq : Hid (Cells w9 .i64 a3 q (memAt s)) := HC9.out.mono hqn
  have hmi : (if (m : Int) < ((mems s).length : Int) then (m : Int) else ((mems s).length : Int)) = (q : Int) := by split <;> omega
  have hmi3 : ∀ W ts t, (Builtin.min_ ts t #[.int .i64 ((mems s).length : Int), .int .i64 (m : Int)]).run Try.prog W = .ok (.int .i64 (q : Int)) W := fun W ts t => by rw [run_min_int2, hmi]
  have halive := fun W => alive_any W
  have hq64 : q ≤ 64 := by omega
  have hsl := slice_head a3 (mems s).length q cap3 hqc
  clear hmin HG9 hq HC9 hr3 hmi
  go_wp2_with fail
  go_region_with (first | (go_at_call 12; refine (same_true a9 a3 q cap9 cap3 (memAt s) (memAt s) _ (by omega) ?_ ?_ (fun _ _ => rfl)).mono ?_; exact HGq.out; exact HCq.out; rintro e w10 ⟨rfl, h10⟩) | (go_at_call 18; refine (halive _).mono ?_; rintro e w11 ⟨rfl, h11⟩))
  all_goals go_wp2_with fail
  all_goals go_ret
  all_goals exact ⟨rfl, Below.onto (Below.onto hb9.drew h10) h11⟩

end Go.Proofs.Ytlfmkgfhopbegaa.bitsSets
