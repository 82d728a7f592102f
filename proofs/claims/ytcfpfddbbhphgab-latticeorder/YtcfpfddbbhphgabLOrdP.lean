/- lattice.Order: lower labels first. -/
import Derived.Test.YtcfpfddbbhphgabLOrdR
import Derived.Sort.CutIn
namespace Go.Proofs.Ytcfpfddbbhphgab
open Go.RowKit Go.Shelf
attribute [local go_sem] Oper.semAt_some
attribute [local go_sem ↓] wp_at wp_succ wp_zero wpIn_at wpIn_succ wpIn_zero

theorem low_eq {n : Nat} (hn : n ≤ 64) : IntKind.u64.wrap (IntKind.u64.wrap (2 ^ n) - 1) = lowI n := by
  have := below_eq hn
  rw [Nat.min_eq_left hn] at this
  rw [this]; unfold lowI; rw [Nat.min_eq_left hn]

theorem mem_memS {s : Int} (x : Mem s) : x ∈ memS s 64 := by
  unfold memS
  exact List.mem_filterMap.2 ⟨x.1, by simp [x.2.1], by rw [dif_pos x.2]⟩
theorem memS_last {s : Int} {k : Nat} (hk : k ≤ 64) {pre : List (Mem s)} {x : Mem s} (h : memS s k = pre ++ [x]) : ∀ b, b < x.1 → ∀ (h1 : b < 64) (h2 : tb s b = true), (⟨b, h1, h2⟩ : Mem s) ∈ pre := by
  induction k with
  | zero => simp [memS] at h
  | succ k ih =>
    cases ht : tb s k
    · rw [memS_miss s k ht] at h; exact ih (by omega) h
    · rw [memS_hit s k (by omega) ht] at h
      obtain ⟨e1, e2⟩ := List.append_inj' h rfl
      have e3 : (⟨k, by omega, ht⟩ : Mem s) = x := by simpa using e2
      have e4 : k = x.1 := congrArg (fun y : Mem s => y.1) e3
      intro b hb h1 h2
      rw [← e1]
      rw [← e4] at hb
      exact List.mem_filterMap.2 ⟨b, by simpa using hb, by rw [dif_pos ⟨h1, h2⟩]⟩

set_option maxRecDepth 100000 in
set_option maxHeartbeats 4000000 in
theorem order_ok (a : Option Addr) (n cap : Nat) (z : Nat → Int) (w : World) (hc : Cells w .u64 a n z) (hz : Bds n z) (hk : polE n z = 0) :
    Calls Try.prog 16 #[.slice a n cap] w fun e w' => ∃ v L s, e = .returned (.tuple #[v, .int .i64 0]) ∧ OrdIs n z n L s ∧ w'.ownsRow w.heap.size 3 1 v n (encL L) ∧ Below w.heap.size w w' := by
  obtain ⟨i0, hi, hz0, hz1, hz2⟩ := info_parts Try.info3
  have hP := pol_of hz hk
  have hn16 := hP.le
  have hrd := read_un a n cap z w (by omega) hc hz
  have HP : Hid (Pol n z) := hP
  have HC : Hid (Cells w .u64 a n z) := hc
  have hlow := low_eq (show n ≤ 64 by omega)
  clear hc hz hP
  refine (callsIn_wide (n := 8)).1 ?_
  refine callsIn_of_wp_marks Try.func16 rfl trivial ?_ rfl
  simp only [Try.ntmps16, List.size_toArray, List.length_cons, List.length_nil, Nat.reduceAdd, Nat.reduceSub, Array.replicate_succ, Array.replicate_zero, List.push_toArray, List.append_toArray, List.nil_append, List.cons_append]
  have hmx : Try.prog.follows .mixedOrders = true := by kernel_rfl
  gi_wp2_with fail
  refine ⟨trivial, (callsIn_wide.2 hrd).mono ?_⟩
  rintro e w1 ⟨hb, ⟨hk', _⟩ | ⟨_, d, dc, rfl, hd⟩⟩
  · exact absurd hk hk'
  clear hrd hk
  obtain ⟨wp, hwp⟩ : ∃ wp, wp = w1.alloc (.cells #[.slice a n cap, .slice d n dc] 51) := ⟨_, rfl⟩
  have hb1 : Below w1.heap.size w1 wp := by rw [hwp]; exact (Below.refl _ w1).alloc (Nat.le_refl _) _
  have HD : Hid (Cells wp .u64 d n (turnTo z n)) := hd.below hb1
  have hBp : Below w.heap.size w wp := Below.onto hb hb1
  have HA : Hid (Cells wp .u64 a n z) := HC.out.below hBp
  have HPx : Hid (PBox wp w1.heap.size (.slice a n cap) (.slice d n dc)) := by show PBox _ _ _ _; rw [hwp]; exact pbox_new w1 _ _ _
  have hs1 : wp.heap.size = w1.heap.size + 1 := by rw [hwp]; simp
  clear hd hb hb1
  gi_wp2_with (rw [← hwp]; gi_at_make; refine wpListIn_make_own _ rfl _ _ 41 rfl wp.heap.size 3 i0 (.int .i64 0) 1 Try.underlying41 hi hz0 hz1 .i64 .i64 _ n rfl rfl rfl (by rw [hz2]; omega) (by unfold maxLen; omega) (Nat.le_refl _) ?_; intro w2 hown0 hgrow0)
  have hB2 : Below wp.heap.size wp w2 := (Below.refl _ wp).grown hgrow0 (Nat.le_refl _) (fun k e => by cases e)
  have hsz2 := hB2.size
  have bL0 := Boxed.new w2 41 (Value.slice (some ⟨wp.heap.size, 0, none⟩) 0 n)
  have bS0 := Boxed.new (w2.alloc (.cells #[Value.slice (some ⟨wp.heap.size, 0, none⟩) 0 n] 41)) 35 (.int .u64 (lowI n))
  rw [World.size_alloc] at bS0
  have hB0 : Below wp.heap.size wp ((w2.alloc (.cells #[Value.slice (some ⟨wp.heap.size, 0, none⟩) 0 n] 41)).alloc (.cells #[.int .u64 (lowI n)] 35)) := (hB2.alloc hsz2 _).alloc (by simp; omega) _
  have hown00 := (hown0.alloc (.cells #[Value.slice (some ⟨wp.heap.size, 0, none⟩) 0 n] 41)).alloc (.cells #[.int .u64 (lowI n)] 35)
  clear hgrow0 hwp
  rw [← hs1]
  refine wpIn_loop (fun act wr => ∃ (k : Nat) (L : List Nat) (s : Int) (u1 u2 u3 u5 u8 u9 u10 u11 u12 u13 u14 u15 u16 u17 u18 u19 u20 u21 u22 u23 u26 u27 u28 u29 u30 u31 u32 u33 u34 u35 u36 u37 u38 u39 u40 u41 u42 u43 u44 u45 u46 : Value) (ms : List Nat), k ≤ n ∧ u26 = .int .i64 k ∧
      act = { tmps := #[.slice a n cap, u1, u2, u3, .pointer (some ⟨w1.heap.size, 0, none⟩), u5, .pointer (some ⟨w2.heap.size, 0, none⟩), .pointer (some ⟨w2.heap.size + 1, 0, none⟩), u8, u9, u10, u11, u12, u13, u14, u15, u16, u17, u18, u19, u20, u21, u22, u23, .slice a n cap, .int .i64 n, u26, u27, u28, u29, u30, u31, u32, u33, u34, u35, u36, u37, u38, u39, u40, u41, u42, u43, u44, u45, u46], defers := ms.map mark } ∧ Hid (OrdIs n z k L s) ∧
      (∃ v, Boxed wr w2.heap.size 41 v ∧ wr.ownsRow wp.heap.size 3 1 v k (encL L)) ∧ Boxed wr (w2.heap.size + 1) 35 (.int .u64 s) ∧ Marks wr wp.heap.size ms ∧ Below wp.heap.size wp wr) (fun act _ => n - (intOf (act.tmps.getD 26 undef)).toNat) ?start ?round
  case start => exact ⟨0, [], lowI n, _, _, _, _, _, _, _, _, _, _, _, _, _, _, _, _, _, _, _, _, _, _, _, _, _, _, _, _, _, _, _, _, _, _, _, _, _, _, _, _, _, [], Nat.zero_le _, rfl, rfl, ⟨rfl, rfl⟩, ⟨_, bL0.alloc _, hown00⟩, bS0, Marks.nil _ _, hB0⟩
  case round =>
    clear hown0 hown00 hB0 bS0 bL0
    rintro act wr ⟨k, L, s, u1, u2, u3, u5, u8, u9, u10, u11, u12, u13, u14, u15, u16, u17, u18, u19, u20, u21, u22, u23, u26, u27, u28, u29, u30, u31, u32, u33, u34, u35, u36, u37, u38, u39, u40, u41, u42, u43, u44, u45, u46, ms, hkn, rfl, rfl, hO, ⟨v, bL, hrow⟩, bS, hm, hbel⟩
    have kS := bS.cell
    obtain ⟨i1, s0, s1, ism, _⟩ := hO.out.inv hn16
    have HSm : Hid (∀ j, tb s j = true ↔ j < n ∧ j ∉ L) := ism
    clear ism
    by_cases hlt : k < n
    · have hszr := hbel.size
      have hLlt := bL.lt
      have hSlt := bS.lt
      have HMs : Hid (Marks wr wp.heap.size ms) := hm
      have hmlt : ∀ D, D ∈ ms → D < wr.heap.size := fun D hD => hm.lt hD
      gi_wp2_with (refine ⟨trivial, ?_⟩; gi_at_call 26; refine (callsIn_wide.2 (all_any _ _)).mono ?_; rintro e w4 ⟨rfl, rfl⟩)
      have bA := Boxed.new wr 35 (.int .u64 s)
      have hBA : Below wr.heap.size wr (wr.alloc (.cells #[.int .u64 s] 35)) := (Below.refl _ wr).alloc (Nat.le_refl _) _
      refine wpIn_rangeFunc_ownG rfl (by omega) (gf := 37) (lb := #[.pointer (some ⟨wr.heap.size, 0, none⟩)]) rfl trivial (enters_of Try.func37 (by kernel_rfl) rfl)
        (all_stops 7 (by omega) wr.heap.size s s0 s1 _ bA) keepsBox_t (fun W l o o' _ hl hc _ => keepsBox_b W l o o' hl hc) (Below.refl _ _) (fun _ => rfl)
        (fun pre W => (∀ p : Mem s, p ∈ pre → frB n z s p.1 = false) ∧ Below wr.heap.size wr W)
        (fun c pre W => (c = .exit 2 ∧ ∃ pre0 x, pre = pre0 ++ [x] ∧ frB n z s x.1 = true ∧ (∀ p : Mem s, p ∈ pre0 → frB n z s p.1 = false) ∧ (∃ v, Boxed W w2.heap.size 41 v ∧ W.ownsRow wp.heap.size 3 1 v (k + 1) (encL (L ++ [x.1])) ∧ True) ∧ Boxed W (w2.heap.size + 1) 35 (.int .u64 (clrI s x.1)) ∧ Marks W wp.heap.size ms) ∧ Below wp.heap.size wp W)
        (OwnFrom.and (ownFrom_pure _ _) (ownFrom_below (Nat.le_refl _) (by simp)))
        (fun c => OwnFrom.and (fun pre A B row hs hg hr => ⟨hs.1, by
            obtain ⟨pre0, x, h1, h2, h3, h4, h5, h6⟩ := hs.2
            refine ⟨pre0, x, h1, h2, h3, ?_, ?_, ?_⟩
            · exact holdsRow_own (β := Unit) wp.heap.size w2.heap.size 41 3 1 (fun _ => k + 1) (fun _ => encL (L ++ [x.1])) (fun _ _ => True) () A B row h4 hg (fun r e => (hr r e).2)
            · exact boxed_own (β := Unit) _ _ (fun _ => _) () A B row h5 hg (fun r e => (hr r e).2)
            · exact marks_own (β := Unit) _ _ _ (fun D hD => by have := hmlt D hD; simp; omega) () A B row h6 hg hr⟩) (ownFrom_below (Nat.le_refl _) (by simp; omega)))
        ⟨fun p hp => absurd hp (by simp), hBA⟩
        (fun x => { tmps := #[.slice a n cap, u1, u2, u3, .pointer (some ⟨w1.heap.size, 0, none⟩), u5, .pointer (some ⟨w2.heap.size, 0, none⟩), .pointer (some ⟨w2.heap.size + 1, 0, none⟩), .int .i64 (x.1 : Int), u9, u10, u11, u12, u13, u14, u15, u16, u17, u18, u19, u20, u21, u22, u23, .slice a n cap, .int .i64 n, .int .i64 k, .bool true, .int .u64 s, .func (.func 37) #[] #[.pointer (some ⟨wr.heap.size, 0, none⟩)], .int .i64 (x.1 : Int), u31, u32, u33, u34, u35, u36, u37, u38, u39, u40, u41, u42, u43, u44, u45, u46], defers := [] }) ?assign ?body ?done ?stop
      case assign =>
        intro l x W K hK
        gi_wp2
        exact hK
      case body =>
        rintro l pre x W ⟨hp, hBW⟩ hlen
        have hxn := ((HSm.out x.1).1 x.2.2).1
        have HPre : Hid (∀ p : Mem s, p ∈ pre → frB n z s p.1 = false) := hp
        have hBpW := Below.onto hbel hBW
        obtain ⟨g1, g2⟩ := HPx.out.below hBpW
        have cS := Boxed.through bS hBW
        have kS2 := cS.cell
        have CA : Cells W.drew .u64 a n z := HA.out.below hBpW.drew
        have CD : Cells W.drew .u64 d n (turnTo z n) := HD.out.below hBpW.drew
        have l0 := blw_nonneg n z x.1
        have l1 := blw_lt HP.out hxn
        have hbw : Hid (blw n z x.1 = anI (turnTo z n x.1) (z x.1)) := rfl
        obtain ⟨Bo, hsb⟩ : ∃ B, frB n z s x.1 = B := ⟨_, rfl⟩
        have HB : Hid (frB n z s x.1 = Bo) := hsb
        have ht : (bits .and .u64 (anI (turnTo z n x.1) (z x.1)) s == 0) = Bo := by
          rw [← hbw.out, and_eq l0 l1 s0 s1]; exact hsb
        clear hp bA hBA hm hsb hlen kS
        gi_wp2
        gi_cut [36] from 31 (fun s36 wx => s36 = .bool Bo ∧ Below W.heap.size W wx)
        case first =>
          refine wpIn_calm ?_
          clear HB HSm HC HPre hbw hlow
          gi_region_with_o (refine ⟨trivial, ?_⟩; gi_at_call 27; refine (CallsIn.inRound l (callsIn_wide.2 (lbelow_at a d n cap dc z (turnTo z n) x.1 _ hxn (by with_reducible assumption) (by with_reducible assumption) HP.out.bds HP.out.turn.bds))).mono ?_; rintro e W1 ⟨rfl, hb1⟩; have hbW : Below W.heap.size W W1 := Below.onto (Below.refl _ W).drew hb1; have kB := (Boxed.through cS hbW).cell)
          all_goals gi_wp2
          all_goals gi_meet
          all_goals exact ⟨rfl, hbW⟩
        case rest =>
          obtain ⟨rfl, hbW⟩ := hcut
          clear CA CD kS2 ht g1 g2
          have cS1 := Boxed.through cS hbW
          have hB1 := Below.onto hBW hbW
          have cL1 := Boxed.through bL hB1
          have hrow1 := own_stays hrow hB1
          have hBp1 := Below.onto hbel hB1
          have hszc := hBp1.size
          cases Bo
          · gi_wp2
            refine ⟨(keeps_below hbW).from _, fun h => Boxed.through h hbW, fun p hp => ?_, hB1⟩
            rcases List.mem_append.1 hp with hp | hp
            · exact HPre.out p hp
            · rw [List.mem_singleton.1 hp]; exact HB.out
          · have hcv := cL1.cell
            have hm1 : Hid (Marks W wp.heap.size ms) := HMs.out.below hBW
            clear cS
            gi_wp2_with (gi_at_builtin; refine wpListIn_append_own _ rfl _ _ 41 rfl wp.heap.size 3 i0 (.int .i64 0) 1 8 Try.underlying41 hi hz0 hz1 hz2 rfl (by decide) _ _ _ rfl (hrow1.alloc _) ⟨wc.heap.size, 0, none⟩ 1 1 [.int .i64 (x.1 : Int)] rfl rfl (cell_one_new _ _ _) (by simp [Value.oneCell']) (by unfold maxLen; omega) (by omega) (by simp; omega) ?_; intro v' w3 hown' hgrow _; obtain ⟨g', cap', rfl⟩ := ownsRow_succ hown'; obtain ⟨hv1, hv2, hr2, hk2, hb2⟩ := cL1.appended (by decide) hrow1 hszc hsz2 hown' hgrow; have hc1 := hv1.cell; have hf1 := hv1.frozen)
            have cS3 : Boxed (w3.setCell ⟨w2.heap.size, 0, none⟩ (.slice (some ⟨g', 0, none⟩) (k + 1) cap')) (w2.heap.size + 1) 35 (.int .u64 s) := ((cS1.alloc _).kept hgrow (cS1.not_row (by decide) hrow1)).kept (grownBy_setCell' _ _ _) (by simp)
            have kS3 := cS3.cell
            have fS3 := cS3.frozen
            have HO : Hid (bits .andNot .u64 s (IntKind.u64.wrap (2 ^ x.1)) = clrI s x.1) := clr_eq s0 s1 x.2.1
            have hx64 := x.2.1
            have hr3 := fun u => World.ownsRow.kept hr2 (grownBy_setCell' _ (w2.heap.size + 1) u) (.inr (cS3.not_row (by decide) hr2).symm)
            clear hcv hc1 hf1 hv1
            gi_region_with_o (fail)
            all_goals gi_wp2
            all_goals refine ⟨((((keeps_below hbW).trans hk2).trans (KeepsOthers.setCell _ _ _)).trans (KeepsOthers.drew _)).from _, ⟨rfl, pre, x, rfl, HB.out, HPre.out, ⟨_, Boxed.otherAt hv2 (by omega) _ _, ?_, trivial⟩, ?_, ?_⟩, ((hBp1.trans hb2).setCell (p := ⟨w2.heap.size + 1, 0, none⟩) (by simp; omega) _).drew⟩
            all_goals first
              | (rw [encL_snoc]; exact hr3 _)
              | (rw [← HO.out]; exact cS3.set _)
              | exact (hm1.out.below hbW).keeps ((hk2.trans (KeepsOthers.setCell _ _ _)).trans (KeepsOthers.drew _))
      case done =>
        rintro D ys W hD rfl ⟨hp, hBW⟩ hK
        exfalso
        obtain ⟨q, hq⟩ := hO.out.more HP.out hlt
        have := hp _ (mem_memS ⟨q, in_64 s1 hq.2.1, hq.2.1⟩)
        rw [hq.2.2.1] at this
        cases this
      case stop =>
        rintro D c pre W hD ⟨k', hk', rfl⟩ ⟨⟨rfl, pre0, x, hpre, hfr, hall, ⟨v', hv, hr, _⟩, hS, hM⟩, hB⟩ hK
        have hxn := ((HSm.out x.1).1 x.2.2).1
        have HNx : Hid (IsNext n z s x.1) := ⟨hxn, x.2.2, hfr, fun b hb hbt => hall ⟨b, in_64 s1 hbt, hbt⟩ (memS_last hk' hpre b hb (in_64 s1 hbt) hbt)⟩
        have HOr : Hid (OrdIs n z (k + 1) (L ++ [x.1]) (clrI s x.1)) := ⟨L, s, x.1, hO.out, HNx.out, rfl, rfl⟩
        have hM' : Hid (Marks W wp.heap.size (D :: ms)) := hM.cons (by simp at hD; omega) hK (fun h => by have := hmlt D h; simp at hD; omega)
        clear hall hpre hfr bA hBA hm kS
        gi_wp2
        refine ⟨⟨k + 1, L ++ [x.1], clrI s x.1, _, _, _, _, _, _, _, _, _, _, _, _, _, _, _, _, _, _, _, _, _, _, _, _, _, _, _, _, _, _, _, _, _, _, _, _, _, _, _, _, _, D :: ms, by omega, rfl, rfl, HOr, ⟨v', hv, hr⟩, hS, hM'.out, hB⟩, ?_⟩
        simp [intOf]; omega
    · obtain rfl : k = n := by omega
      have hcv := bL.cell
      gi_wp2
      refine leaves_marks wp.heap.size (fun W => W.ownsRow wp.heap.size 3 1 v k (encL L) ∧ Below wp.heap.size wp W) ?_ ?_ ms wr hm ⟨hrow, hbel⟩
      · rintro W D ⟨h1, h2⟩ hD hK
        exact ⟨ownsRow_putObj h1 _ hK rfl, h2.trans (belowK_b (w := wp) (Nat.le_refl _) W D _ _ hD hK rfl rfl)⟩
      · rintro W ⟨h1, h2⟩
        exact ⟨.tuple #[v, .int .i64 0], by simp [results, Try.f16, go_sem], v, L, s, rfl, hO.out, own_mono h1 hBp.size, Below.onto hBp h2⟩

end Go.Proofs.Ytcfpfddbbhphgab
