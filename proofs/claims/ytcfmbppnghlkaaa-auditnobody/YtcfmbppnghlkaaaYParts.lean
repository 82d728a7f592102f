/- Left; what a choice leaves of each gate's records. -/
import Derived.Test.YtcfmbppnghlkaaaYMem
namespace Go.Proofs.Ytcfmbppnghlkaaa
open Go.RowKit Go.Sort
set_option maxRecDepth 100000

abbrev inG (R : List Int) (g : Int) : Prop := 0 ≤ g ∧ g < R.length
set_option maxHeartbeats 1000000 in
theorem yLeft (w : World) (p : Nat) (o : Yo) (R : List Int) (L : List Rc) (x : Yx w p o R L) (g : Int) (hg : inG R g) : Calls Try.prog 16 #[ptr p, .int .i64 g] w fun e w' => e = .returned (.tuple #[.int .i64 (atR R g.toNat - (ownR L g.toNat).length), .int .i64 0]) ∧ Below w.heap.size w w' := by
  have c := ylog w p o R L x g
  rw [logV, if_pos hg] at c
  have hk : g.toNat < R.length := by omega
  obtain ⟨a, cp, hv, _⟩ := x.form hk
  have hb := x.gb _ hk
  rw [hv] at hb
  have c2 := yleft w (o.gb g.toNat) _ a _ cp hb (x.ok.room _ hk) (x.ok.len hk)
  generalize g.toNat = k at *
  clear x hb hv hg hk
  go_enter Try.func16, Try.ntmps16
  go_wp2_with fail
  refine c.mono ?_
  rintro e w' ⟨rfl, hw⟩
  subst hw
  go_wp2_with fail
  refine c2.mono ?_
  rintro e w2 ⟨rfl, hb⟩
  have HB : Hid (Below w'.heap.size w' w2) := hb
  clear c c2 hb
  go_wp2_with fail
  go_ret2
  exact ⟨rfl, HB.out⟩
set_option maxHeartbeats 1000000 in
theorem yLeft_bad (w : World) (P : Value) (g : Int) (er : Int) (her : er ≠ 0)
    (c : Calls Try.prog 28 #[P, .int .i64 g] w fun e w' => e = .returned (.tuple #[.pointer none, .int .i64 er]) ∧ w' = w) : Calls Try.prog 16 #[P, .int .i64 g] w fun e w' => e = .returned (.tuple #[.int .i64 0, .int .i64 er]) ∧ w' = w := by
  go_enter Try.func16, Try.ntmps16
  go_wp2_with fail
  refine c.mono ?_
  rintro e w' ⟨rfl, hw⟩
  subst hw
  clear c
  go_wp2_with fail
  go_ret2
  exact ⟨rfl, rfl⟩
set_option maxHeartbeats 1000000 in
theorem yparts_no (w : World) (P : Value) (h : NbL w P) (C : Value) : Calls Try.prog 31 #[P, C] w fun e w' => e = .returned (.slice none 0 0) ∧ w' = w := by
  have c := yis_no w P h
  clear h
  go_enter Try.func31, Try.ntmps31
  go_wp2_with fail
  refine c.mono ?_
  rintro e w' ⟨rfl, hw⟩
  subst hw
  clear c
  go_wp2_with fail
  go_ret
  exact ⟨rfl, rfl⟩
/-- a part: where, how many, room for how many -/
structure Pt where
  a : Option Addr
  n : Nat
  c : Nat
abbrev Pt.V (x : Pt) : Value := .slice x.a x.n x.c
/-- those that are not empty, of the first k -/
def ptsTo (f : Nat → Pt) (k : Nat) : List Pt := ((List.range k).map f).filter fun x => decide (0 < x.n)
theorem ptsTo_next (f : Nat → Pt) (k : Nat) : ptsTo f (k + 1) = if 0 < (f k).n then ptsTo f k ++ [f k] else ptsTo f k := by
  unfold ptsTo
  rw [List.range_succ, List.map_append, List.filter_append]
  by_cases h : 0 < (f k).n
  · simp [h]
  · simp [h]
theorem ptsTo_len (f : Nat → Pt) (k : Nat) : (ptsTo f k).length ≤ k := by
  unfold ptsTo
  refine Nat.le_trans (List.length_filter_le _ _) (by simp)
theorem infoRow : (Try.prog.info? 61).map (fun i => (i.zero, i.size, i.bytes)) = some (some (.slice none 0 0), 1, 24) := by kernel_rfl
/-- one part more to a row of one's own -/
theorem prow_snoc (base : Nat) (v : Value) (n : Nat) (xs : List Value) (r : Pt) (w : World) (hv : w.ownsRow base 61 1 v n xs) (hn : n ≤ 900000) (hb : base ≤ w.heap.size) :
    ∃ v' w', (Builtin.append_ #[70, 70] 70 #[v, .slice (some ⟨w.heap.size, 0, none⟩) 1 1]).run Try.prog (w.alloc (.cells #[r.V] 61)) = .ok v' w' ∧ w'.ownsRow base 61 1 v' (n + 1) (xs ++ [r.V]) ∧ (w.alloc (.cells #[r.V] 61)).grownBy w' v.ownBlock := by
  obtain ⟨i0, hi, hz0, hz1, hz2⟩ := info_parts infoRow
  have HE : ∀ j u, [r.V][j]? = some u → (w.alloc (.cells #[r.V] 61)).cell? ((⟨w.heap.size, 0, none⟩ : Addr).add j) = some u := by
    intro j u hj
    rw [Go.WideShapes.add_plain, Nat.zero_add]
    exact (blk_new w [r.V] _).cell hj
  obtain ⟨v', w3, hrun, hown, hgrow, _⟩ := run_append_own_at (P := Try.prog) (w := w.alloc (.cells #[r.V] 61)) base 70 70 61 i0 (.slice none 0 0) 1 24 Try.underlying70 hi hz0 hz1 hz2 rfl (by decide) v n xs (hv.alloc _) ⟨w.heap.size, 0, none⟩ 1 1 [r.V] rfl HE (by simp [Value.oneCell']) (by unfold maxLen; omega) (by omega) (by rw [World.size_alloc]; omega)
  exact ⟨v', w3, hrun, hown, hgrow⟩
set_option maxHeartbeats 2000000 in
theorem yparts (w : World) (p : Nat) (o : Yo) (R : List Int) (L : List Rc) (x : Yx w p o R L) (g : Nat) (bd : Array Value) (f : Nat → Pt) (en : ∀ args W, (callFunc g args).run Try.prog W = .ok (.enter g args) W)
    (hc : ∀ i W, i < R.length → Below w.heap.size w W → Calls Try.prog g (bd ++ #[.int .i64 (i : Int), o.v i]) W fun e W' => e = .returned (f i).V ∧ Below W.heap.size W W') :
    Calls Try.prog 31 #[ptr p, .func (.func g) bd #[]] w fun e w' => ∃ v, e = .returned v ∧ w'.ownsRow w.heap.size 61 1 v (ptsTo f R.length).length ((ptsTo f R.length).map Pt.V) ∧ Below w.heap.size w w' := by
  have c := yis w p o R L x
  have h0 := x.pb.cell (i := 0) rfl
  have HX : Hid (Yx w p o R L) := x
  have HC : Hid (∀ i W, i < R.length → Below w.heap.size w W → Calls Try.prog g (bd ++ #[.int .i64 (i : Int), o.v i]) W fun e W' => e = .returned (f i).V ∧ Below W.heap.size W W') := hc
  clear x hc
  go_enter Try.func31, Try.ntmps31
  go_wp2_with fail
  refine c.mono ?_
  rintro e w' ⟨rfl, hw⟩
  subst hw
  clear c
  go_wp2_with fail
  clear h0
  go_loopw [5, 17] (fun v i wr => ∃ j : Nat, j ≤ R.length ∧ i = .int .i64 j ∧ Hid (wr.ownsRow w'.heap.size 61 1 v (ptsTo f j).length ((ptsTo f j).map Pt.V) ∧ Below w'.heap.size w' wr)) (fun _ i _ => R.length - (intOf i).toNat)
  case atStart => exact ⟨0, Nat.zero_le _, rfl, World.ownsRow_nil _ _ _ _, Below.refl _ _⟩
  case round =>
    obtain ⟨j, hj, rfl, hM⟩ := hrel
    by_cases hlt : j < R.length
    · have xr := HX.out.below hM.out.2
      have q0 := xr.lb.cell (ptrs_at (o := o) hlt)
      have q1 := (xr.gb j hlt).cell (i := 1) rfl
      have cc := HC.out j wr hlt hM.out.2
      have hfew := HX.out.ok.few
      clear xr
      go_wp2_with fail
      refine cc.mono ?_
      rintro e w5 ⟨rfl, hb5⟩
      clear cc q0 q1
      have HM5 : Hid (w5.ownsRow w'.heap.size 61 1 u5 (ptsTo f j).length ((ptsTo f j).map Pt.V) ∧ Below w'.heap.size w' w5) := ⟨eown_block hM.out.1 fun b h => hb5.block b (hM.out.1.lt b h).2, Below.onto hM.out.2 hb5⟩
      clear hb5
      have hnx := ptsTo_next f j
      have hln := ptsTo_len f j
      by_cases hz : 0 < (f j).n
      · rw [if_pos hz] at hnx
        obtain ⟨v', w6, hrun, hown, hgrow⟩ := prow_snoc w'.heap.size u5 (ptsTo f j).length _ (f j) w5 HM5.out.1 (by omega) HM5.out.2.size
        have HM6 : Hid (w6.ownsRow w'.heap.size 61 1 v' (ptsTo f (j + 1)).length ((ptsTo f (j + 1)).map Pt.V) ∧ Below w'.heap.size w' w6) := by
          rw [hnx, List.length_append, List.map_append]
          exact ⟨hown, gown_below (HM5.out.2.alloc HM5.out.2.size _) (by rw [World.size_alloc]; exact Nat.le_succ_of_le HM5.out.2.size) (HM5.out.1.alloc _) hgrow⟩
        clear hown hgrow hnx
        trace_state
        go_wp2_with (at_builtin; refine wpList_append_run rfl (.tmp 32) (.tmp 34) 70 rfl _ _ _ rfl rfl hrun ?_)
        go_roundw
        case rel => exact ⟨j + 1, by omega, by go_num, HM6⟩
        case measure => simp [intOf]; omega
      · rw [if_neg hz] at hnx
        have HM6 : Hid (w5.ownsRow w'.heap.size 61 1 u5 (ptsTo f (j + 1)).length ((ptsTo f (j + 1)).map Pt.V) ∧ Below w'.heap.size w' w5) := by rw [hnx]; exact HM5.out
        go_wp2_with fail
        go_roundw
        case rel => exact ⟨j + 1, by omega, by go_num, HM6⟩
        case measure => simp [intOf]; omega
    · obtain rfl : j = R.length := by omega
      go_wp2_with fail
      go_ret
      exact ⟨_, rfl, hM.out⟩
end Go.Proofs.Ytcfmbppnghlkaaa
