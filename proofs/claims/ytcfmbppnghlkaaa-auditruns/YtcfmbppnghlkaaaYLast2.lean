/- Last, whole. -/
import Derived.Test.YtcfmbppnghlkaaaYMem
import Derived.Test.YtcfmbppnghlkaaaYLess
namespace Go.Proofs.Ytcfmbppnghlkaaa
open Go.RowKit Go.Sort
set_option maxRecDepth 100000

abbrev inG (R : List Int) (g : Int) : Prop := 0 ≤ g ∧ g < R.length
set_option maxHeartbeats 1000000 in
theorem yLeft (w : World) (p : Nat) (o : Yo) (R : List Int) (L : List Rc) (x : Yx w p o R L) (g : Int) (hg : inG R g) : Calls Try.prog 16 #[ptr p, .int .i64 g] w fun e w' => e = .returned (.tuple #[.int .i64 (atR R g.toNat - (ownR L g.toNat).length), .int .i64 0]) ∧ Below w.heap.size w w' := by
  have c := ylog w p o R L x g
  rw [logV, if_pos hg] at c
  have hk : g.toNat < R.length := by omega
  obtain ⟨a, cp, hv, _⟩ := x.form hk
  have hb := x.gb _ hk
  rw [hv] at hb
  have c2 := yleft w (o.gb g.toNat) _ a _ cp hb (x.ok.room _ hk) (x.ok.len hk)
  generalize g.toNat = k at *
  clear x hb hv hg hk
  go_enter Try.func16, Try.ntmps16
  go_wp2_with fail
  refine c.mono ?_
  rintro e w' ⟨rfl, hw⟩
  subst hw
  go_wp2_with fail
  refine c2.mono ?_
  rintro e w2 ⟨rfl, hb⟩
  have HB : Hid (Below w'.heap.size w' w2) := hb
  clear c c2 hb
  go_wp2_with fail
  go_ret2
  exact ⟨rfl, HB.out⟩
set_option maxHeartbeats 1000000 in
theorem yLeft_bad (w : World) (P : Value) (g : Int) (er : Int) (her : er ≠ 0)
    (c : Calls Try.prog 28 #[P, .int .i64 g] w fun e w' => e = .returned (.tuple #[.pointer none, .int .i64 er]) ∧ w' = w) : Calls Try.prog 16 #[P, .int .i64 g] w fun e w' => e = .returned (.tuple #[.int .i64 0, .int .i64 er]) ∧ w' = w := by
  go_enter Try.func16, Try.ntmps16
  go_wp2_with fail
  refine c.mono ?_
  rintro e w' ⟨rfl, hw⟩
  subst hw
  clear c
  go_wp2_with fail
  go_ret2
  exact ⟨rfl, rfl⟩
set_option maxHeartbeats 1000000 in
theorem yparts_no (w : World) (P : Value) (h : NbL w P) (C : Value) : Calls Try.prog 31 #[P, C] w fun e w' => e = .returned (.slice none 0 0) ∧ w' = w := by
  have c := yis_no w P h
  clear h
  go_enter Try.func31, Try.ntmps31
  go_wp2_with fail
  refine c.mono ?_
  rintro e w' ⟨rfl, hw⟩
  subst hw
  clear c
  go_wp2_with fail
  go_ret
  exact ⟨rfl, rfl⟩
/-- a part: where, how many, room for how many -/
structure Pt where
  a : Option Addr
  n : Nat
  c : Nat
abbrev Pt.V (x : Pt) : Value := .slice x.a x.n x.c
/-- those that are not empty, of the first k -/
def ptsTo (f : Nat → Pt) (k : Nat) : List Pt := ((List.range k).map f).filter fun x => decide (0 < x.n)
theorem ptsTo_next (f : Nat → Pt) (k : Nat) : ptsTo f (k + 1) = if 0 < (f k).n then ptsTo f k ++ [f k] else ptsTo f k := by
  unfold ptsTo
  rw [List.range_succ, List.map_append, List.filter_append]
  by_cases h : 0 < (f k).n
  · simp [h]
  · simp [h]
theorem ptsTo_len (f : Nat → Pt) (k : Nat) : (ptsTo f k).length ≤ k := by
  unfold ptsTo
  refine Nat.le_trans (List.length_filter_le _ _) (by simp)
theorem infoRow : (Try.prog.info? 61).map (fun i => (i.zero, i.size, i.bytes)) = some (some (.slice none 0 0), 1, 24) := by kernel_rfl
/-- one part more to a row of one's own -/
theorem prow_snoc (base : Nat) (v : Value) (n : Nat) (xs : List Value) (r : Pt) (w : World) (hv : w.ownsRow base 61 1 v n xs) (hn : n ≤ 900000) (hb : base ≤ w.heap.size) :
    ∃ v' w', (Builtin.append_ #[70, 70] 70 #[v, .slice (some ⟨w.heap.size, 0, none⟩) 1 1]).run Try.prog (w.alloc (.cells #[r.V] 61)) = .ok v' w' ∧ w'.ownsRow base 61 1 v' (n + 1) (xs ++ [r.V]) ∧ (w.alloc (.cells #[r.V] 61)).grownBy w' v.ownBlock := by
  obtain ⟨i0, hi, hz0, hz1, hz2⟩ := info_parts infoRow
  have HE : ∀ j u, [r.V][j]? = some u → (w.alloc (.cells #[r.V] 61)).cell? ((⟨w.heap.size, 0, none⟩ : Addr).add j) = some u := by
    intro j u hj
    rw [Go.WideShapes.add_plain, Nat.zero_add]
    exact (blk_new w [r.V] _).cell hj
  obtain ⟨v', w3, hrun, hown, hgrow, _⟩ := run_append_own_at (P := Try.prog) (w := w.alloc (.cells #[r.V] 61)) base 70 70 61 i0 (.slice none 0 0) 1 24 Try.underlying70 hi hz0 hz1 hz2 rfl (by decide) v n xs (hv.alloc _) ⟨w.heap.size, 0, none⟩ 1 1 [r.V] rfl HE (by simp [Value.oneCell']) (by unfold maxLen; omega) (by omega) (by rw [World.size_alloc]; omega)
  exact ⟨v', w3, hrun, hown, hgrow⟩
set_option maxHeartbeats 2000000 in
theorem yparts (w : World) (p : Nat) (o : Yo) (R : List Int) (L : List Rc) (x : Yx w p o R L) (g : Nat) (bd : Array Value) (f : Nat → Pt) (en : ∀ args W, (callFunc g args).run Try.prog W = .ok (.enter g args) W)
    (hc : ∀ i W, i < R.length → Below w.heap.size w W → Calls Try.prog g (bd ++ #[.int .i64 (i : Int), o.v i]) W fun e W' => e = .returned (f i).V ∧ Below W.heap.size W W') :
    Calls Try.prog 31 #[ptr p, .func (.func g) bd #[]] w fun e w' => ∃ v, e = .returned v ∧ w'.ownsRow w.heap.size 61 1 v (ptsTo f R.length).length ((ptsTo f R.length).map Pt.V) ∧ Below w.heap.size w w' := by
  have c := yis w p o R L x
  have h0 := x.pb.cell (i := 0) rfl
  have HX : Hid (Yx w p o R L) := x
  have HC : Hid (∀ i W, i < R.length → Below w.heap.size w W → Calls Try.prog g (bd ++ #[.int .i64 (i : Int), o.v i]) W fun e W' => e = .returned (f i).V ∧ Below W.heap.size W W') := hc
  clear x hc
  go_enter Try.func31, Try.ntmps31
  go_wp2_with fail
  refine c.mono ?_
  rintro e w' ⟨rfl, hw⟩
  subst hw
  clear c
  go_wp2_with fail
  clear h0
  go_loopw [5, 17] (fun v i wr => ∃ j : Nat, j ≤ R.length ∧ i = .int .i64 j ∧ Hid (wr.ownsRow w'.heap.size 61 1 v (ptsTo f j).length ((ptsTo f j).map Pt.V) ∧ Below w'.heap.size w' wr)) (fun _ i _ => R.length - (intOf i).toNat)
  case atStart => exact ⟨0, Nat.zero_le _, rfl, World.ownsRow_nil _ _ _ _, Below.refl _ _⟩
  case round =>
    obtain ⟨j, hj, rfl, hM⟩ := hrel
    by_cases hlt : j < R.length
    · have xr := HX.out.below hM.out.2
      have q0 := xr.lb.cell (ptrs_at (o := o) hlt)
      have q1 := (xr.gb j hlt).cell (i := 1) rfl
      have cc := HC.out j wr hlt hM.out.2
      have hfew := HX.out.ok.few
      clear xr
      go_wp2_with fail
      refine cc.mono ?_
      rintro e w5 ⟨rfl, hb5⟩
      clear cc q0 q1
      have HM5 : Hid (w5.ownsRow w'.heap.size 61 1 u5 (ptsTo f j).length ((ptsTo f j).map Pt.V) ∧ Below w'.heap.size w' w5) := ⟨eown_block hM.out.1 fun b h => hb5.block b (hM.out.1.lt b h).2, Below.onto hM.out.2 hb5⟩
      clear hb5
      have hnx := ptsTo_next f j
      have hln := ptsTo_len f j
      by_cases hz : 0 < (f j).n
      · rw [if_pos hz] at hnx
        obtain ⟨v', w6, hrun, hown, hgrow⟩ := prow_snoc w'.heap.size u5 (ptsTo f j).length _ (f j) w5 HM5.out.1 (by omega) HM5.out.2.size
        have HM6 : Hid (w6.ownsRow w'.heap.size 61 1 v' (ptsTo f (j + 1)).length ((ptsTo f (j + 1)).map Pt.V) ∧ Below w'.heap.size w' w6) := by
          rw [hnx, List.length_append, List.map_append]
          exact ⟨hown, gown_below (HM5.out.2.alloc HM5.out.2.size _) (by rw [World.size_alloc]; exact Nat.le_succ_of_le HM5.out.2.size) (HM5.out.1.alloc _) hgrow⟩
        clear hown hgrow hnx
        trace_state
        go_wp2_with (at_builtin; refine wpList_append_run rfl (.tmp 32) (.tmp 34) 70 rfl _ _ _ rfl rfl hrun ?_)
        go_roundw
        case rel => exact ⟨j + 1, by omega, by go_num, HM6⟩
        case measure => simp [intOf]; omega
      · rw [if_neg hz] at hnx
        have HM6 : Hid (w5.ownsRow w'.heap.size 61 1 u5 (ptsTo f (j + 1)).length ((ptsTo f (j + 1)).map Pt.V) ∧ Below w'.heap.size w' w5) := by rw [hnx]; exact HM5.out
        go_wp2_with fail
        go_roundw
        case rel => exact ⟨j + 1, by omega, by go_num, HM6⟩
        case measure => simp [intOf]; omega
    · obtain rfl : j = R.length := by omega
      go_wp2_with fail
      go_ret
      exact ⟨_, rfl, hM.out⟩
end Go.Proofs.Ytcfmbppnghlkaaa
namespace Go.Proofs.Ytcfmbppnghlkaaa
open Go.RowKit Go.Sort
set_option maxRecDepth 100000

/-- the gates that have a part -/
def gsTo (f : Nat → Pt) (k : Nat) : List Nat := (List.range k).filter fun i => decide (0 < (f i).n)
theorem pts_gs (f : Nat → Pt) (k : Nat) : ptsTo f k = (gsTo f k).map f := by
  unfold ptsTo gsTo
  rw [List.filter_map]
  rfl
theorem mem_gs {f : Nat → Pt} {k i : Nat} : i ∈ gsTo f k ↔ i < k ∧ 0 < (f i).n := by simp [gsTo]
theorem gs_nodup (f : Nat → Pt) (k : Nat) : (gsTo f k).Nodup := List.Nodup.sublist List.filter_sublist List.nodup_range
set_option maxHeartbeats 1000000 in
theorem yend (w : World) (i : Int) (a : Option Addr) (n c : Nat) (hn : n ≤ c) (hl : n ≤ 1024) (g : Nat) (ha : 0 < n → a = some ⟨g, 0, none⟩) :
    Calls Try.prog 32 #[.int .i64 i, .slice a n c] w fun e w' => e = .returned (if 0 < n then .slice (some ⟨g, 4 * (n - 1), none⟩) 1 (c - (n - 1)) else .slice a 0 c) ∧ w' = w := by
  by_cases h0 : 0 < n
  · rw [if_pos h0, ha h0]
    obtain ⟨m, rfl⟩ : ∃ m, n = m + 1 := ⟨n - 1, by omega⟩
    have hz : ((m : Int)).toNat = m := by simp
    have hm : ¬ ((m : Int) < 0) := by omega
    clear ha
    simp only [Nat.add_sub_cancel]
    go_enter Try.func32, Try.ntmps32
    go_wp2_with fail
    · go_ret
      exact ⟨by rw [Nat.mul_comm]; rfl, rfl⟩
    · obtain rfl : m = 0 := by omega
      go_ret
      exact ⟨rfl, rfl⟩
  · obtain rfl : n = 0 := by omega
    rw [if_neg h0]
    clear ha
    go_enter Try.func32, Try.ntmps32
    go_wp2_with fail
    go_ret
    exact ⟨rfl, rfl⟩
theorem fcomp : ∀ args W, (callFunc 34 args).run Try.prog W = .ok (.enter 34 args) W := enters_of Try.func34 (by kernel_rfl) rfl
theorem cmp_pos {r q : Rc} (h : r.Ok) (k : q.Ok) : decide (0 < cmpI r.t r.s q.t q.s) = decide (q.key < r.key) := by
  have hk := k.key h
  have hk2 := h.key k
  unfold cmpI
  split
  · simp; omega
  · split
    · simp; omega
    · simp; omega
/-- parts, each with the first record of it -/
structure Hd (w : World) (x : Pt) (r : Rc) : Prop where
  n : 0 < x.n
  ok : r.Ok
  at_ : ∃ b o, x.a = some ⟨b, o, none⟩ ∧ ∀ k v, (encR r)[k]? = some v → w.cell? ⟨b, o + k, none⟩ = some v
theorem Hd.below {w w' : World} {x : Pt} {r : Rc} (h : Hd w x r) (hb : Below w.heap.size w w') : Hd w' x r := by
  obtain ⟨b, o, e, hc⟩ := h.at_
  exact ⟨h.n, h.ok, b, o, e, fun k v hv => (hb.cell (p := ⟨b, o + k, none⟩) (cell_lt (hc k v hv))).trans (hc k v hv)⟩
theorem ycompH (w : World) (x y : Pt) (r q : Rc) (h : Hd w x r) (k : Hd w y q) : Calls Try.prog 34 #[x.V, y.V] w fun e w' => e = .returned (.int .i64 (cmpI r.t r.s q.t q.s)) ∧ Below w.heap.size w w' := by
  obtain ⟨b, o, e, hc⟩ := h.at_
  obtain ⟨b', o', e', hc'⟩ := k.at_
  unfold Pt.V
  rw [e, e']
  exact ycomp b o x.n x.c b' o' y.n y.c r.t r.s q.t q.s w h.n k.n (hc 0 _ rfl) (hc 1 _ rfl) (hc' 0 _ rfl) (hc' 1 _ rfl)
set_option maxHeartbeats 2000000 in
theorem ymax (w : World) (ra : Option Addr) (cap K : Nat) (hK : 0 < K) (hK2 : K ≤ 1000) (pt : Nat → Pt) (rr : Nat → Rc) (hr : ∀ i, i < K → ∃ g, ra = some ⟨g, 0, none⟩ ∧ w.cell? ⟨g, i, none⟩ = some (pt i).V) (hh : ∀ i, i < K → Hd w (pt i) (rr i)) :
    Calls Try.prog 33 #[.slice ra K cap, .func (.func 34) #[] #[]] w fun e w' => ∃ k, k < K ∧ (∀ j, j < K → (rr j).key ≤ (rr k).key) ∧ e = .returned (pt k).V ∧ Below w.heap.size w w' := by
  obtain ⟨g, rfl, h0⟩ := hr 0 hK
  have hg := cell_lt h0
  have en := fcomp
  have HR : Hid (∀ i, i < K → w.cell? ⟨g, i, none⟩ = some (pt i).V) := fun i hi => by
    obtain ⟨g', e, h⟩ := hr i hi
    injection e with e
    injection e with e
    rw [e]; exact h
  have HH : Hid (∀ i, i < K → Hd w (pt i) (rr i)) := hh
  clear hr hh
  go_enter Try.func33, Try.ntmps33
  go_wp2_with fail
  clear h0
  go_loopw [5, 6] (fun v i wr => ∃ j k : Nat, 1 ≤ j ∧ j ≤ K ∧ k < j ∧ i = .int .i64 j ∧ v = (pt k).V ∧ Hid ((∀ m, m < j → (rr m).key ≤ (rr k).key) ∧ Below w.heap.size w wr)) (fun _ i _ => K - (intOf i).toNat)
  case atStart => exact ⟨1, 0, Nat.le_refl _, hK, by omega, rfl, rfl, fun m hm => by rw [show m = 0 by omega]; exact Int.le_refl _, Below.refl _ _⟩
  case round =>
    obtain ⟨j, k, h1, hj, hkj, rfl, rfl, hM⟩ := hrel
    by_cases hlt : j < K
    · have c1 := (hM.out.2.cell (p := ⟨g, j, none⟩) hg).trans (HR.out j hlt)
      have cc := ycompH wr (pt j) (pt k) (rr j) (rr k) ((HH.out j hlt).below hM.out.2) ((HH.out k (by omega)).below hM.out.2)
      have hd := cmp_pos (HH.out j hlt).ok (HH.out k (by omega)).ok
      generalize cmpI (rr j).t (rr j).s (rr k).t (rr k).s = ci at *
      go_wp2_with fail
      refine cc.mono ?_
      rintro e w5 ⟨rfl, hb5⟩
      have HB5 : Hid (Below w.heap.size w w5) := Below.onto hM.out.2 hb5
      have c1' := (HB5.out.cell (p := ⟨g, j, none⟩) hg).trans (HR.out j hlt)
      clear cc hb5 c1
      by_cases hc : 0 < ci
      · have hlt2 : (rr k).key < (rr j).key := by
          rw [decide_eq_decide] at hd; exact hd.1 hc
        clear hd
        go_wp2_with fail
        go_roundw
        case rel => exact ⟨j + 1, j, by omega, by omega, by omega, by go_num, rfl, fun m hm => by
          by_cases e : m = j
          · rw [e]; exact Int.le_refl _
          · have := hM.out.1 m (by omega); omega, HB5.out⟩
        case measure => simp [intOf]; omega
      · have hlt2 : ¬ (rr k).key < (rr j).key := by
          rw [decide_eq_decide] at hd; exact fun h => hc (hd.2 h)
        clear hd
        go_wp2_with fail
        go_roundw
        case rel => exact ⟨j + 1, k, by omega, by omega, by omega, by go_num, rfl, fun m hm => by
          by_cases e : m = j
          · rw [e]; omega
          · exact hM.out.1 m (by omega), HB5.out⟩
        case measure => simp [intOf]; omega
    · obtain rfl : j = K := by omega
      go_wp2_with fail
      go_ret
      exact ⟨k, hkj, hM.out.1, rfl, hM.out.2⟩
theorem own_mono2 {w : World} {base base2 size n : Nat} {e : TypeId} {v : Value} {xs : List Value} (h : w.ownsRow base e size v n xs) (hb : base2 ≤ base) : w.ownsRow base2 e size v n xs := by
  refine ⟨h.1, ?_⟩
  rcases h.2 with hn | ⟨g, cap, cur, rfl, h1, rest⟩
  · exact .inl hn
  · exact .inr ⟨g, cap, cur, rfl, Nat.le_trans hb h1, rest⟩
theorem own_at {w : World} {base size n : Nat} {e : TypeId} {v : Value} {xs : List Value} (h : w.ownsRow base e size v n xs) : ∃ a cap, v = .slice a n cap ∧ n ≤ cap ∧ ∀ i x, xs[i]? = some x → ∃ g, v.ownBlock = some g ∧ a = some ⟨g, 0, none⟩ ∧ w.cell? ⟨g, i, none⟩ = some x := by
  rcases h.2 with ⟨rfl, rfl⟩ | ⟨g, cap, cur, rfl, _, _, h3, _⟩
  · refine ⟨none, 0, rfl, Nat.le_refl _, fun i x hx => ?_⟩
    have := (List.getElem?_eq_some_iff.1 hx).1
    rw [h.1] at this
    omega
  · refine ⟨some ⟨g, 0, none⟩, cap, rfl, h3, fun i x hx => ⟨g, rfl, rfl, ?_⟩⟩
    have := h.cells (g := g) rfl i x hx
    rwa [Go.WideShapes.add_plain, Nat.zero_add] at this
def sA : Value → Option Addr
  | .slice a _ _ => a
  | _ => none
def sC : Value → Nat
  | .slice _ _ c => c
  | _ => 0
def sB (v : Value) : Nat := match v.ownBlock with
  | some b => b
  | none => 0
/-- the last record of a gate's, as a part -/
def endP (o : Yo) (L : List Rc) (i : Nat) : Pt := if 0 < (ownR L i).length then ⟨some ⟨sB (o.v i), 4 * ((ownR L i).length - 1), none⟩, 1, sC (o.v i) - ((ownR L i).length - 1)⟩ else ⟨sA (o.v i), 0, sC (o.v i)⟩
/-- the last one of all -/
def lastR (L : List Rc) : Rc := L.getLast?.getD rec0
section
variable {w w' : World} {p : Nat} {o : Yo} {R : List Int} {L : List Rc}
/-- a gate's row: where, and its cells -/
theorem Yx.row (x : Yx w p o R L) {i : Nat} (hi : i < R.length) : o.v i = .slice (sA (o.v i)) (ownR L i).length (sC (o.v i)) ∧ (ownR L i).length ≤ sC (o.v i) ∧ ∀ j r, (ownR L i)[j]? = some r → sA (o.v i) = some ⟨sB (o.v i), 0, none⟩ ∧ ∀ k v, (encR r)[k]? = some v → w.cell? ⟨sB (o.v i), 4 * j + k, none⟩ = some v := by
  obtain ⟨a, c, hv, hc, hat⟩ := own_at (x.ow i hi)
  have h1 : sA (o.v i) = a := by rw [hv]; rfl
  have h2 : sC (o.v i) = c := by rw [hv]; rfl
  refine ⟨by rw [h1, h2]; exact hv, by rw [h2]; exact hc, fun j r hr => ?_⟩
  have h3 : ∀ k v, (encR r)[k]? = some v → (encRs (ownR L i))[4 * j + k]? = some v := fun k v hk => encRs_at _ _ _ hr _ _ hk
  obtain ⟨g, hg, ha, _⟩ := hat _ _ (h3 0 _ rfl)
  have h4 : sB (o.v i) = g := by unfold sB; rw [hg]
  refine ⟨by rw [h1, h4]; exact ha, fun k v hk => ?_⟩
  obtain ⟨g', hg', _, hcell⟩ := hat _ _ (h3 k v hk)
  rw [hg] at hg'
  injection hg' with hg'
  rw [h4, hg']
  exact hcell
theorem Yx.yend (x : Yx w p o R L) {i : Nat} (hi : i < R.length) : Calls Try.prog 32 #[.int .i64 (i : Int), o.v i] w fun e w' => e = .returned (endP o L i).V ∧ Below w.heap.size w w' := by
  obtain ⟨h1, h2, h3⟩ := x.row hi
  have hl := x.ok.len hi
  have c := Go.Proofs.Ytcfmbppnghlkaaa.yend w (i : Int) (sA (o.v i)) (ownR L i).length (sC (o.v i)) h2 hl (sB (o.v i)) (fun hn => (h3 0 _ (List.getElem?_eq_getElem hn)).1)
  rw [← h1] at c
  refine c.mono ?_
  rintro e w' ⟨rfl, rfl⟩
  refine ⟨?_, Below.refl _ _⟩
  unfold endP
  split <;> rfl
theorem endP_n (o : Yo) (L : List Rc) (i : Nat) : 0 < (endP o L i).n ↔ 0 < (ownR L i).length := by
  unfold endP
  by_cases h : 0 < (ownR L i).length
  · rw [if_pos h]; exact ⟨fun _ => h, fun _ => Nat.one_pos⟩
  · rw [if_neg h]; exact ⟨fun h' => absurd h' (Nat.lt_irrefl 0), fun h' => absurd h' h⟩
theorem mem_own {L : List Rc} {i : Nat} {r : Rc} : r ∈ ownR L i ↔ r ∈ L ∧ r.g = (i : Int) := by simp [ownR]
/-- the gates whose logs are not empty -/
theorem Yx.hd (x : Yx w p o R L) {i : Nat} (hi : i < R.length) (hn : 0 < (ownR L i).length) : Hd w (endP o L i) (lastR (ownR L i)) ∧ lastR (ownR L i) ∈ L ∧ lastR (ownR L i) ∈ ownR L i := by
  obtain ⟨h1, h2, h3⟩ := x.row hi
  have hne : ownR L i ≠ [] := List.length_pos_iff.1 hn
  have hlast : (ownR L i)[(ownR L i).length - 1]? = some (lastR (ownR L i)) := by
    unfold lastR
    rw [List.getLast?_eq_getElem?]
    have : (ownR L i).length - 1 < (ownR L i).length := by omega
    rw [List.getElem?_eq_getElem this]; rfl
  have hmem : lastR (ownR L i) ∈ ownR L i := List.mem_of_getElem? hlast
  refine ⟨⟨(endP_n o L i).2 hn, x.ok.rok _ (mem_own.1 hmem).1, ⟨sB (o.v i), 4 * ((ownR L i).length - 1), ?_, fun k v hk => (h3 _ _ hlast).2 k v hk⟩⟩, (mem_own.1 hmem).1, hmem⟩
  unfold endP
  rw [if_pos hn]
theorem RiseR.last {L : List Rc} (h : RiseR L) {r : Rc} (hr : r ∈ L) : lastR L ∈ L ∧ r.key ≤ (lastR L).key := by
  have hn : L ≠ [] := List.ne_nil_of_mem hr
  obtain ⟨M, x, rfl⟩ : ∃ M x, L = M ++ [x] := ⟨L.dropLast, L.getLast hn, (List.dropLast_concat_getLast hn).symm⟩
  have e : lastR (M ++ [x]) = x := by simp [lastR]
  rw [e]
  refine ⟨by simp, ?_⟩
  rcases List.mem_append.1 hr with hm | hm
  · have := (List.pairwise_append.1 h).2.2 r hm x (by simp)
    omega
  · simp at hm; rw [hm]; exact Int.le_refl _
end
end Go.Proofs.Ytcfmbppnghlkaaa
namespace Go.Proofs.Ytcfmbppnghlkaaa
open Go.RowKit Go.Sort
set_option maxRecDepth 100000

theorem fend : ∀ args W, (callFunc 32 args).run Try.prog W = .ok (.enter 32 args) W := enters_of Try.func32 (by kernel_rfl) rfl
abbrev bxZ (w : World) : World := w.alloc (.cells #[.int .i64 0, .int .i64 0, .int .i64 0, .int .u64 0] 38)
theorem bxZ_blk (w : World) : Blk (bxZ w) w.heap.size 38 [.int .i64 0, .int .i64 0, .int .i64 0, .int .u64 0] := blk_new w _ _
theorem bxZ_below (w : World) : Below w.heap.size w (bxZ w) := (Below.refl _ w).alloc (Nat.le_refl _) _
/-- all four are stored -/
theorem Blk.set4 {w : World} {b : Nat} {T : TypeId} {a0 a1 a2 a3 : Value} (h : Blk w b T [a0, a1, a2, a3]) (v0 v1 v2 v3 : Value) : Blk ((((w.setCell ⟨b, 0, none⟩ v0).setCell ⟨b, 1, none⟩ v1).setCell ⟨b, 2, none⟩ v2).setCell ⟨b, 3, none⟩ v3) b T [v0, v1, v2, v3] := (((h.set 0 v0).set 1 v1).set 2 v2).set 3 v3
set_option maxHeartbeats 1000000 in
theorem yLast_0 (w : World) (P : Value) (c : Calls Try.prog 31 #[P, .func (.func 32) #[] #[]] (bxZ w) fun e w' => ∃ a cp, e = .returned (.slice a 0 cp) ∧ Below (bxZ w).heap.size (bxZ w) w') :
    Calls Try.prog 14 #[P] w fun e w' => e = .returned (.tuple #[recV rec0, .bool false]) ∧ Below w.heap.size w w' := by
  have HB : Hid (Blk (bxZ w) w.heap.size 38 [.int .i64 0, .int .i64 0, .int .i64 0, .int .u64 0] ∧ Below w.heap.size w (bxZ w)) := ⟨bxZ_blk w, bxZ_below w⟩
  generalize hw1 : bxZ w = w1 at *
  unfold bxZ at hw1
  go_enter Try.func14, Try.ntmps14
  go_wp2_with fail
  refine c.mono ?_
  rintro e w2 ⟨a, cp, rfl, hb⟩
  have hB2 := HB.out.1.below hb
  have h3 := hB2.set4 (.int .i64 0) (.int .i64 0) (.int .i64 0) (.int .u64 0)
  have q0 := hB2.cell (i := 0) rfl
  have q1 := hB2.cell (i := 1) rfl
  have q2 := hB2.cell (i := 2) rfl
  have q3 := hB2.cell (i := 3) rfl
  have qf := hB2.fz
  have s0 := h3.cell (i := 0) rfl
  have s1 := h3.cell (i := 1) rfl
  have s2 := h3.cell (i := 2) rfl
  have s3 := h3.cell (i := 3) rfl
  have HE : Hid (Below w.heap.size w w2) := Below.onto HB.out.2 hb
  clear c hb hB2 h3 hw1
  go_wp2_with fail
  refine bodyPost_ret (v := .tuple #[recV rec0, .bool false]) (by simp [results, Try.results14, go_sem, s0, s1, s2, s3, recV, rec0]) rfl ⟨rfl, ?_⟩
  exact (((HE.out.setCell (Nat.le_refl _) _).setCell (Nat.le_refl _) _).setCell (Nat.le_refl _) _).setCell (Nat.le_refl _) _
set_option maxHeartbeats 1000000 in
theorem yLast_1 (w : World) (P : Value) (K : Nat) (hK : 0 < K) (r : Rc) (S : Option Addr → Nat → World → Prop) (c : Calls Try.prog 31 #[P, .func (.func 32) #[] #[]] (bxZ w) fun e w' => ∃ ra cap, e = .returned (.slice ra K cap) ∧ Below (bxZ w).heap.size (bxZ w) w' ∧ S ra cap w')
    (cM : ∀ ra cap w', S ra cap w' → Calls Try.prog 33 #[.slice ra K cap, .func (.func 34) #[] #[]] w' fun e w'' => ∃ x : Pt, Hd w'' x r ∧ e = .returned x.V ∧ Below w'.heap.size w' w'') :
    Calls Try.prog 14 #[P] w fun e w' => e = .returned (.tuple #[recV r, .bool true]) ∧ Below w.heap.size w w' := by
  have HB : Hid (Blk (bxZ w) w.heap.size 38 [.int .i64 0, .int .i64 0, .int .i64 0, .int .u64 0] ∧ Below w.heap.size w (bxZ w)) := ⟨bxZ_blk w, bxZ_below w⟩
  have HM : Hid (∀ ra cap w', S ra cap w' → Calls Try.prog 33 #[.slice ra K cap, .func (.func 34) #[] #[]] w' fun e w'' => ∃ x : Pt, Hd w'' x r ∧ e = .returned x.V ∧ Below w'.heap.size w' w'') := cM
  have hne : ¬ K = 0 := by omega
  clear cM
  generalize hw1 : bxZ w = w1 at *
  unfold bxZ at hw1
  go_enter Try.func14, Try.ntmps14
  go_wp2_with fail
  refine c.mono ?_
  rintro e w2 ⟨ra, cap, rfl, hb, hS⟩
  have cm := HM.out ra cap w2 hS
  have HB2 : Hid (Blk w2 w.heap.size 38 [.int .i64 0, .int .i64 0, .int .i64 0, .int .u64 0] ∧ Below w.heap.size w w2) := ⟨HB.out.1.below hb, Below.onto HB.out.2 hb⟩
  clear c hb hw1 hS
  go_wp2_with fail
  refine cm.mono ?_
  rintro e w3 ⟨x, hd, rfl, hb3⟩
  obtain ⟨b, of, hxa, hc⟩ := hd.at_
  have hxn := hd.n
  have hxn2 : ¬ x.n = 0 := by omega
  have hB2 := HB2.out.1.below hb3
  have h3 := hB2.set4 (.int .i64 r.t) (.int .i64 r.s) (.int .i64 r.g) (.int .u64 r.p)
  have q0 := hB2.cell (i := 0) rfl
  have q1 := hB2.cell (i := 1) rfl
  have q2 := hB2.cell (i := 2) rfl
  have q3 := hB2.cell (i := 3) rfl
  have qf := hB2.fz
  have s0 := h3.cell (i := 0) rfl
  have s1 := h3.cell (i := 1) rfl
  have s2 := h3.cell (i := 2) rfl
  have s3 := h3.cell (i := 3) rfl
  have k0 : w3.cell? ⟨b, of, none⟩ = some (.int .i64 r.t) := hc 0 _ rfl
  have k1 := hc 1 _ rfl
  have k2 := hc 2 _ rfl
  have k3 := hc 3 _ rfl
  have HE : Hid (Below w.heap.size w w3) := Below.onto HB2.out.2 hb3
  unfold Pt.V
  rw [hxa]
  clear cm hb3 hB2 h3 hd hc hxa
  go_wp2_with fail
  refine bodyPost_ret (v := .tuple #[recV r, .bool true]) (by simp [results, Try.results14, go_sem, s0, s1, s2, s3, recV]) rfl ⟨rfl, ?_⟩
  exact (((HE.out.setCell (Nat.le_refl _) _).setCell (Nat.le_refl _) _).setCell (Nat.le_refl _) _).setCell (Nat.le_refl _) _
theorem yLast_no (w : World) (P : Value) (h : NbL w P) : Calls Try.prog 14 #[P] w fun e w' => e = .returned (.tuple #[recV rec0, .bool false]) ∧ Below w.heap.size w w' :=
  yLast_0 w P ((yparts_no (bxZ w) P (h.below (bxZ_below w)) _).mono fun _ _ ⟨h1, h2⟩ => ⟨none, 0, h1, by rw [h2]; exact Below.refl _ _⟩)
theorem getD_at {l : List Nat} {i : Nat} (h : i < l.length) : l.getD i 0 = l[i] := by simp [List.getD, h]
/-- what Last tells -/
theorem yLast (w : World) (p : Nat) (o : Yo) (R : List Int) (L : List Rc) (x : Yx w p o R L) : Calls Try.prog 14 #[ptr p] w fun e w' => e = .returned (.tuple #[recV (lastR L), .bool (!L.isEmpty)]) ∧ Below w.heap.size w w' := by
  have x1 := x.below (bxZ_below w)
  have cP := yparts (bxZ w) p o R L x1 32 #[] (endP o L) fend (fun i W hi hb => by
    simpa using (x1.below hb).yend hi)
  have hgs : ∀ i, i ∈ gsTo (endP o L) R.length ↔ i < R.length ∧ 0 < (ownR L i).length := fun i => by rw [mem_gs, endP_n]
  have gate : ∀ r, r ∈ L → ∃ i, i ∈ gsTo (endP o L) R.length ∧ r ∈ ownR L i := fun r hr => by
    have hg := x.ok.gate r hr
    have hm : r ∈ ownR L r.g.toNat := mem_own.2 ⟨hr, by omega⟩
    exact ⟨r.g.toNat, (hgs _).2 ⟨by omega, List.length_pos_of_mem hm⟩, hm⟩
  by_cases hL : L = []
  · subst hL
    have e0 : ptsTo (endP o []) R.length = [] := by
      rw [pts_gs, List.map_eq_nil_iff, List.eq_nil_iff_forall_not_mem]
      intro i hi
      have := ((hgs i).1 hi).2
      simp [ownR] at this
    rw [e0] at cP
    refine yLast_0 w (ptr p) (cP.mono ?_)
    rintro e w' ⟨v, rfl, ho, hb⟩
    obtain ⟨a, cp, rfl, _⟩ := own_at ho
    exact ⟨a, cp, rfl, hb⟩
  · have hr0 : lastR L ∈ L := (x.ok.rise.last (List.head_mem hL)).1
    obtain ⟨i0, hi0, _⟩ := gate _ hr0
    have hK : 0 < (gsTo (endP o L) R.length).length := List.length_pos_of_mem hi0
    have hKb : (gsTo (endP o L) R.length).length ≤ 16 := by
      have h1 := ptsTo_len (endP o L) R.length
      rw [pts_gs, List.length_map] at h1
      have := x.ok.few
      omega
    have he : (!L.isEmpty) = true := by cases L with | nil => exact absurd rfl hL | cons _ _ => rfl
    rw [he]
    rw [pts_gs, List.length_map] at cP
    refine yLast_1 w (ptr p) _ hK (lastR L) (fun ra cap W => Below (bxZ w).heap.size (bxZ w) W ∧ ∀ i, i < (gsTo (endP o L) R.length).length → ∃ g, ra = some ⟨g, 0, none⟩ ∧ W.cell? ⟨g, i, none⟩ = some (endP o L ((gsTo (endP o L) R.length).getD i 0)).V) (cP.mono ?_) ?_
    · rintro e w' ⟨v, rfl, ho, hb⟩
      obtain ⟨a, cp, rfl, _, hat⟩ := own_at ho
      refine ⟨a, cp, rfl, hb, hb, fun i hi => ?_⟩
      obtain ⟨g, _, h1, h2⟩ := hat i (endP o L ((gsTo (endP o L) R.length).getD i 0)).V (by simp [List.getD, hi])
      exact ⟨g, h1, h2⟩
    · rintro ra cap W ⟨hb, hr⟩
      have hin : ∀ i, i < (gsTo (endP o L) R.length).length → (gsTo (endP o L) R.length).getD i 0 < R.length ∧ 0 < (ownR L ((gsTo (endP o L) R.length).getD i 0)).length := fun i hi => (hgs _).1 (by
        rw [getD_at hi]; exact List.getElem_mem hi)
      refine (ymax W ra cap _ hK (by omega) (fun i => endP o L ((gsTo (endP o L) R.length).getD i 0)) (fun i => lastR (ownR L ((gsTo (endP o L) R.length).getD i 0))) hr (fun i hi => ((x1.below hb).hd (hin i hi).1 (hin i hi).2).1)).mono ?_
      rintro e w'' ⟨k, hk, hmax, rfl, hb2⟩
      refine ⟨_, ?_, rfl, hb2⟩
      obtain ⟨h1, h2, h3⟩ := (x1.below hb).hd (hin k hk).1 (hin k hk).2
      have heq : lastR (ownR L ((gsTo (endP o L) R.length).getD k 0)) = lastR L := by
        refine x.ok.rise.uniq h2 hr0 ?_
        have a1 := (x.ok.rise.last h2).2
        obtain ⟨i, hi, hio⟩ := gate _ hr0
        obtain ⟨m, hm⟩ := List.getElem?_of_mem hi
        have hml := (List.getElem?_eq_some_iff.1 hm).1
        have a2 := hmax m hml
        rw [getD_at hml, (List.getElem?_eq_some_iff.1 hm).2] at a2
        have a3 := (RiseR.last (L := ownR L i) (x.ok.rise.filter _) hio).2
        omega
      rw [← heq]
      exact h1.below hb2
end Go.Proofs.Ytcfmbppnghlkaaa
