/- The last record of all. -/
import Derived.Test.YtcfmbppnghlkaaaYParts
import Derived.Test.YtcfmbppnghlkaaaYLess
namespace Go.Proofs.Ytcfmbppnghlkaaa
open Go.RowKit Go.Sort
set_option maxRecDepth 100000

/-- the gates that have a part -/
def gsTo (f : Nat → Pt) (k : Nat) : List Nat := (List.range k).filter fun i => decide (0 < (f i).n)
theorem pts_gs (f : Nat → Pt) (k : Nat) : ptsTo f k = (gsTo f k).map f := by
  unfold ptsTo gsTo
  rw [List.filter_map]
  rfl
theorem mem_gs {f : Nat → Pt} {k i : Nat} : i ∈ gsTo f k ↔ i < k ∧ 0 < (f i).n := by simp [gsTo]
theorem gs_nodup (f : Nat → Pt) (k : Nat) : (gsTo f k).Nodup := List.Nodup.sublist List.filter_sublist List.nodup_range
set_option maxHeartbeats 1000000 in
theorem yend (w : World) (i : Int) (a : Option Addr) (n c : Nat) (hn : n ≤ c) (hl : n ≤ 1024) (g : Nat) (ha : 0 < n → a = some ⟨g, 0, none⟩) :
    Calls Try.prog 32 #[.int .i64 i, .slice a n c] w fun e w' => e = .returned (if 0 < n then .slice (some ⟨g, 4 * (n - 1), none⟩) 1 (c - (n - 1)) else .slice a 0 c) ∧ w' = w := by
  by_cases h0 : 0 < n
  · rw [if_pos h0, ha h0]
    obtain ⟨m, rfl⟩ : ∃ m, n = m + 1 := ⟨n - 1, by omega⟩
    have hz : ((m : Int)).toNat = m := by simp
    have hm : ¬ ((m : Int) < 0) := by omega
    clear ha
    simp only [Nat.add_sub_cancel]
    go_enter Try.func32, Try.ntmps32
    go_wp2_with fail
    · go_ret
      exact ⟨by rw [Nat.mul_comm]; rfl, rfl⟩
    · obtain rfl : m = 0 := by omega
      go_ret
      exact ⟨rfl, rfl⟩
  · obtain rfl : n = 0 := by omega
    rw [if_neg h0]
    clear ha
    go_enter Try.func32, Try.ntmps32
    go_wp2_with fail
    go_ret
    exact ⟨rfl, rfl⟩
theorem fcomp : ∀ args W, (callFunc 34 args).run Try.prog W = .ok (.enter 34 args) W := enters_of Try.func34 (by kernel_rfl) rfl
theorem cmp_pos {r q : Rc} (h : r.Ok) (k : q.Ok) : decide (0 < cmpI r.t r.s q.t q.s) = decide (q.key < r.key) := by
  have hk := k.key h
  have hk2 := h.key k
  unfold cmpI
  split
  · simp; omega
  · split
    · simp; omega
    · simp; omega
/-- parts, each with the first record of it -/
structure Hd (w : World) (x : Pt) (r : Rc) : Prop where
  n : 0 < x.n
  ok : r.Ok
  at_ : ∃ b o, x.a = some ⟨b, o, none⟩ ∧ ∀ k v, (encR r)[k]? = some v → w.cell? ⟨b, o + k, none⟩ = some v
theorem Hd.below {w w' : World} {x : Pt} {r : Rc} (h : Hd w x r) (hb : Below w.heap.size w w') : Hd w' x r := by
  obtain ⟨b, o, e, hc⟩ := h.at_
  exact ⟨h.n, h.ok, b, o, e, fun k v hv => (hb.cell (p := ⟨b, o + k, none⟩) (cell_lt (hc k v hv))).trans (hc k v hv)⟩
theorem ycompH (w : World) (x y : Pt) (r q : Rc) (h : Hd w x r) (k : Hd w y q) : Calls Try.prog 34 #[x.V, y.V] w fun e w' => e = .returned (.int .i64 (cmpI r.t r.s q.t q.s)) ∧ Below w.heap.size w w' := by
  obtain ⟨b, o, e, hc⟩ := h.at_
  obtain ⟨b', o', e', hc'⟩ := k.at_
  unfold Pt.V
  rw [e, e']
  exact ycomp b o x.n x.c b' o' y.n y.c r.t r.s q.t q.s w h.n k.n (hc 0 _ rfl) (hc 1 _ rfl) (hc' 0 _ rfl) (hc' 1 _ rfl)
set_option maxHeartbeats 2000000 in
theorem ymax (w : World) (ra : Option Addr) (cap K : Nat) (hK : 0 < K) (hK2 : K ≤ 1000) (pt : Nat → Pt) (rr : Nat → Rc) (hr : ∀ i, i < K → ∃ g, ra = some ⟨g, 0, none⟩ ∧ w.cell? ⟨g, i, none⟩ = some (pt i).V) (hh : ∀ i, i < K → Hd w (pt i) (rr i)) :
    Calls Try.prog 33 #[.slice ra K cap, .func (.func 34) #[] #[]] w fun e w' => ∃ k, k < K ∧ (∀ j, j < K → (rr j).key ≤ (rr k).key) ∧ e = .returned (pt k).V ∧ Below w.heap.size w w' := by
  obtain ⟨g, rfl, h0⟩ := hr 0 hK
  have hg := cell_lt h0
  have en := fcomp
  have HR : Hid (∀ i, i < K → w.cell? ⟨g, i, none⟩ = some (pt i).V) := fun i hi => by
    obtain ⟨g', e, h⟩ := hr i hi
    injection e with e
    injection e with e
    rw [e]; exact h
  have HH : Hid (∀ i, i < K → Hd w (pt i) (rr i)) := hh
  clear hr hh
  go_enter Try.func33, Try.ntmps33
  go_wp2_with fail
  clear h0
  go_loopw [5, 6] (fun v i wr => ∃ j k : Nat, 1 ≤ j ∧ j ≤ K ∧ k < j ∧ i = .int .i64 j ∧ v = (pt k).V ∧ Hid ((∀ m, m < j → (rr m).key ≤ (rr k).key) ∧ Below w.heap.size w wr)) (fun _ i _ => K - (intOf i).toNat)
  case atStart => exact ⟨1, 0, Nat.le_refl _, hK, by omega, rfl, rfl, fun m hm => by rw [show m = 0 by omega]; exact Int.le_refl _, Below.refl _ _⟩
  case round =>
    obtain ⟨j, k, h1, hj, hkj, rfl, rfl, hM⟩ := hrel
    by_cases hlt : j < K
    · have c1 := (hM.out.2.cell (p := ⟨g, j, none⟩) hg).trans (HR.out j hlt)
      have cc := ycompH wr (pt j) (pt k) (rr j) (rr k) ((HH.out j hlt).below hM.out.2) ((HH.out k (by omega)).below hM.out.2)
      have hd := cmp_pos (HH.out j hlt).ok (HH.out k (by omega)).ok
      generalize cmpI (rr j).t (rr j).s (rr k).t (rr k).s = ci at *
      go_wp2_with fail
      refine cc.mono ?_
      rintro e w5 ⟨rfl, hb5⟩
      have HB5 : Hid (Below w.heap.size w w5) := Below.onto hM.out.2 hb5
      have c1' := (HB5.out.cell (p := ⟨g, j, none⟩) hg).trans (HR.out j hlt)
      clear cc hb5 c1
      by_cases hc : 0 < ci
      · have hlt2 : (rr k).key < (rr j).key := by
          rw [decide_eq_decide] at hd; exact hd.1 hc
        clear hd
        go_wp2_with fail
        go_roundw
        case rel => exact ⟨j + 1, j, by omega, by omega, by omega, by go_num, rfl, fun m hm => by
          by_cases e : m = j
          · rw [e]; exact Int.le_refl _
          · have := hM.out.1 m (by omega); omega, HB5.out⟩
        case measure => simp [intOf]; omega
      · have hlt2 : ¬ (rr k).key < (rr j).key := by
          rw [decide_eq_decide] at hd; exact fun h => hc (hd.2 h)
        clear hd
        go_wp2_with fail
        go_roundw
        case rel => exact ⟨j + 1, k, by omega, by omega, by omega, by go_num, rfl, fun m hm => by
          by_cases e : m = j
          · rw [e]; omega
          · exact hM.out.1 m (by omega), HB5.out⟩
        case measure => simp [intOf]; omega
    · obtain rfl : j = K := by omega
      go_wp2_with fail
      go_ret
      exact ⟨k, hkj, hM.out.1, rfl, hM.out.2⟩
theorem own_mono2 {w : World} {base base2 size n : Nat} {e : TypeId} {v : Value} {xs : List Value} (h : w.ownsRow base e size v n xs) (hb : base2 ≤ base) : w.ownsRow base2 e size v n xs := by
  refine ⟨h.1, ?_⟩
  rcases h.2 with hn | ⟨g, cap, cur, rfl, h1, rest⟩
  · exact .inl hn
  · exact .inr ⟨g, cap, cur, rfl, Nat.le_trans hb h1, rest⟩
theorem own_at {w : World} {base size n : Nat} {e : TypeId} {v : Value} {xs : List Value} (h : w.ownsRow base e size v n xs) : ∃ a cap, v = .slice a n cap ∧ n ≤ cap ∧ ∀ i x, xs[i]? = some x → ∃ g, v.ownBlock = some g ∧ a = some ⟨g, 0, none⟩ ∧ w.cell? ⟨g, i, none⟩ = some x := by
  rcases h.2 with ⟨rfl, rfl⟩ | ⟨g, cap, cur, rfl, _, _, h3, _⟩
  · refine ⟨none, 0, rfl, Nat.le_refl _, fun i x hx => ?_⟩
    have := (List.getElem?_eq_some_iff.1 hx).1
    rw [h.1] at this
    omega
  · refine ⟨some ⟨g, 0, none⟩, cap, rfl, h3, fun i x hx => ⟨g, rfl, rfl, ?_⟩⟩
    have := h.cells (g := g) rfl i x hx
    rwa [Go.WideShapes.add_plain, Nat.zero_add] at this
def sA : Value → Option Addr
  | .slice a _ _ => a
  | _ => none
def sC : Value → Nat
  | .slice _ _ c => c
  | _ => 0
def sB (v : Value) : Nat := match v.ownBlock with
  | some b => b
  | none => 0
/-- the last record of a gate's, as a part -/
def endP (o : Yo) (L : List Rc) (i : Nat) : Pt := if 0 < (ownR L i).length then ⟨some ⟨sB (o.v i), 4 * ((ownR L i).length - 1), none⟩, 1, sC (o.v i) - ((ownR L i).length - 1)⟩ else ⟨sA (o.v i), 0, sC (o.v i)⟩
/-- the last one of all -/
def lastR (L : List Rc) : Rc := L.getLast?.getD rec0
section
variable {w w' : World} {p : Nat} {o : Yo} {R : List Int} {L : List Rc}
/-- a gate's row: where, and its cells -/
theorem Yx.row (x : Yx w p o R L) {i : Nat} (hi : i < R.length) : o.v i = .slice (sA (o.v i)) (ownR L i).length (sC (o.v i)) ∧ (ownR L i).length ≤ sC (o.v i) ∧ ∀ j r, (ownR L i)[j]? = some r → sA (o.v i) = some ⟨sB (o.v i), 0, none⟩ ∧ ∀ k v, (encR r)[k]? = some v → w.cell? ⟨sB (o.v i), 4 * j + k, none⟩ = some v := by
  obtain ⟨a, c, hv, hc, hat⟩ := own_at (x.ow i hi)
  have h1 : sA (o.v i) = a := by rw [hv]; rfl
  have h2 : sC (o.v i) = c := by rw [hv]; rfl
  refine ⟨by rw [h1, h2]; exact hv, by rw [h2]; exact hc, fun j r hr => ?_⟩
  have h3 : ∀ k v, (encR r)[k]? = some v → (encRs (ownR L i))[4 * j + k]? = some v := fun k v hk => encRs_at _ _ _ hr _ _ hk
  obtain ⟨g, hg, ha, _⟩ := hat _ _ (h3 0 _ rfl)
  have h4 : sB (o.v i) = g := by unfold sB; rw [hg]
  refine ⟨by rw [h1, h4]; exact ha, fun k v hk => ?_⟩
  obtain ⟨g', hg', _, hcell⟩ := hat _ _ (h3 k v hk)
  rw [hg] at hg'
  injection hg' with hg'
  rw [h4, hg']
  exact hcell
theorem Yx.yend (x : Yx w p o R L) {i : Nat} (hi : i < R.length) : Calls Try.prog 32 #[.int .i64 (i : Int), o.v i] w fun e w' => e = .returned (endP o L i).V ∧ Below w.heap.size w w' := by
  obtain ⟨h1, h2, h3⟩ := x.row hi
  have hl := x.ok.len hi
  have c := Go.Proofs.Ytcfmbppnghlkaaa.yend w (i : Int) (sA (o.v i)) (ownR L i).length (sC (o.v i)) h2 hl (sB (o.v i)) (fun hn => (h3 0 _ (List.getElem?_eq_getElem hn)).1)
  rw [← h1] at c
  refine c.mono ?_
  rintro e w' ⟨rfl, rfl⟩
  refine ⟨?_, Below.refl _ _⟩
  unfold endP
  split <;> rfl
theorem endP_n (o : Yo) (L : List Rc) (i : Nat) : 0 < (endP o L i).n ↔ 0 < (ownR L i).length := by
  unfold endP
  by_cases h : 0 < (ownR L i).length
  · rw [if_pos h]; exact ⟨fun _ => h, fun _ => Nat.one_pos⟩
  · rw [if_neg h]; exact ⟨fun h' => absurd h' (Nat.lt_irrefl 0), fun h' => absurd h' h⟩
theorem mem_own {L : List Rc} {i : Nat} {r : Rc} : r ∈ ownR L i ↔ r ∈ L ∧ r.g = (i : Int) := by simp [ownR]
/-- the gates whose logs are not empty -/
theorem Yx.hd (x : Yx w p o R L) {i : Nat} (hi : i < R.length) (hn : 0 < (ownR L i).length) : Hd w (endP o L i) (lastR (ownR L i)) ∧ lastR (ownR L i) ∈ L ∧ lastR (ownR L i) ∈ ownR L i := by
  obtain ⟨h1, h2, h3⟩ := x.row hi
  have hne : ownR L i ≠ [] := List.length_pos_iff.1 hn
  have hlast : (ownR L i)[(ownR L i).length - 1]? = some (lastR (ownR L i)) := by
    unfold lastR
    rw [List.getLast?_eq_getElem?]
    have : (ownR L i).length - 1 < (ownR L i).length := by omega
    rw [List.getElem?_eq_getElem this]; rfl
  have hmem : lastR (ownR L i) ∈ ownR L i := List.mem_of_getElem? hlast
  refine ⟨⟨(endP_n o L i).2 hn, x.ok.rok _ (mem_own.1 hmem).1, ⟨sB (o.v i), 4 * ((ownR L i).length - 1), ?_, fun k v hk => (h3 _ _ hlast).2 k v hk⟩⟩, (mem_own.1 hmem).1, hmem⟩
  unfold endP
  rw [if_pos hn]
theorem RiseR.last {L : List Rc} (h : RiseR L) {r : Rc} (hr : r ∈ L) : lastR L ∈ L ∧ r.key ≤ (lastR L).key := by
  have hn : L ≠ [] := List.ne_nil_of_mem hr
  obtain ⟨M, x, rfl⟩ : ∃ M x, L = M ++ [x] := ⟨L.dropLast, L.getLast hn, (List.dropLast_concat_getLast hn).symm⟩
  have e : lastR (M ++ [x]) = x := by simp [lastR]
  rw [e]
  refine ⟨by simp, ?_⟩
  rcases List.mem_append.1 hr with hm | hm
  · have := (List.pairwise_append.1 h).2.2 r hm x (by simp)
    omega
  · simp at hm; rw [hm]; exact Int.le_refl _
end
end Go.Proofs.Ytcfmbppnghlkaaa
