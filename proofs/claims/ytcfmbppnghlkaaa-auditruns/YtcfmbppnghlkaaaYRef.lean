/- The document's logs: is, Of, Left, All, Upto, Last. -/
import Derived.Test.YtcfmbppnghlkaaaYUpto
import Derived.Test.YtcfmbppnghlkaaaYAppends
namespace Go.Proofs.Ytcfmbppnghlkaaa
open Go.RowKit Go.Sort Go.Shelf
set_option maxRecDepth 100000

def encI15 (R : List Int) : List Value := R.map fun x => Value.int .i64 x
/-- the document's logs in memory -/
structure Rg (w : World) (q : Nat) (rv lv : Value) (R : List Int) (L : List Rc) : Prop where
  pb : Blk w q 65 [rv, lv]
  rr : w.ownsRow 0 3 1 rv R.length (encI15 R)
  ll : w.ownsRow 0 38 4 lv L.length (encRs L)
section
variable {w w' : World} {q : Nat} {rv lv : Value} {R : List Int} {L : List Rc}
theorem Rg.below (x : Rg w q rv lv R L) (hb : Below w.heap.size w w') : Rg w' q rv lv R L :=
  ⟨x.pb.below hb, eown_block x.rr fun b h => hb.block b (x.rr.lt b h).2, eown_block x.ll fun b h => hb.block b (x.ll.lt b h).2⟩
theorem Rg.rooms (x : Rg w q rv lv R L) : ∃ a c, rv = .slice a R.length c ∧ Cells w .i64 a R.length (atR R) := by
  obtain ⟨a, c, hv, _, hat⟩ := own_at x.rr
  refine ⟨a, c, hv, fun j hj => ?_⟩
  have he : (encI15 R)[j]? = some (.int .i64 (atR R j)) := by simp [encI15, atR, List.getD, hj]
  obtain ⟨g, _, ha, hc⟩ := hat j _ he
  exact ⟨g, 0, ha, by rw [Nat.zero_add]; exact hc⟩
end
set_option maxHeartbeats 1000000 in
theorem ris15 (w : World) (q : Nat) (rv lv : Value) (R : List Int) (L : List Rc) (x : Rg w q rv lv R L) (g : Int) : Calls Try.prog 36 #[ptr q, .int .i64 g] w fun e w' => e = .returned (.bool (decide (inG R g))) ∧ w' = w := by
  obtain ⟨a, c, rfl, _⟩ := x.rooms
  have h0 := x.pb.cell (i := 0) rfl
  clear x
  by_cases h1 : 0 ≤ g
  · by_cases h2 : g < (R.length : Int)
    · have HD : Hid (decide (inG R g) = true) := decide_eq_true ⟨h1, h2⟩
      rw [HD.out]
      go_enter Try.func36, Try.ntmps36
      go_wp2_with fail
      go_ret
      exact ⟨rfl, rfl⟩
    · have HD : Hid (decide (inG R g) = false) := decide_eq_false (fun h => h2 h.2)
      rw [HD.out]
      go_enter Try.func36, Try.ntmps36
      go_wp2_with fail
      go_ret
      exact ⟨rfl, rfl⟩
  · have HD : Hid (decide (inG R g) = false) := decide_eq_false (fun h => h1 h.1)
    rw [HD.out]
    go_enter Try.func36, Try.ntmps36
    go_wp2_with fail
    go_ret
    exact ⟨rfl, rfl⟩
/-- what the document's Of tells -/
def rofR (R : List Int) (L : List Rc) (g : Int) : List Rc := L.filter fun r => decide (inG R g) && decide (r.g = g)
theorem filter_take {p : Rc → Bool} {L : List Rc} {j : Nat} {r : Rc} (h : L[j]? = some r) : (L.take (j + 1)).filter p = if p r = true then (L.take j).filter p ++ [r] else (L.take j).filter p := by
  rw [List.take_add_one, h, List.filter_append]
  cases hp : p r <;> simp [hp]
theorem filter_take_le (p : Rc → Bool) (L : List Rc) (j : Nat) : ((L.take j).filter p).length ≤ L.length := Nat.le_trans (List.length_filter_le _ _) (by rw [List.length_take]; omega)
set_option maxHeartbeats 4000000 in
theorem rOf15 (w : World) (q : Nat) (rv lv : Value) (R : List Int) (L : List Rc) (x : Rg w q rv lv R L) (hl : L.length ≤ 100000) (g : Int) : Calls Try.prog 20 #[ptr q, .int .i64 g] w fun e w' => ∃ u, e = .returned u ∧ w'.ownsRow w.heap.size 38 4 u (rofR R L g).length (encRs (rofR R L g)) ∧ Below w.heap.size w w' := by
  obtain ⟨la, lc, hlv, hat⟩ := rcAt_own x.ll
  have HX : Hid (Rg w q rv lv R L ∧ RcAt w la L) := ⟨x, hat⟩
  have q1 := x.pb.cell (i := 1) rfl
  subst hlv
  have hq := x.pb.lt
  clear x hat
  go_enter Try.func20, Try.ntmps20
  go_wp2_with fail
  go_loopw [5, 6] (fun v i wr => ∃ (j : Nat), j ≤ L.length ∧ i = .int .i64 j ∧ Hid (wr.ownsRow w.heap.size 38 4 v (rofR R (L.take j) g).length (encRs (rofR R (L.take j) g)) ∧ Below w.heap.size w wr)) (fun _ i _ => L.length - (intOf i).toNat)
  case atStart => exact ⟨0, Nat.zero_le _, rfl, World.ownsRow_nil _ _ _ _, Below.refl _ _⟩
  case round =>
    obtain ⟨j, hj, rfl, hM⟩ := hrel
    have c1 := (hM.out.2.cell (p := ⟨q, 1, none⟩) hq).trans q1
    by_cases hlt : j < L.length
    · obtain ⟨r, hr⟩ : ∃ r, L[j]? = some r := ⟨_, List.getElem?_eq_getElem hlt⟩
      obtain ⟨b, o, rfl, hcell⟩ := HX.out.2.below hM.out.2 j r hr
      have k0 : wr.cell? ⟨b, o + j * 4, none⟩ = some (.int .i64 r.t) := hcell 0 _ rfl
      have k1 := hcell 1 _ rfl
      have k2 := hcell 2 _ rfl
      have k3 := hcell 3 _ rfl
      have ci := ris15 wr q rv _ R L (HX.out.1.below hM.out.2) g
      have hft := filter_take (p := fun r => decide (inG R g) && decide (r.g = g)) hr
      have hle := filter_take_le (fun r => decide (inG R g) && decide (r.g = g)) L j
      clear hcell hr
      by_cases hin : inG R g
      · rw [decide_eq_true hin] at ci hft
        by_cases hg : r.g = g
        · rw [if_pos (by simp [hg])] at hft
          obtain ⟨v', w2, hrun, hown, hgrow, _⟩ := ysnoc w.heap.size u5 (rofR R (L.take j) g).length (encRs (rofR R (L.take j) g)) r wr hM.out.1 (by unfold rofR; omega) hM.out.2.size
          have HM2 : Hid (w2.ownsRow w.heap.size 38 4 v' (rofR R (L.take (j + 1)) g).length (encRs (rofR R (L.take (j + 1)) g)) ∧ Below w.heap.size w w2) := by
            have e : rofR R (L.take (j + 1)) g = rofR R (L.take j) g ++ [r] := by unfold rofR; rw [decide_eq_true hin]; exact hft
            rw [e, encRs_app, encRs_one, List.length_append]
            exact ⟨hown, gown_below (hM.out.2.alloc hM.out.2.size _) (by rw [World.size_alloc]; exact Nat.le_succ_of_le hM.out.2.size) (hM.out.1.alloc _) hgrow⟩
          have hg' : (r.g == g) = true := by simp [hg]
          clear hg hown hgrow hft hle
          go_wp2_with fail
          refine ci.mono ?_
          rintro e w5 ⟨rfl, hw⟩
          subst hw
          clear ci
          go_wp2_with (at_builtin; refine wpList_append_run rfl (.tmp 31) (.tmp 39) 23 rfl _ _ _ rfl rfl hrun ?_)
          go_roundw
          case rel => exact ⟨j + 1, by omega, by go_num, HM2⟩
          case measure => simp [intOf]; omega
        · rw [if_neg (by simp [hg])] at hft
          have HM2 : Hid (wr.ownsRow w.heap.size 38 4 u5 (rofR R (L.take (j + 1)) g).length (encRs (rofR R (L.take (j + 1)) g)) ∧ Below w.heap.size w wr) := by
            have e : rofR R (L.take (j + 1)) g = rofR R (L.take j) g := by unfold rofR; rw [decide_eq_true hin]; exact hft
            rw [e]; exact hM.out
          clear hft hle
          go_wp2_with fail
          refine ci.mono ?_
          rintro e w5 ⟨rfl, hw⟩
          subst hw
          clear ci
          go_wp2_with fail
          go_roundw
          case rel => exact ⟨j + 1, by omega, by go_num, HM2⟩
          case measure => simp [intOf]; omega
      · rw [decide_eq_false hin] at ci hft
        rw [if_neg (by simp)] at hft
        have HM2 : Hid (wr.ownsRow w.heap.size 38 4 u5 (rofR R (L.take (j + 1)) g).length (encRs (rofR R (L.take (j + 1)) g)) ∧ Below w.heap.size w wr) := by
          have e : rofR R (L.take (j + 1)) g = rofR R (L.take j) g := by unfold rofR; rw [decide_eq_false hin]; exact hft
          rw [e]; exact hM.out
        clear hft hle
        go_wp2_with fail
        refine ci.mono ?_
        rintro e w5 ⟨rfl, hw⟩
        subst hw
        clear ci
        go_wp2_with fail
        go_roundw
        case rel => exact ⟨j + 1, by omega, by go_num, HM2⟩
        case measure => simp [intOf]; omega
    · obtain rfl : j = L.length := by omega
      rw [List.take_length] at hM
      obtain ⟨ua, uc, hu, _⟩ := own_at hM.out.1
      have HM2 : Hid (wr.ownsRow w.heap.size 38 4 u5 (rofR R L g).length (encRs (rofR R L g)) ∧ Below w.heap.size w wr) := hM.out
      subst hu
      go_wp2_with fail
      go_ret
      exact ⟨_, rfl, HM2.out⟩
set_option maxHeartbeats 4000000 in
theorem rAll15 (w : World) (q : Nat) (rv lv : Value) (R : List Int) (L : List Rc) (x : Rg w q rv lv R L) (hl : L.length ≤ 100000) (s : Int) (hs : 0 ≤ s ∧ s < 18446744073709551616) : Calls Try.prog 22 #[ptr q, .int .u64 s] w fun e w' => ∃ u, e = .returned u ∧ w'.ownsRow w.heap.size 38 4 u (allR L s).length (encRs (allR L s)) ∧ Below w.heap.size w w' := by
  obtain ⟨la, lc, hlv, hat⟩ := rcAt_own x.ll
  have HX : Hid (RcAt w la L) := hat
  have q1 := x.pb.cell (i := 1) rfl
  subst hlv
  have hq := x.pb.lt
  clear x hat
  go_enter Try.func22, Try.ntmps22
  go_wp2_with fail
  go_loopw [5, 6] (fun v i wr => ∃ (j : Nat), j ≤ L.length ∧ i = .int .i64 j ∧ Hid (wr.ownsRow w.heap.size 38 4 v (allR (L.take j) s).length (encRs (allR (L.take j) s)) ∧ Below w.heap.size w wr)) (fun _ i _ => L.length - (intOf i).toNat)
  case atStart => exact ⟨0, Nat.zero_le _, rfl, World.ownsRow_nil _ _ _ _, Below.refl _ _⟩
  case round =>
    obtain ⟨j, hj, rfl, hM⟩ := hrel
    have c1 := (hM.out.2.cell (p := ⟨q, 1, none⟩) hq).trans q1
    by_cases hlt : j < L.length
    · obtain ⟨r, hr⟩ : ∃ r, L[j]? = some r := ⟨_, List.getElem?_eq_getElem hlt⟩
      obtain ⟨b, o, rfl, hcell⟩ := HX.out.below hM.out.2 j r hr
      have k0 : wr.cell? ⟨b, o + j * 4, none⟩ = some (.int .i64 r.t) := hcell 0 _ rfl
      have k1 := hcell 1 _ rfl
      have k2 := hcell 2 _ rfl
      have k3 := hcell 3 _ rfl
      have ci := rhas_any s r.g wr hs.1 hs.2
      have hft := filter_take (p := fun r => hasB s r.g) hr
      have hle := filter_take_le (fun r => hasB s r.g) L j
      clear hcell hr
      by_cases hin : hasB s r.g = true
      · rw [hin] at ci
        rw [if_pos hin] at hft
        obtain ⟨v', w2, hrun, hown, hgrow, _⟩ := ysnoc w.heap.size u5 (allR (L.take j) s).length (encRs (allR (L.take j) s)) r wr hM.out.1 (by unfold allR; omega) hM.out.2.size
        have HM2 : Hid (w2.ownsRow w.heap.size 38 4 v' (allR (L.take (j + 1)) s).length (encRs (allR (L.take (j + 1)) s)) ∧ Below w.heap.size w w2) := by
          have e : allR (L.take (j + 1)) s = allR (L.take j) s ++ [r] := hft
          rw [e, encRs_app, encRs_one, List.length_append]
          exact ⟨hown, gown_below (hM.out.2.alloc hM.out.2.size _) (by rw [World.size_alloc]; exact Nat.le_succ_of_le hM.out.2.size) (hM.out.1.alloc _) hgrow⟩
        clear hin hown hgrow hft hle
        go_wp2_with fail
        refine ci.mono ?_
        rintro e w5 ⟨rfl, hw⟩
        subst hw
        clear ci
        go_wp2_with (at_builtin; refine wpList_append_run rfl (.tmp 26) (.tmp 34) 23 rfl _ _ _ rfl rfl hrun ?_)
        go_roundw
        case rel => exact ⟨j + 1, by omega, by go_num, HM2⟩
        case measure => simp [intOf]; omega
      · have hin2 : hasB s r.g = false := by simpa using hin
        rw [hin2] at ci
        rw [if_neg hin] at hft
        have HM2 : Hid (wr.ownsRow w.heap.size 38 4 u5 (allR (L.take (j + 1)) s).length (encRs (allR (L.take (j + 1)) s)) ∧ Below w.heap.size w wr) := by
          have e : allR (L.take (j + 1)) s = allR (L.take j) s := hft
          rw [e]; exact hM.out
        clear hin hin2 hft hle
        go_wp2_with fail
        refine ci.mono ?_
        rintro e w5 ⟨rfl, hw⟩
        subst hw
        clear ci
        go_wp2_with fail
        go_roundw
        case rel => exact ⟨j + 1, by omega, by go_num, HM2⟩
        case measure => simp [intOf]; omega
    · obtain rfl : j = L.length := by omega
      rw [List.take_length] at hM
      obtain ⟨ua, uc, hu, _⟩ := own_at hM.out.1
      have HM2 : Hid (wr.ownsRow w.heap.size 38 4 u5 (allR L s).length (encRs (allR L s)) ∧ Below w.heap.size w wr) := hM.out
      subst hu
      go_wp2_with fail
      go_ret
      exact ⟨_, rfl, HM2.out⟩
end Go.Proofs.Ytcfmbppnghlkaaa
