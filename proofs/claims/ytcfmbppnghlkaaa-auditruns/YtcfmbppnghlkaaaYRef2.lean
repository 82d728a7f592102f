/- The document's Upto, Left, Last. -/
import Derived.Test.YtcfmbppnghlkaaaYRef
import Derived.Deep.RegionHeld3
namespace Go.Proofs.Ytcfmbppnghlkaaa
open Go.RowKit Go.Sort Go.Shelf
set_option maxRecDepth 100000

theorem upto_cmp {t s : Int} {r : Rc} (h : Rc.Ok ⟨t, s, 0, 0⟩) (k : r.Ok) : decide (cmpI r.t r.s t s ≤ 0) = !behB t s r := by
  have h1 : (⟨t, s, 0, 0⟩ : Rc).key < r.key ↔ t < r.t ∨ (t = r.t ∧ s < r.s) := h.key k
  rw [Bool.eq_iff_iff]
  unfold behB
  simp only [decide_eq_true_eq, Bool.not_eq_true', decide_eq_false_iff_not]
  rw [h1]
  unfold cmpI
  split
  · omega
  · split <;> omega
set_option maxHeartbeats 4000000 in
theorem rUpto15 (w : World) (q : Nat) (rv lv : Value) (R : List Int) (L : List Rc) (x : Rg w q rv lv R L) (hl : L.length ≤ 100000) (t s : Int) (hts : Rc.Ok ⟨t, s, 0, 0⟩) (hok : ∀ r, r ∈ L → r.Ok) : Calls Try.prog 24 #[ptr q, stV t s] w fun e w' => ∃ u, e = .returned u ∧ w'.ownsRow w.heap.size 38 4 u (uptoR L t s).length (encRs (uptoR L t s)) ∧ Below w.heap.size w w' := by
  have b0 := blk_new w [.int .i64 t, .int .i64 s] 26
  have hb0 : Below w.heap.size w (w.alloc (.cells #[.int .i64 t, .int .i64 s] 26)) := (Below.refl _ w).alloc (Nat.le_refl _) _
  obtain ⟨w0, hw0⟩ : ∃ w0, w.alloc (.cells #[.int .i64 t, .int .i64 s] 26) = w0 := ⟨_, rfl⟩
  have b0' : Blk w0 w.heap.size 26 [.int .i64 t, .int .i64 s] := by rw [← hw0]; exact b0
  rw [hw0] at hb0
  have x0 := x.below hb0
  obtain ⟨la, lc, hlv, hat⟩ := rcAt_own x0.ll
  have HX : Hid (RcAt w0 la L ∧ Blk w0 w.heap.size 26 [.int .i64 t, .int .i64 s] ∧ Below w.heap.size w w0 ∧ Blk w0 q 65 [rv, lv]) := ⟨hat, b0', hb0, x0.pb⟩
  have HOK : Hid (Rc.Ok ⟨t, s, 0, 0⟩ ∧ ∀ r, r ∈ L → r.Ok) := ⟨hts, hok⟩
  have q1 := x0.pb.cell (i := 1) rfl
  subst hlv
  clear x x0 hat b0 b0' hb0 hts hok
  unfold stV
  go_enter Try.func24, Try.ntmps24
  go_wp2_with fail
  go_loopw [5, 6] (fun v i wr => ∃ (j : Nat), j ≤ L.length ∧ i = .int .i64 j ∧ Hid (wr.ownsRow w0.heap.size 38 4 v (uptoR (L.take j) t s).length (encRs (uptoR (L.take j) t s)) ∧ Below w0.heap.size w0 wr)) (fun _ i _ => L.length - (intOf i).toNat)
  case atStart => exact ⟨0, Nat.zero_le _, rfl, World.ownsRow_nil _ _ _ _, Below.refl _ _⟩
  case round =>
    obtain ⟨j, hj, rfl, hM⟩ := hrel
    clear q1
    have c1 := (HX.out.2.2.2.below hM.out.2).cell (i := 1) rfl
    by_cases hlt : j < L.length
    · obtain ⟨r, hr⟩ : ∃ r, L[j]? = some r := ⟨_, List.getElem?_eq_getElem hlt⟩
      obtain ⟨b, o, rfl, _⟩ := HX.out.1 j r hr
      have HC : Hid (∀ W, Below w0.heap.size w0 W → W.cell? ⟨b, o + j * 4, none⟩ = some (.int .i64 r.t) ∧ W.cell? ⟨b, o + j * 4 + 1, none⟩ = some (.int .i64 r.s) ∧ W.cell? ⟨b, o + j * 4 + 2, none⟩ = some (.int .i64 r.g) ∧ W.cell? ⟨b, o + j * 4 + 3, none⟩ = some (.int .u64 r.p) ∧ W.cell? ⟨q, 1, none⟩ = some (.slice (some ⟨b, o, none⟩) L.length lc)) := fun W hW => by
        obtain ⟨b', o', e, hcell⟩ := HX.out.1.below hW j r hr
        injection e with e
        injection e with e1 e2
        subst e1 e2
        exact ⟨hcell 0 _ rfl, hcell 1 _ rfl, hcell 2 _ rfl, hcell 3 _ rfl, (HX.out.2.2.2.below hW).cell (i := 1) rfl⟩
      obtain ⟨k0, k1, _, _, _⟩ := HC.out wr hM.out.2
      have cq := regrown_call (w := wr) fun W _ => rcmp_any r.t r.s t s W
      have hcm := upto_cmp HOK.out.1 (HOK.out.2 r (List.mem_of_getElem? hr))
      have k0 := cell_regrown k0
      have k1 := cell_regrown k1
      have c1' := cell_regrown c1
      have y0 := cell_regrown ((HX.out.2.1.below hM.out.2).cell (i := 0) rfl)
      have y1 := cell_regrown ((HX.out.2.1.below hM.out.2).cell (i := 1) rfl)
      have hft := filter_take (p := fun r => !behB t s r) hr
      have hle := filter_take_le (fun r => !behB t s r) L j
      have hlt' : (j : Int) < (L.length : Int) := by omega
      clear hr
      generalize cmpI r.t r.s t s = ci at *
      go_wp2_with fail
      refine wp_region_quiet_below (by kernel_rfl) (by kernel_rfl) ?_
      repeat (go_big_quiet_step (with_reducible exact cq _ _))
      refine wpQuiet_nil ?_
      intro _ hw'
      obtain ⟨⟨dq, osq⟩, hw''⟩ := hw'
      subst hw''
      have hbq : Below wr.heap.size wr (grow (redrawn wr dq) osq) := below_regrown _ _ _
      generalize grow (redrawn wr dq) osq = wq at *
      have HQ : Hid (wq.ownsRow w0.heap.size 38 4 u5 (uptoR (L.take j) t s).length (encRs (uptoR (L.take j) t s)) ∧ Below w0.heap.size w0 wq) := ⟨eown_block hM.out.1 fun b h => hbq.block b (hM.out.1.lt b h).2, Below.onto hM.out.2 hbq⟩
      obtain ⟨k0', k1', k2', k3', c1q⟩ := HC.out wq HQ.out.2
      clear cq k0 k1 c1' y0 y1 hbq c1
      cases hb : behB t s r
      · rw [hb] at hcm hft
        rw [if_pos (show (!false) = true from rfl)] at hft
        have hci : ci ≤ 0 := of_decide_eq_true hcm
        obtain ⟨v', w2, hrun, hown, hgrow, _⟩ := ysnoc w0.heap.size u5 (uptoR (L.take j) t s).length (encRs (uptoR (L.take j) t s)) r wq HQ.out.1 (by unfold uptoR; omega) HQ.out.2.size
        have HM2 : Hid (w2.ownsRow w0.heap.size 38 4 v' (uptoR (L.take (j + 1)) t s).length (encRs (uptoR (L.take (j + 1)) t s)) ∧ Below w0.heap.size w0 w2) := by
          have e : uptoR (L.take (j + 1)) t s = uptoR (L.take j) t s ++ [r] := hft
          rw [e, encRs_app, encRs_one, List.length_append]
          exact ⟨hown, gown_below (HQ.out.2.alloc HQ.out.2.size _) (by rw [World.size_alloc]; exact Nat.le_succ_of_le HQ.out.2.size) (HQ.out.1.alloc _) hgrow⟩
        clear hown hgrow hft hle hb hcm
        go_wp2_with (at_builtin; refine wpList_append_run rfl (.tmp 27) (.tmp 35) 23 rfl _ _ _ rfl rfl hrun ?_)
        go_roundw
        case rel => exact ⟨j + 1, by omega, by go_num, HM2⟩
        case measure => simp [intOf]; omega
      · rw [hb] at hcm hft
        rw [if_neg (show ¬ ((!true) = true) by decide)] at hft
        have hci : ¬ ci ≤ 0 := of_decide_eq_false hcm
        have HM2 : Hid (wq.ownsRow w0.heap.size 38 4 u5 (uptoR (L.take (j + 1)) t s).length (encRs (uptoR (L.take (j + 1)) t s)) ∧ Below w0.heap.size w0 wq) := by
          have e : uptoR (L.take (j + 1)) t s = uptoR (L.take j) t s := hft
          rw [e]; exact HQ.out
        clear hft hle hb hcm
        go_wp2_with fail
        go_roundw
        case rel => exact ⟨j + 1, by omega, by go_num, HM2⟩
        case measure => simp [intOf]; omega
    · obtain rfl : j = L.length := by omega
      rw [List.take_length] at hM
      obtain ⟨ua, uc, hu, _⟩ := own_at hM.out.1
      have HM2 : Hid (wr.ownsRow w.heap.size 38 4 u5 (uptoR L t s).length (encRs (uptoR L t s)) ∧ Below w.heap.size w wr) := ⟨own_mono2 hM.out.1 HX.out.2.2.1.size, Below.onto HX.out.2.2.1 hM.out.2⟩
      subst hu
      go_wp2_with fail
      go_ret
      exact ⟨_, rfl, HM2.out⟩
theorem rofR_in {R : List Int} {L : List Rc} {k : Nat} (h : inG R (k : Int)) : rofR R L (k : Int) = ownR L k := by
  unfold rofR ownR
  rw [decide_eq_true h]
  rfl
theorem rofR_out {R : List Int} {L : List Rc} {g : Int} (h : ¬ inG R g) : rofR R L g = [] := by
  unfold rofR
  rw [decide_eq_false h, List.filter_eq_nil_iff]
  intro r _
  simp
set_option maxHeartbeats 4000000 in
theorem rLeft15 (w : World) (q : Nat) (rv lv : Value) (R : List Int) (L : List Rc) (x : Rg w q rv lv R L) (lo : Lo R L) (g : Int) (hg : inG R g) : Calls Try.prog 17 #[ptr q, .int .i64 g] w fun e w' => e = .returned (.tuple #[.int .i64 (atR R g.toNat - (ownR L g.toNat).length), .int .i64 0]) ∧ Below w.heap.size w w' := by
  have ci := ris15 w q rv lv R L x g
  rw [decide_eq_true hg] at ci
  obtain ⟨k, rfl⟩ : ∃ k : Nat, g = k := ⟨g.toNat, by omega⟩
  have hk : k < R.length := by omega
  obtain ⟨a, c, hrv, hcs⟩ := x.rooms
  obtain ⟨b, off, rfl, hcell⟩ := hcs k hk
  have q0 := x.pb.cell (i := 0) rfl
  rw [hrv] at q0
  have cO := rOf15 w.drew q rv lv R L (x.below (Below.refl _ w).drew) (by have := lo.total; omega) (k : Int)
  rw [rofR_in hg] at cO
  have hroom := lo.room k hk
  have hlen := lo.len hk
  have toS : ∀ W, Below w.heap.size w W → W.cell? ⟨q, 0, none⟩ = some (.slice (some ⟨b, off, none⟩) R.length c) ∧ W.cell? ⟨b, off + k, none⟩ = some (.int .i64 (atR R k)) := fun W hW => ⟨(hW.cell (p := ⟨q, 0, none⟩) (cell_lt q0)).trans q0, (hW.cell (p := ⟨b, off + k, none⟩) (cell_lt hcell)).trans hcell⟩
  simp only [Int.toNat_natCast]
  clear x hcs hrv q0 hcell hg lo
  generalize atR R k = rm at *
  go_enter Try.func17, Try.ntmps17
  go_wp2_with fail
  refine ci.mono ?_
  rintro e w' ⟨rfl, hw⟩
  subst hw
  clear ci
  go_wp2_with fail
  go_region_held3 (fun W => W.cell? ⟨q, 0, none⟩ = some (.slice (some ⟨b, off, none⟩) R.length c) ∧ W.cell? ⟨b, off + k, none⟩ = some (.int .i64 rm)) (first | (with_reducible assumption) | exact toS _ (by assumption) | exact toS _ (Below.refl _ _).drew | exact toS _ (Below.refl _ _)) (first | (go_at_call 20; (with_reducible refine cO.mono ?_); rintro v w5 ⟨u, rfl, ho5, hb5⟩; obtain ⟨ua, uc, rfl, _⟩ := own_at ho5; have e5 : Below w'.heap.size w' w5 := (Below.refl _ w').drew.trans hb5))
  all_goals
    have HB : Hid (Below w'.heap.size w' w5) := e5
    clear hb5 ho5 e5
    try go_wp2_with fail
    go_ret2
    exact ⟨ret_two (by rw [IntKind.wrap_i64]; omega) rfl, HB.out⟩
set_option maxHeartbeats 1000000 in
theorem rLeft15_no (w : World) (q : Nat) (rv lv : Value) (R : List Int) (L : List Rc) (x : Rg w q rv lv R L) (g : Int) (hg : ¬ inG R g) : Calls Try.prog 17 #[ptr q, .int .i64 g] w fun e w' => e = .returned (.tuple #[.int .i64 0, .int .i64 5]) ∧ Below w.heap.size w w' := by
  have ci := ris15 w q rv lv R L x g
  rw [decide_eq_false hg] at ci
  clear x hg
  go_enter Try.func17, Try.ntmps17
  go_wp2_with fail
  refine ci.mono ?_
  rintro e w' ⟨rfl, hw⟩
  subst hw
  clear ci
  go_wp2_with fail
  go_ret2
  exact ⟨rfl, Below.refl _ _⟩
set_option maxHeartbeats 2000000 in
theorem rLast15 (w : World) (q : Nat) (rv lv : Value) (R : List Int) (L : List Rc) (x : Rg w q rv lv R L) (hl : L.length ≤ 100000) : Calls Try.prog 15 #[ptr q] w fun e w' => e = .returned (.tuple #[recV (lastR L), .bool (!L.isEmpty)]) ∧ Below w.heap.size w w' := by
  have x1 := x.below (bxZ_below w)
  obtain ⟨la, lc, hlv, hat⟩ := rcAt_own x1.ll
  have q1 := x1.pb.cell (i := 1) rfl
  rw [hlv] at q1
  have hB2 := bxZ_blk w
  have HE : Hid (Below w.heap.size w (bxZ w)) := bxZ_below w
  have z0 := hB2.cell (i := 0) rfl
  have z1 := hB2.cell (i := 1) rfl
  have z2 := hB2.cell (i := 2) rfl
  have z3 := hB2.cell (i := 3) rfl
  have zf := hB2.fz
  have HBX : Hid (Blk (bxZ w) w.heap.size 38 [.int .i64 0, .int .i64 0, .int .i64 0, .int .u64 0]) := hB2
  clear x x1 hlv hB2
  by_cases hL : L = []
  · subst hL
    have h3 := HBX.out.set4 (.int .i64 0) (.int .i64 0) (.int .i64 0) (.int .u64 0)
    have s0 := h3.cell (i := 0) rfl
    have s1 := h3.cell (i := 1) rfl
    have s2 := h3.cell (i := 2) rfl
    have s3 := h3.cell (i := 3) rfl
    clear h3 hat
    generalize hw1 : bxZ w = w1 at *
    unfold bxZ at hw1
    go_enter Try.func15, Try.ntmps15
    go_wp2_with fail
    refine bodyPost_ret (v := .tuple #[recV rec0, .bool false]) (by simp [results, Try.results15, go_sem, s0, s1, s2, s3, recV, rec0]) rfl ⟨rfl, ?_⟩
    exact (((HE.out.setCell (Nat.le_refl _) _).setCell (Nat.le_refl _) _).setCell (Nat.le_refl _) _).setCell (Nat.le_refl _) _
  · obtain ⟨k, hk⟩ : ∃ k, L.length = k + 1 := ⟨L.length - 1, by have := List.length_pos_iff.2 hL; omega⟩
    have hr : L[k]? = some (lastR L) := by
      unfold lastR
      rw [List.getLast?_eq_getElem?, hk]
      simp only [Nat.add_sub_cancel]
      rw [List.getElem?_eq_getElem (by omega)]; rfl
    have he : (!L.isEmpty) = true := by cases L with | nil => exact absurd rfl hL | cons _ _ => rfl
    rw [he]
    rw [hk] at q1 hl
    obtain ⟨b, o, rfl, hcell⟩ := hat k _ hr
    generalize lastR L = r at *
    have k0 : (bxZ w).cell? ⟨b, o + k * 4, none⟩ = some (.int .i64 r.t) := hcell 0 _ rfl
    have k1 := hcell 1 _ rfl
    have k2 := hcell 2 _ rfl
    have k3 := hcell 3 _ rfl
    have h3 := HBX.out.set4 (.int .i64 r.t) (.int .i64 r.s) (.int .i64 r.g) (.int .u64 r.p)
    have s0 := h3.drew.cell (i := 0) rfl
    have s1 := h3.drew.cell (i := 1) rfl
    have s2 := h3.drew.cell (i := 2) rfl
    have s3 := h3.drew.cell (i := 3) rfl
    clear hcell hr h3 hat hk hL he
    generalize hw1 : bxZ w = w1 at *
    unfold bxZ at hw1
    go_enter Try.func15, Try.ntmps15
    go_wp2_with fail
    go_region
    go_wp2_with fail
    refine bodyPost_ret (v := .tuple #[recV r, .bool true]) (by simp [results, Try.results15, go_sem, s0, s1, s2, s3, recV]) rfl ⟨rfl, ?_⟩
    exact ((((HE.out.setCell (Nat.le_refl _) _).setCell (Nat.le_refl _) _).setCell (Nat.le_refl _) _).setCell (Nat.le_refl _) _).drew
end Go.Proofs.Ytcfmbppnghlkaaa
