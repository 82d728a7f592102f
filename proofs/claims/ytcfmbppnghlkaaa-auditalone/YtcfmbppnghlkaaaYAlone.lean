/- AuditAlone, walked. -/
import Derived.Test.YtcfmbppnghlkaaaYOf
import Derived.Test.YtcfmbppnghlkaaaYArg
namespace Go.Proofs.Ytcfmbppnghlkaaa
open Go.RowKit Go.Sort Go.Shelf
set_option maxRecDepth 100000

/-- logs that grow while others stand beside them -/
theorem Yw.add2 {w0 w : World} {p q : Nat} {R S : List Int} {L M : List Rc} {o u : Yo} (y : Yw w0 w p R L o) (z : Yw w0 w q S M u) (hd : ∀ b, o.has R p b → ¬ u.has S q b) {r : Rc} (hr : r.Ok) :
    Calls Try.prog 12 #[ptr p, recV r] w fun e w' => e = .returned (.int .i64 (addE R L r)) ∧ ∃ o', Yw w0 w' p R (addL R L r) o' ∧ Yw w0 w' q S M u ∧ (∀ b, o'.has R p b → ¬ u.has S q b) ∧ But (o.has R p) w w' := by
  refine (yAdd w p o R L r y.x hr).mono ?_
  rintro e w' ⟨rfl, o', h1, h2, h3⟩
  refine ⟨rfl, o', ⟨h1, below_but y.b h2 y.ge, fun b hb => (h3 b hb).elim (y.ge b) (fun h => Nat.le_trans y.b.size h)⟩, ⟨z.x.but h2 fun b hb hs => hd b hs hb, below_but y.b h2 y.ge, z.ge⟩, fun b hb hu => ?_, h2⟩
  rcases h3 b hb with h | h
  · exact hd b h hu
  · have := z.x.lt hu; omega
/-- what is known behind i records, of one log -/
structure Ald (R : List Int) (L : List Rc) (j : Nat) : Prop where
  t : ∀ r, r ∈ L → r.t < (j : Int) ∧ r.s = 0
theorem Ald.err {R : List Int} {L : List Rc} {j : Nat} (h : Ald R L j) (hr : RiseR L) {g p : Int} (hg : 0 ≤ g ∧ g < R.length) : addE R L ⟨j, 0, g, p⟩ = if ((ownR L g.toNat).length : Int) < atR R g.toNat then 0 else 150 := by
  unfold addE
  rw [if_neg (fun h => h hg), if_neg]
  rintro ⟨hne, hk⟩
  obtain ⟨x, hx⟩ := List.exists_mem_of_ne_nil L hne
  have h1 := h.t _ (hr.last hx).1
  apply hk
  unfold Rc.key
  simp only
  omega
theorem Ald.next {R : List Int} {L : List Rc} {j : Nat} (h : Ald R L j) (g p : Int) : Ald R (addL R L ⟨j, 0, g, p⟩) (j + 1) := by
  refine ⟨fun r hr => ?_⟩
  unfold addL at hr
  split at hr
  · rcases List.mem_append.1 hr with hr | hr
    · have := h.t r hr; exact ⟨by omega, this.2⟩
    · simp at hr; rw [hr]; exact ⟨by simp only; omega, rfl⟩
  · have := h.t r hr; exact ⟨by omega, this.2⟩
theorem own_next {R S : List Int} {L M : List Rc} {j k : Nat} (hL : Ald R L j) (hM : Ald S M j) (rL : RiseR L) (rM : RiseR M) (e : ownR L k = ownR M k) (hk : k < R.length) (hk' : k < S.length) (ha : atR R k = atR S k) (g p : Int) :
    ownR (addL R L ⟨j, 0, g, p⟩) k = ownR (addL S M ⟨j, 0, g, p⟩) k ∧ (g = (k : Int) → addE R L ⟨j, 0, g, p⟩ = addE S M ⟨j, 0, g, p⟩) := by
  by_cases hg : g = (k : Int)
  · subst hg
    have e1 := hL.err rL (g := (k : Int)) (p := p) ⟨by omega, by omega⟩
    have e2 := hM.err rM (g := (k : Int)) (p := p) ⟨by omega, by omega⟩
    simp only [Int.toNat_natCast] at e1 e2
    have e3 : addE R L ⟨j, 0, k, p⟩ = addE S M ⟨j, 0, k, p⟩ := by rw [e1, e2]; simp only [e, ha]
    refine ⟨?_, fun _ => e3⟩
    unfold addL
    rw [← e3]
    split
    · rw [ownR_snoc, ownR_snoc, e]
    · exact e
  · refine ⟨?_, fun h => absurd h hg⟩
    have h1 : ∀ (R : List Int) (L : List Rc), ownR (addL R L ⟨j, 0, g, p⟩) k = ownR L k := fun R L => by
      unfold addL
      split
      · rw [ownR_snoc, if_neg (by simpa using hg)]
      · rfl
    rw [h1, h1, e]
set_option maxHeartbeats 8000000 in
theorem yalone (a1 : Option Addr) (n1 c1 : Nat) (z1 : Nat → Int) (a2 : Option Addr) (n2 c2 : Nat) (z2 : Nat → Int) (la : Option Addr) (ll lc : Nat) (lg : Nat → Rc) (gate : Int) (w : World)
    (h1 : Cells w .i64 a1 n1 z1) (hc1 : n1 ≤ c1) (h2 : Cells w .i64 a2 n2 z2) (hc2 : n2 ≤ c2) (h3 : RcRow w la ll lc lg) :
    Calls Try.prog 6 #[.slice a1 n1 c1, .slice a2 n2 c2, .slice la ll lc, .int .i64 gate] w fun e w' => e = .returned (.bool true) ∧ Below w.heap.size w w' := by
  have f1 := yfew a1 n1 c1 hc1 w
  have f2 := yfew a2 n2 c2 hc2 w
  have g1 : Cells w .i64 a1 (min n1 18) z1 := h1.mono (Nat.min_le_left _ _)
  have g2 : Cells w .i64 a2 (min n2 18) z2 := h2.mono (Nat.min_le_left _ _)
  have hm1 : min n1 18 ≤ 18 := Nat.min_le_right _ _
  have hm2 : min n2 18 ≤ 18 := Nat.min_le_right _ _
  have H3 : Hid (RcRow w la ll lc lg) := h3
  clear h1 h2 h3
  generalize min n1 18 = m1 at *
  generalize min n2 18 = m2 at *
  have H1 : Hid (Cells w .i64 a1 m1 z1) := g1
  have H2 : Hid (Cells w .i64 a2 m2 z2) := g2
  clear g1 g2
  go_enter Try.func6, Try.ntmps6
  go_wp2_with fail
  refine f1.mono ?_
  rintro e w1 ⟨rfl, hw⟩
  subst hw
  clear f1
  go_wp2_with fail
  refine f2.mono ?_
  rintro e w1 ⟨rfl, hw⟩
  subst hw
  clear f2
  by_cases b1 : gate < 0
  · have d1 : decide (gate < 0) = true := decide_eq_true b1
    go_wp2_with fail
    refine wp_region_quiet_below (by kernel_rfl) (by kernel_rfl) ?_
    repeat (first | go_big_quiet_step (fail) | simp only [d1])
    refine wpQuiet_nil ?_
    intro _ hw'
    obtain ⟨⟨dq, osq⟩, hw''⟩ := hw'
    subst hw''
    go_wp2_with fail
    refine (yalive _).mono ?_
    rintro e w9 ⟨rfl, hb9⟩
    have HE : Hid (Below w1.heap.size w1 w9) := Below.onto (below_regrown _ _ _) hb9
    clear hb9
    go_wp2_with fail
    go_ret
    exact ⟨rfl, HE.out⟩
  have d1 : decide (gate < 0) = false := decide_eq_false b1
  by_cases b2 : (m1 : Int) ≤ gate
  · have d2 : decide ((m1 : Int) ≤ gate) = true := decide_eq_true b2
    go_wp2_with fail
    refine wp_region_quiet_below (by kernel_rfl) (by kernel_rfl) ?_
    repeat (first | go_big_quiet_step (fail) | simp only [d1, d2])
    refine wpQuiet_nil ?_
    intro _ hw'
    obtain ⟨⟨dq, osq⟩, hw''⟩ := hw'
    subst hw''
    go_wp2_with fail
    refine (yalive _).mono ?_
    rintro e w9 ⟨rfl, hb9⟩
    have HE : Hid (Below w1.heap.size w1 w9) := Below.onto (below_regrown _ _ _) hb9
    clear hb9
    go_wp2_with fail
    go_ret
    exact ⟨rfl, HE.out⟩
  have d2 : decide ((m1 : Int) ≤ gate) = false := decide_eq_false b2
  by_cases b3 : (m2 : Int) ≤ gate
  · have d3 : decide ((m2 : Int) ≤ gate) = true := decide_eq_true b3
    go_wp2_with fail
    refine wp_region_quiet_below (by kernel_rfl) (by kernel_rfl) ?_
    repeat (first | go_big_quiet_step (fail) | simp only [d1, d2, d3])
    refine wpQuiet_nil ?_
    intro _ hw'
    obtain ⟨⟨dq, osq⟩, hw''⟩ := hw'
    subst hw''
    go_wp2_with fail
    refine (yalive _).mono ?_
    rintro e w9 ⟨rfl, hb9⟩
    have HE : Hid (Below w1.heap.size w1 w9) := Below.onto (below_regrown _ _ _) hb9
    clear hb9
    go_wp2_with fail
    go_ret
    exact ⟨rfl, HE.out⟩
  have d3 : decide ((m2 : Int) ≤ gate) = false := decide_eq_false b3
  obtain ⟨k, rfl⟩ : ∃ k : Nat, gate = k := ⟨gate.toNat, by omega⟩
  have hk1 : k < m1 := by omega
  have hk2 : k < m2 := by omega
  obtain ⟨x1, o1, rfl, q1⟩ := H1.out k hk1
  obtain ⟨x2, o2, rfl, q2⟩ := H2.out k hk2
  have d2' : decide (m1 ≤ k) = false := decide_eq_false (by omega)
  have d3' : decide (m2 ≤ k) = false := decide_eq_false (by omega)
  have q1 := cell_regrown q1
  have q2 := cell_regrown q2
  by_cases b4 : z1 k = z2 k
  rotate_left
  · have d4 : decide (z1 k = z2 k) = false := decide_eq_false b4
    have d5 : (z1 k == z2 k) = false := by simp [b4]
    go_wp2_with fail
    refine wp_region_quiet_below (by kernel_rfl) (by kernel_rfl) ?_
    repeat (first | go_big_quiet_step (fail) | simp only [d1, d2', d3', d4, d5, Bool.not_true, Bool.not_false])
    refine wpQuiet_nil ?_
    intro _ hw'
    obtain ⟨⟨dq, osq⟩, hw''⟩ := hw'
    subst hw''
    go_wp2_with fail
    refine (yalive _).mono ?_
    rintro e w9 ⟨rfl, hb9⟩
    have HE : Hid (Below w1.heap.size w1 w9) := Below.onto (below_regrown _ _ _) hb9
    clear hb9
    go_wp2_with fail
    go_ret
    exact ⟨rfl, HE.out⟩
  have HZ : Hid (z1 k = z2 k) := b4
  have d4 : decide (z1 k = z2 k) = true := decide_eq_true b4
  have d5 : (z1 k == z2 k) = true := by simp [b4]
  go_wp2_with fail
  refine wp_region_quiet_below (by kernel_rfl) (by kernel_rfl) ?_
  repeat (first | go_big_quiet_step (fail) | simp only [d1, d2', d3', d4, d5, Bool.not_true, Bool.not_false])
  refine wpQuiet_nil ?_
  intro _ hw'
  obtain ⟨⟨dq, osq⟩, hw''⟩ := hw'
  subst hw''
  have hbq : Below w1.heap.size w1 (grow (redrawn w1 dq) osq) := below_regrown _ _ _
  generalize grow (redrawn w1 dq) osq = wq at *
  have cA := yNewE wq (some ⟨x1, o1, none⟩) m1 c1 z1 (H1.out.below hbq)
  clear q1 q2
  go_wp2_with fail
  refine cA.mono ?_
  rintro e w2 ⟨P, er, rfl, hN, hb2⟩
  have HN : Hid (NewIs wq w2 (roomsI m1 z1) P er ∧ Below w1.heap.size w1 w2) := ⟨hN, Below.onto hbq hb2⟩
  have cB := yNewE w2 (some ⟨x2, o2, none⟩) m2 c2 z2 (H2.out.below HN.out.2)
  clear cA hN hb2
  go_wp2_with fail
  refine cB.mono ?_
  rintro e w3 ⟨Q, fr, rfl, hN, hb3⟩
  have HM : Hid (NewIs w2 w3 (roomsI m2 z2) Q fr ∧ Below w2.heap.size w2 w3 ∧ Below w1.heap.size w1 w3) := ⟨hN, hb3, Below.onto HN.out.2 hb3⟩
  clear cB hN hb3
  rcases HN.out.1 with ⟨her, rfl⟩ | ⟨rfl, p, o, rfl, xa, hlo⟩
  · go_wp2_with fail
    refine (yalive _).mono ?_
    rintro e w9 ⟨rfl, hb9⟩
    have HE : Hid (Below w1.heap.size w1 w9) := Below.onto HM.out.2.2 hb9
    clear hb9
    go_wp2_with fail
    go_ret
    exact ⟨rfl, HE.out⟩
  rcases HM.out.1 with ⟨hfr, rfl⟩ | ⟨rfl, q, u, rfl, xb, hlo2⟩
  · clear xa hlo
    go_wp2_with fail
    refine (yalive _).mono ?_
    rintro e w9 ⟨rfl, hb9⟩
    have HE : Hid (Below w1.heap.size w1 w9) := Below.onto HM.out.2.2 hb9
    clear hb9
    go_wp2_with fail
    go_ret
    exact ⟨ret_bool (by simp [hfr]), HE.out⟩
  have hRl := roomsI_len m1 z1
  have hSl := roomsI_len m2 z2
  have hat : atR (roomsI m1 z1) k = atR (roomsI m2 z2) k := by rw [roomsI_at m1 z1 hk1, roomsI_at m2 z2 hk2]; exact HZ.out
  have A0 : Hid (Yw w1 w3 p (roomsI m1 z1) [] o ∧ Yw w1 w3 q (roomsI m2 z2) [] u ∧ ∀ b, o.has (roomsI m1 z1) p b → ¬ u.has (roomsI m2 z2) q b) := by
    refine ⟨⟨xa.below HM.out.2.1, HM.out.2.2, fun b h => Nat.le_trans hbq.size (hlo b h)⟩, ⟨xb, HM.out.2.2, fun b h => Nat.le_trans HN.out.2.size (hlo2 b h)⟩, fun b h1 h2 => ?_⟩
    have := xa.lt h1
    have := hlo2 b h2
    omega
  have HK : Hid (k < m1 ∧ k < m2 ∧ (roomsI m1 z1).length = m1 ∧ (roomsI m2 z2).length = m2 ∧ atR (roomsI m1 z1) k = atR (roomsI m2 z2) k) := ⟨hk1, hk2, hRl, hSl, hat⟩
  clear xa hlo xb hlo2 hRl hSl hat HZ HN HM hbq d1 d2 d3 d4 d5 d2' d3' b1 b2 b3 b4 H1 H2 hm1 hm2 hc1 hc2 hk1 hk2
  generalize roomsI m1 z1 = RA at *
  generalize roomsI m2 z2 = RB at *
  go_wp2_with fail
  go_loopw [13] (fun i wr => ∃ (j : Nat), j ≤ 60 ∧ i = .int .i64 j ∧ Hid (∃ (L M : List Rc) (o u : Yo), Yw w1 wr p RA L o ∧ Yw w1 wr q RB M u ∧ (∀ b, o.has RA p b → ¬ u.has RB q b) ∧ Ald RA L j ∧ Ald RB M j ∧ ownR L k = ownR M k)) (fun i _ => 60 - (intOf i).toNat)
  case atStart => exact ⟨0, by omega, rfl, [], [], o, u, A0.out.1, A0.out.2.1, A0.out.2.2, ⟨fun r h => by cases h⟩, ⟨fun r h => by cases h⟩, rfl⟩
  case round =>
    obtain ⟨j, hj, rfl, hM⟩ := hrel
    clear A0
    by_cases hlt : j < ll ∧ j < 60
    · obtain ⟨hlt, hlt2⟩ := hlt
      obtain ⟨L, M, o, u, ya, yb, hd, hL, hMM, hown⟩ := hM.out
      obtain ⟨bl, off, rfl, hcell⟩ := H3.out.1 j hlt
      have q0 := hcell 0 (by decide)
      have k0 : wr.cell? ⟨bl, off + j * 4, none⟩ = some (.int .i64 (lg j).t) := (ya.b.cell (p := ⟨bl, off + j * 4, none⟩) (cell_lt q0)).trans q0
      have k1 : wr.cell? ⟨bl, off + j * 4 + 1, none⟩ = some (.int .i64 (lg j).s) := (ya.b.cell (p := ⟨bl, off + j * 4 + 1, none⟩) (cell_lt q0)).trans (hcell 1 (by decide))
      have k2 : wr.cell? ⟨bl, off + j * 4 + 2, none⟩ = some (.int .i64 (lg j).g) := (ya.b.cell (p := ⟨bl, off + j * 4 + 2, none⟩) (cell_lt q0)).trans (hcell 2 (by decide))
      have k3 : wr.cell? ⟨bl, off + j * 4 + 3, none⟩ = some (.int .u64 (lg j).p) := (ya.b.cell (p := ⟨bl, off + j * 4 + 3, none⟩) (cell_lt q0)).trans (hcell 3 (by decide))
      have hbx : Below wr.heap.size wr (wr.alloc (.cells #[.int .i64 (j : Int), .int .i64 0, .int .i64 (lg j).g, .int .u64 (lg j).p] 38)) := (Below.refl _ wr).alloc (Nat.le_refl _) _
      have hrx := blk_new wr [.int .i64 (j : Int), .int .i64 0, .int .i64 (lg j).g, .int .u64 (lg j).p] 38
      have hok : Rc.Ok ⟨j, 0, (lg j).g, (lg j).p⟩ := ⟨by simp only; omega, by simp only; omega⟩
      have cA := (ya.below hbx).add2 (yb.below hbx) hd hok
      have HB : Hid (Blk (wr.alloc (.cells #[.int .i64 (j : Int), .int .i64 0, .int .i64 (lg j).g, .int .u64 (lg j).p] 38)) wr.heap.size 38 [.int .i64 (j : Int), .int .i64 0, .int .i64 (lg j).g, .int .u64 (lg j).p] ∧ (∀ b, o.has RA p b → b < wr.heap.size) ∧ (∀ b, u.has RB q b → b < wr.heap.size)) := ⟨hrx, fun b h => ya.x.lt h, fun b h => yb.x.lt h⟩
      have HJ : Hid (Ald RA (addL RA L ⟨j, 0, (lg j).g, (lg j).p⟩) (j + 1) ∧ Ald RB (addL RB M ⟨j, 0, (lg j).g, (lg j).p⟩) (j + 1) ∧ ownR (addL RA L ⟨j, 0, (lg j).g, (lg j).p⟩) k = ownR (addL RB M ⟨j, 0, (lg j).g, (lg j).p⟩) k ∧ ((lg j).g = (k : Int) → addE RA L ⟨j, 0, (lg j).g, (lg j).p⟩ = addE RB M ⟨j, 0, (lg j).g, (lg j).p⟩)) := by
        have h := own_next hL hMM ya.x.ok.rise yb.x.ok.rise hown (by have := HK.out.1; have := HK.out.2.2.1; omega) (by have := HK.out.2.1; have := HK.out.2.2.2.1; omega) HK.out.2.2.2.2 (lg j).g (lg j).p
        exact ⟨hL.next _ _, hMM.next _ _, h.1, h.2⟩
      clear q0 hcell ya yb hd hL hMM hown hbx hrx hM
      unfold recV at cA
      simp only at cA
      go_wp2_with fail
      refine cA.mono ?_
      rintro e w4 ⟨rfl, o4, ya, yb, hd, hbut⟩
      have hlt4 := HB.out.1.lt
      have r4 := HB.out.1.but hbut (fun h => Nat.lt_irrefl _ (HB.out.2.1 _ h))
      have cB := yb.add2 ya (fun b h1 h2 => hd b h2 h1) hok
      have k0 := r4.cell (i := 0) rfl
      have k1 := r4.cell (i := 1) rfl
      have k2 := r4.cell (i := 2) rfl
      have k3 := r4.cell (i := 3) rfl
      have HR4 : Hid (Blk w4 wr.heap.size 38 [.int .i64 (j : Int), .int .i64 0, .int .i64 (lg j).g, .int .u64 (lg j).p]) := r4
      clear cA ya yb hd hbut r4
      unfold recV at cB
      simp only at cB
      go_wp2_with fail
      refine cB.mono ?_
      rintro e w5 ⟨rfl, u5, yb, ya, hd, hbut⟩
      have r5 := HR4.out.but hbut (fun h => Nat.lt_irrefl _ (HB.out.2.2 _ h))
      have k2 := r5.cell (i := 2) rfl
      have HM5 : Hid (∃ (L M : List Rc) (o u : Yo), Yw w1 w5 p RA L o ∧ Yw w1 w5 q RB M u ∧ (∀ b, o.has RA p b → ¬ u.has RB q b) ∧ Ald RA L (j + 1) ∧ Ald RB M (j + 1) ∧ ownR L k = ownR M k) := ⟨_, _, _, _, ya, yb, fun b h1 h2 => hd b h2 h1, HJ.out.1, HJ.out.2.1, HJ.out.2.2.1⟩
      have hee := HJ.out.2.2.2
      clear cB ya yb hd hbut r5 k0 k1 k3 HJ hok HR4 HB
      generalize addE RA L ⟨j, 0, (lg j).g, (lg j).p⟩ = eA at *
      generalize addE RB M ⟨j, 0, (lg j).g, (lg j).p⟩ = eB at *
      by_cases hg : (lg j).g = (k : Int)
      · obtain rfl := hee hg
        go_wp2_with fail
        go_roundw
        case rel => exact ⟨j + 1, by omega, by go_num, HM5⟩
        case measure => simp [intOf]; omega
      · clear hee
        go_wp2_with fail
        go_roundw
        case rel => exact ⟨j + 1, by omega, by go_num, HM5⟩
        case measure => simp [intOf]; omega
    · obtain ⟨L, M, o, u, ya, yb, hd, hL, hMM, hown⟩ := hM.out
      have cA := yOf wr p o RA L ya.x (k : Int) ⟨by omega, by have := HK.out.1; have := HK.out.2.2.1; omega⟩
      simp only [Int.toNat_natCast] at cA
      have HY : Hid (Yw w1 wr p RA L o ∧ Yw w1 wr q RB M u ∧ ownR L k = ownR M k ∧ (ownR L k).length ≤ 1024) := ⟨ya, yb, hown, ya.x.ok.len (by have := HK.out.1; have := HK.out.2.2.1; omega)⟩
      clear ya yb hd hL hMM hown hM
      by_cases hl1 : j < ll
      · have hl2 : j = 60 := by omega
        subst hl2
        go_wp2_with fail
        refine cA.mono ?_
        rintro e w4 ⟨U, rfl, ho, hb4⟩
        obtain ⟨ua, uc, rfl, hu⟩ := rcAt_own ho
        have cB := yOf w4 q u RB M (HY.out.2.1.x.below hb4) (k : Int) ⟨by omega, by have := HK.out.2.1; have := HK.out.2.2.2.1; omega⟩
        simp only [Int.toNat_natCast] at cB
        have H4 : Hid (RcAt w4 ua (ownR L k) ∧ Below w1.heap.size w1 w4) := ⟨hu, Below.onto HY.out.1.b hb4⟩
        clear cA ho hu hb4
        go_wp2_with fail
        refine cB.mono ?_
        rintro e w5 ⟨V, rfl, ho, hb5⟩
        obtain ⟨va, vc, rfl, hv⟩ := rcAt_own ho
        have cS := rsame15 ua va uc vc (ownR L k) (ownR M k) w5 (by have := HY.out.2.2.2; omega) (H4.out.1.below hb5) hv
        have H5 : Hid (Below w1.heap.size w1 w5) := Below.onto H4.out.2 hb5
        clear cB ho hv hb5
        go_wp2_with fail
        refine cS.mono ?_
        rintro e w6 ⟨t, rfl, ht, hb6⟩
        obtain rfl : t = true := ht.2 HY.out.2.2.1
        have H6 : Hid (Below w1.heap.size w1 w6) := Below.onto H5.out hb6
        clear cS ht hb6
        go_wp2_with fail
        refine (yalive _).mono ?_
        rintro e w9 ⟨rfl, hb9⟩
        have HE : Hid (Below w1.heap.size w1 w9) := Below.onto H6.out hb9
        clear hb9
        go_wp2_with fail
        go_ret
        exact ⟨rfl, HE.out⟩
      · go_wp2_with fail
        refine cA.mono ?_
        rintro e w4 ⟨U, rfl, ho, hb4⟩
        obtain ⟨ua, uc, rfl, hu⟩ := rcAt_own ho
        have cB := yOf w4 q u RB M (HY.out.2.1.x.below hb4) (k : Int) ⟨by omega, by have := HK.out.2.1; have := HK.out.2.2.2.1; omega⟩
        simp only [Int.toNat_natCast] at cB
        have H4 : Hid (RcAt w4 ua (ownR L k) ∧ Below w1.heap.size w1 w4) := ⟨hu, Below.onto HY.out.1.b hb4⟩
        clear cA ho hu hb4
        go_wp2_with fail
        refine cB.mono ?_
        rintro e w5 ⟨V, rfl, ho, hb5⟩
        obtain ⟨va, vc, rfl, hv⟩ := rcAt_own ho
        have cS := rsame15 ua va uc vc (ownR L k) (ownR M k) w5 (by have := HY.out.2.2.2; omega) (H4.out.1.below hb5) hv
        have H5 : Hid (Below w1.heap.size w1 w5) := Below.onto H4.out.2 hb5
        clear cB ho hv hb5
        go_wp2_with fail
        refine cS.mono ?_
        rintro e w6 ⟨t, rfl, ht, hb6⟩
        obtain rfl : t = true := ht.2 HY.out.2.2.1
        have H6 : Hid (Below w1.heap.size w1 w6) := Below.onto H5.out hb6
        clear cS ht hb6
        go_wp2_with fail
        refine (yalive _).mono ?_
        rintro e w9 ⟨rfl, hb9⟩
        have HE : Hid (Below w1.heap.size w1 w9) := Below.onto H6.out hb9
        clear hb9
        go_wp2_with fail
        go_ret
        exact ⟨rfl, HE.out⟩
end Go.Proofs.Ytcfmbppnghlkaaa
