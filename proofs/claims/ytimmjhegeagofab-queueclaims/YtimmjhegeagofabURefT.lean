/- The document's Take. -/
import Derived.Test.YtimmjhegeagofabUTake
import Derived.Test.YtimmjhegeagofabURefC
import Derived.Test.YtimmjhegeagofabURefW
namespace Go.Proofs.Ytimmjhegeagofab
open Go.RowKit
set_option maxRecDepth 100000

theorem QIs.drew {w : World} {vl vm : Value} {Q : Qu} {V : Nat → Value} (h : QIs w vl vm Q V) : QIs w.drew vl vm Q V := h.below ((Below.refl _ _).drew)
theorem sl_cut1 {W : World} {s N cap b off : Nat} {c : Nat → Nat → Value} (hN : 1 ≤ N) (h : Sl W s N c (.slice (some ⟨b, off, none⟩) N cap)) : Sl W s (N - 1) (fun j => c (j + 1)) (.slice (if cap = 1 then some ⟨b, off, none⟩ else some ⟨b, off + s, none⟩) (N - 1) (cap - 1)) := by
  obtain ⟨a, cap', e, h1, _, hr⟩ := h
  cases e
  obtain ⟨k, rfl⟩ : ∃ k, N = k + 1 := ⟨N - 1, by omega⟩
  rw [Nat.add_sub_cancel]
  by_cases hc : cap = 1
  · rw [if_pos hc]
    exact ⟨_, _, rfl, by omega, (fun e => by cases e), fun j hj => absurd hj (by omega)⟩
  · rw [if_neg hc]
    exact ⟨_, _, rfl, by omega, (fun e => by cases e), rd_tail hr⟩
set_option maxHeartbeats 4000000 in
theorem rtake_any (vl vm : Value) (Q : Qu) (V : Nat → Value) (w : World) (ho : OkQ Q) (hq : QIs w vl vm Q V) : Calls Try.prog 19 #[quV vl vm] w fun e w' =>
    ∃ ul um V', e = .returned (.tuple #[quV ul um, meV Q.tkM, .int .i64 Q.tkE]) ∧ QIs w' ul um Q.tkQ V' ∧ Below w.heap.size w w' ∧ QNew w.heap.size ul um Q.tkQ V' := by
  have hck := fun W h1 => rcheck_any vl vm Q V W ho h1
  have HQ : Hid (QIs w vl vm Q V) := hq
  have HO : Hid (OkQ Q) := ho
  obtain ⟨la, lc, rfl, _, _, hlr⟩ := hq.l
  obtain ⟨ma, mc, rfl, _, _, hmr⟩ := hq.m
  obtain ⟨k1, k2, k3, b2, s2⟩ := alloc3 w [.slice la Q.ls.length lc, .slice ma Q.ms.length mc] 25 [.slice none 0 0, .slice none 0 0] 25 [.int .i64 0, .int .i64 0, .int .i64 0, .int .u64 0] 40
  have K1 : Hid (Blk _ _ _ _) := k1
  have K2 : Hid (Blk _ _ _ _) := k2
  have K3 : Hid (Blk _ _ _ _) := k3
  have B2 : Hid (Below _ _ _) := b2
  clear hlr hmr hq ho k1 k2 k3 b2 s2
  cases hok : Q.ok
  · have HE : Hid (Q.tkE = 100) := by show _ = _; simp [Qu.tkE, hok]
    have HQ0 : Hid (Q.tkQ = qu0) := by show _ = _; rw [Qu.tkQ, HE.out, if_neg (by decide)]
    have HM0 : Hid (Q.tkM = pm0) := by show _ = _; rw [Qu.tkM, HE.out, if_neg (by decide)]
    rw [HE.out, HQ0.out, HM0.out]
    simp only [chk_no hok] at hck
    clear hok HE HQ0 HM0
    go_enter Try.func19, Try.ntmps19
    go_wp2_with fail
    generalize ((w.alloc (.cells #[.slice la Q.ls.length lc, .slice ma Q.ms.length mc] 25)).alloc (.cells #[.slice none 0 0, .slice none 0 0] 25)).alloc (.cells #[.int .i64 0, .int .i64 0, .int .i64 0, .int .u64 0] 40) = w2 at *
    refine (hck _ (HQ.out.below B2.out)).mono ?_
    rintro e w3 ⟨rfl, hb⟩
    obtain ⟨q0, q1⟩ := (K1.out.below hb).bx.two
    obtain ⟨p0, p1⟩ := (K2.out.below hb).bx.two
    have p2 := (K2.out.below hb).fz
    obtain ⟨r0, r1, r2, r3⟩ := (K3.out.below hb).bx.four
    have r4 := (K3.out.below hb).fz
    have K1b : Hid (Blk w3 _ _ _) := K1.out.below hb
    have K2b : Hid (Blk w3 _ _ _) := K2.out.below hb
    have K3b : Hid (Blk w3 _ _ _) := K3.out.below hb
    have B3 : Hid (Below w.heap.size w w3) := Below.onto B2.out hb
    have HL : Hid (w.heap.size ≤ w.heap.size + 1) := Nat.le_succ _
    have HL2 : Hid (w.heap.size ≤ w.heap.size + 1 + 1) := by show _ ≤ _; omega
    have HC12 : Hid (w.heap.size < w.heap.size + 1 ∧ w.heap.size + 1 < w.heap.size + 1 + 1) := ⟨by omega, by omega⟩
    clear hb K1 K2 K3
    generalize w.heap.size + 1 + 1 = C2 at *
    generalize w.heap.size + 1 = C1 at *
    have hne : ¬ C1 = C2 := by have := HC12.out; omega
    go_wp2_with fail
    refine bodyPost_ret (v := .tuple #[quV (.slice none 0 0) (.slice none 0 0), meV pm0, .int .i64 100]) (by simp [results, Try.results19, go_sem, p0, p1, r0, r1, r2, r3, pm0]) rfl ⟨_, _, fun _ => .slice none 0 0, rfl, qis0 _, ?_, qnew0 _⟩
    repeat (first | (with_reducible exact B3.out) | ((with_reducible refine Below.setCell ?_ ?_ _); rotate_left; first | exact HL.out | exact HL2.out))
  · simp only [chk_ok hok] at hck
    have hcs : Q.ms = [] ∨ ∃ m ms, Q.ms = m :: ms := by cases Q.ms <;> simp
    rcases hcs with hms | ⟨m, ms, hms⟩
    · have HE : Hid (Q.tkE = 105) := by show _ = _; simp [Qu.tkE, hok, hms]
      have HQ0 : Hid (Q.tkQ = qu0) := by show _ = _; rw [Qu.tkQ, HE.out, if_neg (by decide)]
      have HM0 : Hid (Q.tkM = pm0) := by show _ = _; rw [Qu.tkM, HE.out, if_neg (by decide)]
      rw [HE.out, HQ0.out, HM0.out]
      have HM0' : Hid (((Q.ms.length : Int) == 0) = true) := by show _ = _; simp [hms]
      clear hok HE HQ0 HM0 hms
      go_enter Try.func19, Try.ntmps19
      go_wp2_with fail
      generalize ((w.alloc (.cells #[.slice la Q.ls.length lc, .slice ma Q.ms.length mc] 25)).alloc (.cells #[.slice none 0 0, .slice none 0 0] 25)).alloc (.cells #[.int .i64 0, .int .i64 0, .int .i64 0, .int .u64 0] 40) = w2 at *
      refine (hck _ (HQ.out.below B2.out)).mono ?_
      rintro e w3 ⟨rfl, hb⟩
      obtain ⟨q0, q1⟩ := (K1.out.below hb).bx.two
      obtain ⟨p0, p1⟩ := (K2.out.below hb).bx.two
      have p2 := (K2.out.below hb).fz
      obtain ⟨r0, r1, r2, r3⟩ := (K3.out.below hb).bx.four
      have r4 := (K3.out.below hb).fz
      have K1b : Hid (Blk w3 _ _ _) := K1.out.below hb
      have K2b : Hid (Blk w3 _ _ _) := K2.out.below hb
      have K3b : Hid (Blk w3 _ _ _) := K3.out.below hb
      have B3 : Hid (Below w.heap.size w w3) := Below.onto B2.out hb
      have HL : Hid (w.heap.size ≤ w.heap.size + 1) := Nat.le_succ _
      have HL2 : Hid (w.heap.size ≤ w.heap.size + 1 + 1) := by show _ ≤ _; omega
      have HC12 : Hid (w.heap.size < w.heap.size + 1 ∧ w.heap.size + 1 < w.heap.size + 1 + 1) := ⟨by omega, by omega⟩
      clear hb K1 K2 K3
      generalize w.heap.size + 1 + 1 = C2 at *
      generalize w.heap.size + 1 = C1 at *
      have hm0 := HM0'.out
      have hne : ¬ C1 = C2 := by have := HC12.out; omega
      go_wp2_with fail
      refine bodyPost_ret (v := .tuple #[quV (.slice none 0 0) (.slice none 0 0), meV pm0, .int .i64 105]) (by simp [results, Try.results19, go_sem, p0, p1, r0, r1, r2, r3, pm0]) rfl ⟨_, _, fun _ => .slice none 0 0, rfl, qis0 _, ?_, qnew0 _⟩
      repeat (first | (with_reducible exact B3.out) | ((with_reducible refine Below.setCell ?_ ?_ _); rotate_left; first | exact HL.out | exact HL2.out))
    · have HE : Hid (Q.tkE = 0) := by show _ = _; simp [Qu.tkE, hok, hms]
      have HQ0 : Hid (Q.tkQ = ⟨Q.ls, ms⟩) := by show _ = _; rw [Qu.tkQ, HE.out, if_pos rfl, hms]; rfl
      have HM0 : Hid (Q.tkM = m) := by show _ = _; rw [Qu.tkM, HE.out, if_pos rfl, hms]; rfl
      have HMS : Hid (Q.ms = m :: ms) := hms
      have HM0' : Hid (((Q.ms.length : Int) == 0) = false) := by show _ = _; simp [hms]; omega
      have HLN : Hid (Q.ms.length = ms.length + 1) := by show _ = _; simp [hms]
      have HM1' : Hid ((0 : Int) < (Q.ms.length : Int)) := by show _ < _; rw [hms]; simp
      have hnm := HO.out.nm
      rw [HE.out, HQ0.out, HM0.out]
      clear hok HE HQ0 HM0 hms
      go_enter Try.func19, Try.ntmps19
      go_wp2_with fail
      generalize ((w.alloc (.cells #[.slice la Q.ls.length lc, .slice ma Q.ms.length mc] 25)).alloc (.cells #[.slice none 0 0, .slice none 0 0] 25)).alloc (.cells #[.int .i64 0, .int .i64 0, .int .i64 0, .int .u64 0] 40) = w2 at *
      refine (hck _ (HQ.out.below B2.out)).mono ?_
      rintro e w3 ⟨rfl, hb⟩
      obtain ⟨q0, q1⟩ := (K1.out.below hb).bx.two
      obtain ⟨p0, p1⟩ := (K2.out.below hb).bx.two
      have p2 := (K2.out.below hb).fz
      obtain ⟨r0, r1, r2, r3⟩ := (K3.out.below hb).bx.four
      have r4 := (K3.out.below hb).fz
      have K1b : Hid (Blk w3 _ _ _) := K1.out.below hb
      have K2b : Hid (Blk w3 _ _ _) := K2.out.below hb
      have K3b : Hid (Blk w3 _ _ _) := K3.out.below hb
      have B3 : Hid (Below w.heap.size w w3) := Below.onto B2.out hb
      have HL : Hid (w.heap.size ≤ w.heap.size + 1) := Nat.le_succ _
      have HL2 : Hid (w.heap.size ≤ w.heap.size + 1 + 1) := by show _ ≤ _; omega
      have HC12 : Hid (w.heap.size < w.heap.size + 1 ∧ w.heap.size + 1 < w.heap.size + 1 + 1) := ⟨by omega, by omega⟩
      clear hb K1 K2 K3
      generalize w.heap.size + 1 + 1 = C2 at *
      generalize w.heap.size + 1 = C1 at *
      have HQ3 : Hid (QIs w3 _ _ Q V) := HQ.out.below B3.out
      obtain ⟨b, off, _, e0, c0, c1, c2, c3⟩ := HQ3.out.msg (k := 0) (by have := HLN.out; omega)
      cases e0
      rw [show atM Q.ms 0 = m from by rw [HMS.out]; rfl, Nat.zero_mul, Nat.add_zero] at c0 c1 c2 c3
      have hm0 := HM0'.out
      have hz1 := K1b.out.lt
      have hz2 := K2b.out.lt
      have hz3 := K3b.out.lt
      have how := rown_any _ _ Q V w3 HO.out HQ3.out
      go_wp2_with fail
      refine how.mono ?_
      rintro e w4 ⟨ul, um, V', rfl, how4, hb4⟩
      have HOW : Hid (Owned w4 w3.heap.size ul um Q V') := how4
      obtain ⟨la', nl', lc', rfl⟩ : ∃ a n c, ul = .slice a n c := by obtain ⟨a, c, e, _⟩ := how4.qis.l; exact ⟨_, _, _, e⟩
      obtain ⟨ma', nm', mc', rfl⟩ : ∃ a n c, um = .slice a n c := by obtain ⟨a, c, e, _⟩ := how4.qis.m; exact ⟨_, _, _, e⟩
      obtain ⟨k5, b5, s5⟩ := alloc1 w4 [.slice la' nl' lc', .slice ma' nm' mc'] 25
      have K5 : Hid (Blk _ _ _ _) := k5
      have B45 : Hid (Below _ _ _) := b5
      have HB4 : Hid (Below w3.heap.size w3 w4) := hb4
      have K1c : Hid (Blk _ _ _ _) := (K1b.out.below hb4).below b5
      obtain ⟨y0, y1⟩ := (K1b.out.below hb4).bx.two
      have l1 := (K1b.out.below hb4).lt
      have hm1 := HM1'.out
      have b6 := below_new (w4.alloc (.cells #[.slice la' nl' lc', .slice ma' nm' mc'] 25)) (.cells #[] 40)
      have hown := gown_0 (w4.alloc (.cells #[.slice la' nl' lc', .slice ma' nm' mc'] 25)) w3.heap.size 40 4 (Nat.le_trans hb4.size b5.size)
      rw [s5] at hown
      have hsl := sl_cut1 (by have := HLN.out; omega) (((HQ3.out.below hb4).below b5).below b6).m
      have hb7 : w3.heap.size ≤ ((w4.alloc (.cells #[.slice la' nl' lc', .slice ma' nm' mc'] 25)).alloc (.cells #[] 40)).heap.size := Nat.le_trans hb4.size (Nat.le_trans b5.size b6.size)
      have HF7 : Hid (∀ w7, ((w4.alloc (.cells #[.slice la' nl' lc', .slice ma' nm' mc'] 25)).alloc (.cells #[] 40)).grownBy w7 (Value.slice (some ⟨w4.heap.size + 1, 0, none⟩) 0 0).ownBlock → Blk w7 w4.heap.size 25 [.slice la' nl' lc', .slice ma' nm' mc'] ∧ Below w4.heap.size w4 w7) := fun w7 hg7 => by
        have hgb : Below (w4.heap.size + 1) ((w4.alloc (.cells #[.slice la' nl' lc', .slice ma' nm' mc'] 25)).alloc (.cells #[] 40)) w7 := grown_below hg7 (by rw [hs_alloc, hs_alloc]; omega) fun g e => by
          have e : w4.heap.size + 1 = g := by simpa [Value.ownBlock] using e
          omega
        exact ⟨(k5.below b6).upTo hgb (by omega), (Below.onto b5 b6).trans (hgb.mono (by omega))⟩
      have H1M : Hid (∀ j, j < Q.ms.length - 1 → ∀ f, f < 4 → (encMs Q.ms (j + 1) f).oneCell' = true) := fun j hj f hf => one_encM Q.ms (j + 1) (by omega) f hf
      have hlen : 0 + (Q.ms.length - 1) ≤ 1000000 := by omega
      have HMS4 : Hid (∀ W, Below w4.heap.size w4 W → W.cell? ⟨b, off, none⟩ = some (.int .i64 m.ln) ∧ W.cell? ⟨b, off + 1, none⟩ = some (.int .i64 m.ep) ∧ W.cell? ⟨b, off + 2, none⟩ = some (.int .i64 m.n) ∧ W.cell? ⟨b, off + 3, none⟩ = some (.int .u64 m.pay)) := fun W hW => by
        have hc := fun i v (h : w3.cell? ⟨b, i, none⟩ = some v) => (hW.cell (p := ⟨b, i, none⟩) (Nat.lt_of_lt_of_le (cell_lt h) hb4.size)).trans ((hb4.cell (p := ⟨b, i, none⟩) (cell_lt h)).trans h)
        exact ⟨hc _ _ c0, hc _ _ c1, hc _ _ c2, hc _ _ c3⟩
      have K1d : Hid (Blk w4 _ _ _) := K1b.out.below hb4
      have K2d : Hid (Blk w4 _ _ _) := K2b.out.below hb4
      have K3d : Hid (Blk w4 _ _ _) := K3b.out.below hb4
      have hc12 := HC12.out
      have hzz := hb4.size
      have n1 : ¬ w4.heap.size = w.heap.size := by omega
      have n2 : ¬ w4.heap.size = C1 := by omega
      have n3 : ¬ w4.heap.size = C2 := by omega
      have n4 : ¬ C1 = C2 := by omega
      have n5 : ¬ w.heap.size = C1 := by omega
      have n6 : ¬ w.heap.size = C2 := by omega
      have hbw : b < w.heap.size := by
        obtain ⟨b', off', cap', e', c0', _⟩ := HQ.out.msg (k := 0) (by have := HLN.out; omega)
        injection e' with e1
        injection e1 with e1
        have : b = b' := congrArg Addr.block e1
        rw [this]
        exact cell_lt c0'
      have nb1 : ¬ b = C1 := by omega
      have nb2 : ¬ b = C2 := by omega
      have nb3 : ¬ b = w4.heap.size := by omega
      have B3w : Hid (Below w.heap.size w w4) := Below.onto B3.out hb4
      have HSU : Hid (∀ W u, Sl W 4 (Q.ms.length - 1) (fun j => encMs Q.ms (j + 1)) u → Sl W 4 ms.length (encMs ms) u) := fun W u h => by
        rw [HMS.out] at h
        exact ms_tail h
      have HSZ : Hid (C1 < w3.heap.size ∧ C2 < w3.heap.size ∧ w.heap.size < w3.heap.size ∧ w3.heap.size ≤ w4.heap.size) := ⟨hz2, hz3, hz1, hb4.size⟩
      clear how how4 hb4 k5 b5 b6 s5 q0 q1 p0 p1 p2 r0 r1 r2 r3 r4 c0 c1 c2 c3 hz1 hz2 hz3 hzz hc12
      go_wp2_with (at_builtin; refine wpList_app eltM rfl (.tmp 19) (.tmp 22) rfl w3.heap.size (.slice (some ⟨w4.heap.size + 1, 0, none⟩) 0 0) _ 0 (Q.ms.length - 1) [] (fun j => encMs Q.ms (j + 1)) rfl rfl hown hsl H1M.out hlen hb7 ?_; intro v7 w7 h7 hg7; obtain ⟨ua, uc, rfl⟩ := own_form2 h7; obtain ⟨k7, b7⟩ := HF7.out w7 hg7; obtain ⟨x0, x1⟩ := k7.bx.two; have x2 := k7.fz; obtain ⟨g0, g1⟩ := (K1d.out.below b7).bx.two; obtain ⟨p0, p1⟩ := (K2d.out.below b7).bx.two; have p2 := (K2d.out.below b7).fz; obtain ⟨r0, r1, r2, r3⟩ := (K3d.out.below b7).bx.four; have r4 := (K3d.out.below b7).fz; obtain ⟨e0, e1, e2, e3⟩ := HMS4.out w7 b7)
      all_goals
        have h7' : w7.ownsRow w3.heap.size 40 4 (.slice ua (Q.ms.length - 1) uc) (Q.ms.length - 1) (cellsL (Q.ms.length - 1) 4 (fun j => encMs Q.ms (j + 1))) := by simpa using h7
        have hD := HSZ.out
        have K5e : Hid (Blk (w7.setCell ⟨w4.heap.size, 1, none⟩ (.slice ua (Q.ms.length - 1) uc)) w4.heap.size _ [.slice la' nl' lc', .slice ua (Q.ms.length - 1) uc]) := k7.set 1 _
        have K1e : Hid (Blk (w7.setCell ⟨w4.heap.size, 1, none⟩ (.slice ua (Q.ms.length - 1) uc)) w.heap.size _ _) := (K1d.out.below b7).setO (by omega) _
        have K2e : Hid (Blk (w7.setCell ⟨w4.heap.size, 1, none⟩ (.slice ua (Q.ms.length - 1) uc)) C1 _ _) := (K2d.out.below b7).setO (by omega) _
        have K3e : Hid (Blk (w7.setCell ⟨w4.heap.size, 1, none⟩ (.slice ua (Q.ms.length - 1) uc)) C2 _ _) := (K3d.out.below b7).setO (by omega) _
        have HME : Hid (∀ i v, w7.cell? ⟨b, i, none⟩ = some v → World.cell? (w7.setCell ⟨w4.heap.size, 1, none⟩ (.slice ua (Q.ms.length - 1) uc)) ⟨b, i, none⟩ = some v) := fun i v h => co nb3 h
        have E0 : Hid (_ = _) := HME.out _ _ e0
        have E1 : Hid (_ = _) := HME.out _ _ e1
        have E2 : Hid (_ = _) := HME.out _ _ e2
        have E3 : Hid (_ = _) := HME.out _ _ e3
        have HSL8 : Hid (Sl (w7.setCell ⟨w4.heap.size, 1, none⟩ (.slice ua (Q.ms.length - 1) uc)) 4 ms.length (encMs ms) (.slice ua (Q.ms.length - 1) uc)) := HSU.out _ _ (sl_own (own_set h7' (own_ne_blk h7' k7 (by decide))) (fun j hj f hf => cellsL_at hj hf))
        have HUB : Hid (∀ g, (Value.slice ua (Q.ms.length - 1) uc).ownBlock = some g → w3.heap.size ≤ g) := fun g e => own_blk h7' g e
        have HQL : Hid (QIs (w7.setCell ⟨w4.heap.size, 1, none⟩ (.slice ua (Q.ms.length - 1) uc)) (.slice la' nl' lc') (.slice ua (Q.ms.length - 1) uc) ⟨Q.ls, ms⟩ V') := by
          obtain ⟨xs, o1, o2⟩ := HOW.out.l
          refine ⟨sl_own (own_set (own_below o1 b7) fun e => by have := own_lt o1 e; omega) o2, fun j hj => ?_, HSL8.out⟩
          obtain ⟨ys, o3, o4⟩ := HOW.out.c j hj
          refine sl_own (own_set (own_below o3 b7) fun e => by have := own_lt o3 e; omega) fun i hi f hf => ?_
          obtain rfl : f = 0 := by omega
          rw [Nat.mul_one, Nat.add_zero]
          exact o4 i hi
        have HNW : Hid (QNew w3.heap.size (.slice la' nl' lc') (.slice ua (Q.ms.length - 1) uc) ⟨Q.ls, ms⟩ V') := ⟨HOW.out.new.l, HUB.out, HOW.out.new.c⟩
        have B8 : Hid (Below w.heap.size w (w7.setCell ⟨w4.heap.size, 1, none⟩ (.slice ua (Q.ms.length - 1) uc))) := (Below.onto B3w.out b7).setCell (show w.heap.size ≤ w4.heap.size by omega) _
        clear h7 h7' hg7 k7 b7 x0 x1 x2 g0 g1 p0 p1 p2 r0 r1 r2 r3 r4 e0 e1 e2 e3 hown hsl hb7
        generalize w7.setCell ⟨w4.heap.size, 1, none⟩ (.slice ua (Q.ms.length - 1) uc) = w8 at *
        obtain ⟨x0, x1⟩ := K5e.out.bx.two
        obtain ⟨g0, g1⟩ := K1e.out.bx.two
        obtain ⟨p0, p1⟩ := K2e.out.bx.two
        have p2 := K2e.out.fz
        obtain ⟨r0, r1, r2, r3⟩ := K3e.out.bx.four
        have r4 := K3e.out.fz
        have e0 := E0.out
        have e1 := E1.out
        have e2 := E2.out
        have e3 := E3.out
        go_region
        go_wp2_with fail
        refine bodyPost_ret (v := .tuple #[quV (.slice la' nl' lc') (.slice ua (Q.ms.length - 1) uc), meV m, .int .i64 0]) (by simp [results, Try.results19, go_sem, p0, p1, r0, r1, r2, r3]) rfl ⟨_, _, V', rfl, QIs.drew ?_, Below.drew ?_, HNW.out.mono (by omega)⟩
        · have hk := HSZ.out
          exact (((((HQL.out.setO HNW.out hk.1).setO HNW.out hk.1).setO HNW.out hk.2.1).setO HNW.out hk.2.1).setO HNW.out hk.2.1).setO HNW.out hk.2.1
        · repeat (first | (with_reducible exact B8.out) | ((with_reducible refine Below.setCell ?_ ?_ _); rotate_left; first | exact HL.out | exact HL2.out))

end Go.Proofs.Ytimmjhegeagofab
