/- queue.senders: a queue's lanes, each with its messages' number, if the queue may be. -/
import Derived.Test.YtkgehbonijpdnaaULong
namespace Go.Proofs.Ytkgehbonijpdnaa
open Go.RowKit
set_option maxRecDepth 100000

theorem has_any (la : Option Addr) (n lc : Nat) (vm : Value) (i : Int) (w : World) : Calls Try.prog 29 #[quV (.slice la n lc) vm, .int .i64 i] w fun e w' => e = .returned (.bool (decide (0 ≤ i) && decide (i < (n : Int)))) ∧ Below w.heap.size w w' := by
  by_cases h : 0 ≤ i
  · go_enter Try.func29, Try.ntmps29
    go_wp2_with fail
    go_ret
    exact ⟨ret_bool (by simp [h]), below_new _ _⟩
  · have h' : i < 0 := by omega
    go_enter Try.func29, Try.ntmps29
    go_wp2_with fail
    go_ret
    exact ⟨ret_bool (by simp; omega), below_new _ _⟩
/-- a sender's cells -/
def encSe (l : PLn) (v : Value) (q : Nat) : Nat → Value
  | 0 => .int .i64 l.cr
  | 1 => .bool l.tw
  | 2 => .int .i64 l.lf
  | 3 => v
  | 4 => .int .i64 l.nx
  | 5 => .int .i64 l.ep
  | _ => .int .i64 (q : Int)
def encSs (Q : Qu) (V : Nat → Value) (j : Nat) : Nat → Value := encSe (atP Q.ls j) (V j) (cnt Q.ms (j : Int))
theorem Rd.six {w : World} {a : Option Addr} {n k : Nat} {c : Nat → Nat → Value} (h : Rd w a n 6 c) (hk : k < n) : ∃ b off, a = some ⟨b, off, none⟩ ∧ w.cell? ⟨b, off + k * 6, none⟩ = some (c k 0) ∧ w.cell? ⟨b, off + k * 6 + 1, none⟩ = some (c k 1) ∧ w.cell? ⟨b, off + k * 6 + 2, none⟩ = some (c k 2) ∧ w.cell? ⟨b, off + k * 6 + 3, none⟩ = some (c k 3) ∧ w.cell? ⟨b, off + k * 6 + 4, none⟩ = some (c k 4) ∧ w.cell? ⟨b, off + k * 6 + 5, none⟩ = some (c k 5) := by
  obtain ⟨b, off, e, hc⟩ := h k hk
  exact ⟨b, off, e, hc 0 (by omega), hc 1 (by omega), hc 2 (by omega), hc 3 (by omega), hc 4 (by omega), hc 5 (by omega)⟩
theorem Rd.four {w : World} {a : Option Addr} {n k : Nat} {c : Nat → Nat → Value} (h : Rd w a n 4 c) (hk : k < n) : ∃ b off, a = some ⟨b, off, none⟩ ∧ w.cell? ⟨b, off + k * 4, none⟩ = some (c k 0) ∧ w.cell? ⟨b, off + k * 4 + 1, none⟩ = some (c k 1) ∧ w.cell? ⟨b, off + k * 4 + 2, none⟩ = some (c k 2) ∧ w.cell? ⟨b, off + k * 4 + 3, none⟩ = some (c k 3) := by
  obtain ⟨b, off, e, hc⟩ := h k hk
  exact ⟨b, off, e, hc 0 (by omega), hc 1 (by omega), hc 2 (by omega), hc 3 (by omega)⟩
theorem QIs.at {w : World} {vl vm : Value} {Q : Qu} {V : Nat → Value} (h : QIs w vl vm Q V) {k : Nat} (hk : k < Q.ls.length) : ∃ b off lc ca cc, vl = .slice (some ⟨b, off, none⟩) Q.ls.length lc ∧ V k = .slice ca (atP Q.ls k).cl.length cc ∧
    w.cell? ⟨b, off + k * 6, none⟩ = some (.int .i64 (atP Q.ls k).cr) ∧ w.cell? ⟨b, off + k * 6 + 1, none⟩ = some (.bool (atP Q.ls k).tw) ∧ w.cell? ⟨b, off + k * 6 + 2, none⟩ = some (.int .i64 (atP Q.ls k).lf) ∧ w.cell? ⟨b, off + k * 6 + 3, none⟩ = some (.slice ca (atP Q.ls k).cl.length cc) ∧ w.cell? ⟨b, off + k * 6 + 4, none⟩ = some (.int .i64 (atP Q.ls k).nx) ∧ w.cell? ⟨b, off + k * 6 + 5, none⟩ = some (.int .i64 (atP Q.ls k).ep) := by
  obtain ⟨a, lc, rfl, _, _, hr⟩ := h.l
  obtain ⟨ca, cc, hV, _⟩ := h.c k hk
  obtain ⟨b, off, rfl, h0, h1, h2, h3, h4, h5⟩ := hr.six hk
  refine ⟨b, off, lc, ca, cc, rfl, hV, h0, h1, h2, ?_, h4, h5⟩
  rw [← hV]
  exact h3
theorem QIs.msg {w : World} {vl vm : Value} {Q : Qu} {V : Nat → Value} (h : QIs w vl vm Q V) {k : Nat} (hk : k < Q.ms.length) : ∃ b off lc, vm = .slice (some ⟨b, off, none⟩) Q.ms.length lc ∧
    w.cell? ⟨b, off + k * 4, none⟩ = some (.int .i64 (atM Q.ms k).ln) ∧ w.cell? ⟨b, off + k * 4 + 1, none⟩ = some (.int .i64 (atM Q.ms k).ep) ∧ w.cell? ⟨b, off + k * 4 + 2, none⟩ = some (.int .i64 (atM Q.ms k).n) ∧ w.cell? ⟨b, off + k * 4 + 3, none⟩ = some (.int .u64 (atM Q.ms k).pay) := by
  obtain ⟨a, lc, rfl, _, _, hr⟩ := h.m
  obtain ⟨b, off, rfl, h0, h1, h2, h3⟩ := hr.four hk
  exact ⟨b, off, lc, rfl, h0, h1, h2, h3⟩
def zeS (_ f : Nat) : Value := (Value.agg #[.int .i64 0, .bool false, .int .i64 0, .slice none 0 0, .int .i64 0, .int .i64 0, .int .i64 0]).cells.getD f undef
def sen1 (ls : List PLn) (V : Nat → Value) (k j : Nat) : Nat → Value := if j < k then encSe (atP ls j) (V j) 0 else zeS j
def sen2 (Q : Qu) (V : Nat → Value) (k j : Nat) : Nat → Value := encSe (atP Q.ls j) (V j) (cnt (Q.ms.take k) (j : Int))
theorem sen1_step {ls : List PLn} {V : Nat → Value} {k cc : Nat} {x : PLn} {ca : Option Addr} (hx : x = atP ls k) (hV : V k = .slice ca (atP ls k).cl.length cc) (j f : Nat) (hf : f < 7) :
    set6 (sen1 ls V k) k (.int .i64 x.cr) (.bool x.tw) (.int .i64 x.lf) (.slice ca x.cl.length cc) (.int .i64 x.nx) (.int .i64 x.ep) j f = sen1 ls V (k + 1) j f := by
  subst hx
  by_cases h : j = k
  · subst h
    have e : sen1 ls V (j + 1) j f = encSe (atP ls j) (V j) 0 f := by simp [sen1]
    rw [e, hV]
    match f, hf with
    | 0, _ => simp [set6, encSe]
    | 1, _ => simp [set6, encSe]
    | 2, _ => simp [set6, encSe]
    | 3, _ => simp [set6, encSe]
    | 4, _ => simp [set6, encSe]
    | 5, _ => simp [set6, encSe]
    | 6, _ => simp [set6, encSe, sen1, zeS, Value.cells]
  · have e : sen1 ls V (k + 1) j = sen1 ls V k j := by
      unfold sen1
      by_cases hl : j < k
      · rw [if_pos hl, if_pos (by omega)]
      · rw [if_neg hl, if_neg (by omega)]
    rw [e]
    simp [set6, h]
theorem Rw.sen {w : World} {g n k cc : Nat} {T : TypeId} {Q : Qu} {V : Nat → Value} {ca : Option Addr} (h : Rw w g T n 7 (encSs Q V)) (hk : k < n) (hV : V k = .slice ca (atP Q.ls k).cl.length cc) :
    w.cell? ⟨g, k * 7, none⟩ = some (.int .i64 (atP Q.ls k).cr) ∧ w.cell? ⟨g, k * 7 + 1, none⟩ = some (.bool (atP Q.ls k).tw) ∧ w.cell? ⟨g, k * 7 + 2, none⟩ = some (.int .i64 (atP Q.ls k).lf) ∧ w.cell? ⟨g, k * 7 + 3, none⟩ = some (.slice ca (atP Q.ls k).cl.length cc) ∧ w.cell? ⟨g, k * 7 + 4, none⟩ = some (.int .i64 (atP Q.ls k).nx) ∧ w.cell? ⟨g, k * 7 + 5, none⟩ = some (.int .i64 (atP Q.ls k).ep) ∧ w.cell? ⟨g, k * 7 + 6, none⟩ = some (.int .i64 (cnt Q.ms (k : Int) : Int)) :=
  ⟨h.cell (f := 0) hk (by omega), h.cell (f := 1) hk (by omega), h.cell (f := 2) hk (by omega), by rw [← hV]; exact h.cell (f := 3) hk (by omega), h.cell (f := 4) hk (by omega), h.cell (f := 5) hk (by omega), h.cell (f := 6) hk (by omega)⟩
theorem sen2_step {Q : Qu} {V : Nat → Value} {k j cj : Nat} (hc : cj = cnt (Q.ms.take k) (j : Int)) (h1 : cnt (Q.ms.take (k + 1)) (j : Int) = cnt (Q.ms.take k) (j : Int) + 1) (h2 : ∀ i : Nat, i ≠ j → cnt (Q.ms.take (k + 1)) (i : Int) = cnt (Q.ms.take k) (i : Int)) (i f : Nat) (hf : f < 7) :
    (if i = j ∧ f = 6 then Value.int .i64 ((cj : Int) + 1) else sen2 Q V k i f) = sen2 Q V (k + 1) i f := by
  subst hc
  unfold sen2
  by_cases hi : i = j
  · subst hi
    rw [h1]
    match f, hf with
    | 0, _ => simp [encSe]
    | 1, _ => simp [encSe]
    | 2, _ => simp [encSe]
    | 3, _ => simp [encSe]
    | 4, _ => simp [encSe]
    | 5, _ => simp [encSe]
    | 6, _ => simp [encSe]
  · rw [if_neg (by rintro ⟨h, _⟩; exact hi h), h2 i hi]
set_option maxHeartbeats 4000000 in
theorem senders_any (vl vm : Value) (Q : Qu) (V : Nat → Value) (w : World) (ho : OkQ Q) (hq : QIs w vl vm Q V) : Calls Try.prog 17 #[quV vl vm] w fun e w' =>
    ((Q.ok = true ∧ ∃ g, e = .returned (.tuple #[.slice (some ⟨g, 0, none⟩) Q.ls.length Q.ls.length, .int .i64 0]) ∧ Rw w' g 74 Q.ls.length 7 (encSs Q V)) ∨ (Q.ok = false ∧ e = .returned (.tuple #[.slice none 0 0, .int .i64 100]))) ∧ Below w.heap.size w w' := by
  have HQ : Hid (QIs w vl vm Q V) := hq
  obtain ⟨la, lc, rfl, hlc, _, hlr⟩ := hq.l
  obtain ⟨ma, mc, rfl, hmc, _, hmr⟩ := hq.m
  have hn := ho.nl
  have hm := ho.nm
  have HO : Hid (OkQ Q) := ho
  by_cases h16 : 16 < Q.ls.length
  · have HK : Hid (Q.ok = false) := not_ok (.inl (by omega))
    clear hlr hmr hq ho
    go_enter Try.func17, Try.ntmps17
    go_wp2_with fail
    go_ret2
    exact ⟨.inr ⟨HK.out, rfl⟩, below_new _ _⟩
  · have h16' : (Q.ls.length : Int) ≤ 16 := by omega
    have b1 := below_new w (.cells #[.slice la Q.ls.length lc, .slice ma Q.ms.length mc] 30)
    have x1 := bx_new w [.slice la Q.ls.length lc, .slice ma Q.ms.length mc] 30
    obtain ⟨W2, hmk, hrw, hb2, hs2⟩ := make_rw eltS (w.alloc (.cells #[.slice la Q.ls.length lc, .slice ma Q.ms.length mc] 30)) Q.ls.length (by omega)
    have HX : Hid (Bx _ _ _) := x1.below hb2
    have HB2 : Hid (Below w.heap.size w W2) := Below.onto b1 hb2
    have e1 : (w.alloc (.cells #[.slice la Q.ls.length lc, .slice ma Q.ms.length mc] 30)).heap.size = w.heap.size + 1 := by simp
    rw [e1] at hrw hmk
    have HRW : Hid (Rw W2 (w.heap.size + 1) 74 Q.ls.length 7 _) := hrw
    clear hlr hmr hq ho h16 b1 x1 hb2 hs2 hrw e1
    obtain ⟨q0, q1⟩ := HX.out.two
    go_enter Try.func17, Try.ntmps17
    go_wp2_with fail
    clear hmk q0 q1
    have HG : Hid (w.heap.size < w.heap.size + 1) := Nat.lt_succ_self _
    generalize w.heap.size + 1 = g at *
    go_loopw [22] (fun i wr => ∃ k : Nat, k ≤ Q.ls.length ∧ i = .int .i64 k ∧ Rw wr g 74 Q.ls.length 7 (sen1 Q.ls V k) ∧ Hid (Below g W2 wr)) (fun i _ => Q.ls.length - (intOf i).toNat)
    case atStart => exact ⟨0, Nat.zero_le _, rfl, HRW.out.congr fun j _ f _ => by simp [sen1, zeS], Below.refl _ _⟩
    case round =>
      obtain ⟨k, hk, rfl, hrw, hbel⟩ := hrel
      by_cases hlt : k < Q.ls.length
      · have hbw := HB2.out.trans (hbel.out.mono (Nat.le_of_lt HG.out))
        obtain ⟨b, off, _, ca, cc, e0, hV, h0, h1, h2, h3, h4, h5⟩ := (HQ.out.below hbw).at hlt
        cases e0
        have HV : Hid (V k = .slice ca (atP Q.ls k).cl.length cc) := hV
        obtain ⟨x, hx⟩ : ∃ x, x = atP Q.ls k := ⟨_, rfl⟩
        have HXk : Hid (x = atP Q.ls k) := hx
        rw [← hx] at h0 h1 h2 h3 h4 h5
        clear hx hV hbw
        have y0 : wr.cell? ⟨g, k * 7, none⟩ = _ := hrw.cell (f := 0) hlt (by omega)
        have y1 := hrw.cell (f := 1) hlt (by omega)
        have y2 := hrw.cell (f := 2) hlt (by omega)
        have y3 := hrw.cell (f := 3) hlt (by omega)
        have y4 := hrw.cell (f := 4) hlt (by omega)
        have y5 := hrw.cell (f := 5) hlt (by omega)
        have z0 := hrw.fz
        have zl := hrw.lt
        have HW : Hid (Rw wr g 74 Q.ls.length 7 (sen1 Q.ls V k)) := hrw
        clear hrw
        go_wp2_with fail
        refine ⟨⟨k + 1, by omega, by go_num, ?_, ?_⟩, by simp [intOf]; omega⟩
        · exact ((HW.out.set6 hlt (by omega) _ _ _ _ _ _).below (below_new _ _)).congr fun j _ f hf => sen1_step HXk.out HV.out j f hf
        · have hl := HW.out.lt
          exact (below_set6 hbel.out (Nat.le_refl _) _ _ _ _ _ _).alloc (by simp; omega) _
      · obtain rfl : k = Q.ls.length := by omega
        obtain ⟨wx, hwx⟩ : ∃ x, x = wr := ⟨wr, rfl⟩
        subst hwx
        have HX2 : Hid (Bx wx w.heap.size [.slice la Q.ls.length lc, .slice ma Q.ms.length mc]) := HX.out.upTo hbel.out HG.out
        have HB3 : Hid (Below w.heap.size w wx) := HB2.out.trans (hbel.out.mono (Nat.le_of_lt HG.out))
        have HRW2 : Hid (Rw wx g 74 Q.ls.length 7 (sen2 Q V 0)) := hrw.congr fun j hj f _ => by simp [sen1, sen2, hj, cnt]
        clear hrw hbel HX HRW HB2 hk hlt
        obtain ⟨q0, q1⟩ := HX2.out.two
        go_wp2_with fail
        clear q0 q1
        go_loopw [36] (fun i wr => ∃ k : Nat, k ≤ Q.ms.length ∧ i = .int .i64 k ∧ Rw wr g 74 Q.ls.length 7 (sen2 Q V k) ∧ Hid (Below g wx wr) ∧ Hid (∀ j, j < k → okM Q (atM Q.ms j) = true)) (fun i _ => Q.ms.length - (intOf i).toNat)
        case atStart => exact ⟨0, Nat.zero_le _, rfl, HRW2.out, Below.refl _ _, fun j hj => absurd hj (by omega)⟩
        case round =>
          obtain ⟨k, hk, rfl, hrw, hbel, hall⟩ := hrel
          by_cases hlt : k < Q.ms.length
          · have hbw := HB3.out.trans (hbel.out.mono (Nat.le_of_lt HG.out))
            obtain ⟨b, off, _, e0, h0, h1, h2, h3⟩ := (HQ.out.below hbw).msg hlt
            cases e0
            have HOK : Hid (okM Q (atM Q.ms k) = _) := rfl
            have HCN0 := cnt_take Q.ms k hlt
            obtain ⟨x, hx⟩ : ∃ x, x = atM Q.ms k := ⟨_, rfl⟩
            have HXk : Hid (x = atM Q.ms k) := hx
            rw [← hx] at h0 h1 h2 h3 HCN0
            have HW : Hid (Rw wr g 74 Q.ls.length 7 (sen2 Q V k)) := hrw
            have HCN : Hid (∀ i : Int, cnt (Q.ms.take (k + 1)) i = cnt (Q.ms.take k) i + if x.ln = i then 1 else 0) := HCN0
            have HBW : Hid (Below w.heap.size w wr) := hbw
            obtain ⟨q0, q1⟩ := (HX2.out.upTo hbel.out HG.out).two
            have hwl := HW.out.lt
            have hwl2 : w.heap.size < wr.heap.size := by have := HG.out; omega
            clear hx hrw hbw HOK HCN0
            have b4 := below_new wr (.cells #[.int .i64 x.ln, .int .i64 x.ep, .int .i64 x.n, .int .u64 x.pay] 44)
            have X4 : Hid (Bx _ _ _) := bx_new wr [.int .i64 x.ln, .int .i64 x.ep, .int .i64 x.n, .int .u64 x.pay] 44
            have XQ : Hid (Bx _ _ _) := (HX2.out.upTo hbel.out HG.out).below b4
            have B4 : Hid (Below wr.heap.size wr _) := b4
            have HQ4 : Hid (QIs _ _ _ Q V) := (HQ.out.below HBW.out).below b4
            have HW4 : Hid (Rw _ _ _ _ _ _) := HW.out.below b4
            have HL4 : Hid (_ < _) := HW4.out.lt
            clear b4
            cases hH : Q.hasB x.ln
            · have HE : Hid (Q.ok = false) := not_ok (.inr (.inl ⟨x, by rw [HXk.out, atM_eq hlt]; exact List.getElem_mem hlt, by simp [okM, hH]⟩))
              go_wp2_with fail
              generalize wr.alloc (.cells #[.int .i64 x.ln, .int .i64 x.ep, .int .i64 x.n, .int .u64 x.pay] 44) = w4 at *
              obtain ⟨p0, p1⟩ := XQ.out.two
              obtain ⟨r0, r1, r2, r3⟩ := X4.out.four
              have s0 := cell_regrown p0
              have s1 := cell_regrown p1
              have t0 := cell_regrown r0
              have t1 := cell_regrown r1
              have cH := regrown_call (w := w4) (v := .bool false) fun W _ => by have := has_any la Q.ls.length lc (.slice (some ⟨b, off, none⟩) Q.ms.length mc) x.ln W; rw [show (decide (0 ≤ x.ln) && decide (x.ln < (Q.ls.length : Int))) = false from hH] at this; exact this
              clear p0 p1 r0 r1 r2 r3 hwl hwl2 q0 q1 h0 h1 h2 h3
              refine wp_region_quiet_below (by kernel_rfl) (by kernel_rfl) ?_
              repeat (go_big_quiet_step (with_reducible exact cH _ _))
              refine wpQuiet_nil ?_
              intro _ hw'
              obtain ⟨⟨dq, osq⟩, hw''⟩ := hw'
              subst hw''
              go_wp2_with fail
              go_ret2
              exact ⟨.inr ⟨HE.out, rfl⟩, Below.onto (Below.onto HBW.out B4.out) (below_regrown w4 dq osq)⟩
            · obtain ⟨j, hj, hjn⟩ : ∃ j : Nat, x.ln = (j : Int) ∧ j < Q.ls.length := by
                simp [Qu.hasB] at hH
                exact ⟨x.ln.toNat, by omega, by omega⟩
              have HLE : Hid ((Q.lane x.ln).ep = (atP Q.ls j).ep) := by show _ = _; rw [hj, Qu.lane]; simp
              have HHB : Hid (Q.hasB x.ln = true) := hH
              have HJ : Hid (x.ln = (j : Int)) := hj
              rw [hj] at h0 X4 B4 XQ HQ4 HW4 HL4
              clear hH hj
              obtain ⟨bl, ol, _, ca, cc, e0, _, _, _, _, _, _, c5⟩ := HQ4.out.at hjn
              cases e0
              obtain ⟨ye, hye⟩ : ∃ ye, ye = (atP Q.ls j).ep := ⟨_, rfl⟩
              have HYE : Hid (ye = (atP Q.ls j).ep) := hye
              rw [← hye] at c5
              clear hye
              have j1 : (0 : Int) ≤ (j : Int) := by omega
              have j2 : (j : Int) < (Q.ls.length : Int) := by omega
              by_cases hep : x.ep = ye
              · have HOK : Hid (okM Q x = true) := by show _ = _; simp [okM, HHB.out, HLE.out, hep, HYE.out]
                have hep1 : (x.ep == ye) = true := by simp [hep]
                clear hep
                go_wp2_with fail
                generalize wr.alloc (.cells #[.int .i64 (j : Int), .int .i64 x.ep, .int .i64 x.n, .int .u64 x.pay] 44) = w4 at *
                obtain ⟨p0, p1⟩ := XQ.out.two
                obtain ⟨r0, r1, r2, r3⟩ := X4.out.four
                have s0 := cell_regrown p0
                have s1 := cell_regrown p1
                have t0 := cell_regrown r0
                have t1 := cell_regrown r1
                have t5 := cell_regrown c5
                have cH := regrown_call (w := w4) (v := .bool true) fun W _ => by have := has_any (some ⟨bl, ol, none⟩) Q.ls.length lc (.slice (some ⟨b, off, none⟩) Q.ms.length mc) (j : Int) W; rw [show (decide (0 ≤ (j : Int)) && decide ((j : Int) < (Q.ls.length : Int))) = true from by simp; omega] at this; exact this
                clear p0 p1 r0 r1 r2 r3 hwl hwl2 q0 q1 h0 h1 h2 h3 c5
                refine wp_region_quiet_below (by kernel_rfl) (by kernel_rfl) ?_
                repeat (go_big_quiet_step (with_reducible exact cH _ _))
                refine wpQuiet_nil ?_
                intro _ hw'
                obtain ⟨⟨dq, osq⟩, hw''⟩ := hw'
                subst hw''

                have b5 := below_regrown w4 dq osq
                generalize Go.Sort.grow (redrawn w4 dq) osq = w5 at *
                have HW5 : Hid (Rw w5 g 74 Q.ls.length 7 (sen2 Q V k)) := HW4.out.below b5
                have g6 : w5.cell? ⟨g, j * 7 + 6, none⟩ = some (.int .i64 (cnt (Q.ms.take k) (j : Int) : Int)) := HW5.out.cell (f := 6) hjn (by omega)
                have gz := HW5.out.fz
                have gl := HW5.out.lt
                obtain ⟨r0, r1, r2, r3⟩ := (X4.out.below b5).four
                have HC1 : Hid (cnt (Q.ms.take (k + 1)) (j : Int) = cnt (Q.ms.take k) (j : Int) + 1) := by show _ = _; rw [HCN.out, if_pos HJ.out]
                have hcb : cnt (Q.ms.take k) (j : Int) ≤ 1000 := Nat.le_trans (cnt_le _ _) (by rw [List.length_take]; omega)
                have HB5 : Hid (Below g wx w5) := hbel.out.trans ((B4.out.mono (Nat.le_of_lt HW.out.lt)).trans (b5.mono (Nat.le_of_lt HW4.out.lt)))
                obtain ⟨cj, hcj⟩ : ∃ cj, cj = cnt (Q.ms.take k) (j : Int) := ⟨_, rfl⟩
                have HCJ : Hid (cj = cnt (Q.ms.take k) (j : Int)) := hcj
                rw [← hcj] at g6 hcb
                clear hcj b5 s0 s1 t0 t1 t5 cH
                go_wp2_with fail
                refine ⟨⟨k + 1, by omega, by go_num, ?_, ?_, ?_⟩, by simp [intOf]; omega⟩
                · exact (HW5.out.set hjn (e := 6) (by omega) _).congr fun i _ f hf => sen2_step HCJ.out HC1.out (fun i hi => by rw [HCN.out, if_neg (by rw [HJ.out]; omega)]; rfl) i f hf
                · exact HB5.out.setCell (Nat.le_refl _) _
                · intro i hi
                  by_cases e : i = k
                  · rw [e, ← HXk.out]; exact HOK.out
                  · exact hall.out i (by omega)
              · have HE : Hid (Q.ok = false) := not_ok (.inr (.inl ⟨x, by rw [HXk.out, atM_eq hlt]; exact List.getElem_mem hlt, by simp [okM, HLE.out, ← HYE.out, hep]⟩))
                have hep1 : (x.ep == ye) = false := by simp [hep]
                clear hep
                go_wp2_with fail
                generalize wr.alloc (.cells #[.int .i64 (j : Int), .int .i64 x.ep, .int .i64 x.n, .int .u64 x.pay] 44) = w4 at *
                obtain ⟨p0, p1⟩ := XQ.out.two
                obtain ⟨r0, r1, r2, r3⟩ := X4.out.four
                have s0 := cell_regrown p0
                have s1 := cell_regrown p1
                have t0 := cell_regrown r0
                have t1 := cell_regrown r1
                have t5 := cell_regrown c5
                have cH := regrown_call (w := w4) (v := .bool true) fun W _ => by have := has_any (some ⟨bl, ol, none⟩) Q.ls.length lc (.slice (some ⟨b, off, none⟩) Q.ms.length mc) (j : Int) W; rw [show (decide (0 ≤ (j : Int)) && decide ((j : Int) < (Q.ls.length : Int))) = true from by simp; omega] at this; exact this
                clear p0 p1 r0 r1 r2 r3 hwl hwl2 q0 q1 h0 h1 h2 h3 c5
                refine wp_region_quiet_below (by kernel_rfl) (by kernel_rfl) ?_
                repeat (go_big_quiet_step (with_reducible exact cH _ _))
                refine wpQuiet_nil ?_
                intro _ hw'
                obtain ⟨⟨dq, osq⟩, hw''⟩ := hw'
                subst hw''

                go_wp2_with fail
                go_ret2
                exact ⟨.inr ⟨HE.out, rfl⟩, Below.onto (Below.onto HBW.out B4.out) (below_regrown w4 dq osq)⟩
          · obtain rfl : k = Q.ms.length := by omega
            obtain ⟨wy, hwy⟩ : ∃ x, x = wr := ⟨wr, rfl⟩
            subst hwy
            have HB6 : Hid (Below w.heap.size w wy) := HB3.out.trans (hbel.out.mono (Nat.le_of_lt HG.out))
            have HRW3 : Hid (Rw wy g 74 Q.ls.length 7 (encSs Q V)) := hrw.congr fun j hj f _ => by simp [sen2, encSs]
            have HMS : Hid (∀ m ∈ Q.ms, okM Q m = true) := fun m hm => by
              obtain ⟨j, hj, e⟩ := List.mem_iff_getElem.1 hm
              have := hall.out j hj
              rwa [atM_eq hj, e] at this
            clear hrw hbel hall hk hlt
            go_wp2_with fail
            go_loopw [69] (fun i wr => ∃ k : Nat, k ≤ Q.ls.length ∧ i = .int .i64 k ∧ Hid (Below wy.heap.size wy wr) ∧ Hid (∀ j, j < k → okL (atP Q.ls j) (cnt Q.ms (j : Int)) = true)) (fun i _ => Q.ls.length - (intOf i).toNat)
            case atStart => exact ⟨0, Nat.zero_le _, rfl, Below.refl _ _, fun j hj => absurd hj (by omega)⟩
            case round =>
              obtain ⟨k, hk, rfl, hbel, hall⟩ := hrel
              by_cases hlt : k < Q.ls.length
              · have HBW : Hid (Below w.heap.size w wr) := Below.onto HB6.out hbel.out
                obtain ⟨_, _, _, ca, cc, _, hV, _⟩ := HQ.out.at hlt
                obtain ⟨h0, h1, h2, h3, h4, h5, h6⟩ := (HRW3.out.below hbel.out).sen hlt hV
                have b4 := below_new wr (.cells #[.int .i64 (atP Q.ls k).cr, .bool (atP Q.ls k).tw, .int .i64 (atP Q.ls k).lf, .slice ca (atP Q.ls k).cl.length cc, .int .i64 (atP Q.ls k).nx, .int .i64 (atP Q.ls k).ep, .int .i64 (cnt Q.ms (k : Int) : Int)] 74)
                have hcl : Cl _ (V k) (atP Q.ls k).cl := ((HQ.out.c k hlt).below HBW.out).below b4
                rw [hV] at hcl
                have hmb := mayBe_any (atP Q.ls k) (.slice ca (atP Q.ls k).cl.length cc) (cnt Q.ms (k : Int)) _ (HO.out.nc k hlt) (Nat.le_trans (cnt_le _ _) hm) hcl
                have B4 : Hid (Below wr.heap.size wr _) := b4
                have HOK : Hid (okL (atP Q.ls k) (cnt Q.ms (k : Int)) = true → ∀ j, j < k + 1 → okL (atP Q.ls j) (cnt Q.ms (j : Int)) = true) := fun h j hj => by
                  by_cases e : j = k
                  · rw [e]; exact h
                  · exact hall.out j (by omega)
                have HNO : Hid (okL (atP Q.ls k) (cnt Q.ms (k : Int)) = false → Q.ok = false) := fun h => not_ok (.inr (.inr ⟨k, hlt, h⟩))
                clear hcl b4 hV
                generalize cnt Q.ms (k : Int) = q at *
                generalize atP Q.ls k = x at *
                cases hb : okL x q
                · rw [hb] at hmb
                  have HE := HNO.out hb
                  have HE : Hid (Q.ok = false) := HE
                  clear hb HOK HNO
                  go_wp2_with fail
                  refine hmb.mono ?_
                  rintro e w6 ⟨rfl, h6⟩
                  go_wp2_with fail
                  go_ret2
                  exact ⟨.inr ⟨HE.out, rfl⟩, Below.onto (Below.onto HBW.out B4.out) h6⟩
                · rw [hb] at hmb
                  have HE := HOK.out hb
                  have HE : Hid (∀ j, j < k + 1 → okL (atP Q.ls j) (cnt Q.ms (j : Int)) = true) := HE
                  clear hb HOK HNO
                  go_wp2_with fail
                  refine hmb.mono ?_
                  rintro e w6 ⟨rfl, h6⟩
                  go_wp2_with fail
                  exact ⟨⟨k + 1, by omega, by go_num, Below.onto (Below.onto hbel.out B4.out) h6, HE.out⟩, by simp [intOf]; omega⟩
              · obtain rfl : k = Q.ls.length := by omega
                have HE : Hid (Q.ok = true) := (ok_iff Q).2 ⟨by omega, HMS.out, hall.out⟩
                go_wp2_with fail
                go_ret2
                exact ⟨.inl ⟨HE.out, g, rfl, HRW3.out.below hbel.out⟩, Below.onto HB6.out hbel.out⟩

end Go.Proofs.Ytkgehbonijpdnaa
