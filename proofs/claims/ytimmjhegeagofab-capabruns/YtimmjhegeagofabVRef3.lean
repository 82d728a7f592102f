/- The document's table: Mint, New, Live; Same. -/
import Derived.Test.YtimmjhegeagofabVRef2
import Derived.Test.YtimmjhegeagofabVRow
namespace Go.Proofs.Ytimmjhegeagofab
open Go.RowKit Go.Sort
set_option maxRecDepth 100000

section
variable {q b cap : Nat} {a : Option Addr} {T : Tb}
set_option maxHeartbeats 4000000 in
theorem rmint_any (c r : Int) (w : World) (hx : Rt w q b a cap T) (h0 : 0 ≤ r) (h1 : r < 256) :
    Calls Try.prog 67 #[rfV q, .agg #[.int .i64 c, .int .u8 r]] w fun e w' => e = .returned (.tuple #[.int .u32 (mtI T r), .int .i64 (mtE T r)]) ∧ Rt w' q b a cap (mtT T c r) ∧ Bn T.n b w w' := by
  have hF := fun W (hW : Rt W q b a cap T) => rfree_any W hW
  have H : Hid (Rt w q b a cap T) := hx
  have hn := hx.ok.n32
  have hcp := hx.hc
  have HO : Hid ((mtT T c r).Ok) := mtT_ok hx.ok c h0 h1
  clear hx
  have BX : Hid (Bx (w.alloc (.cells #[.int .i64 c, .int .u8 r] 74)) w.heap.size [.int .i64 c, .int .u8 r]) := cap_box w _ _
  have B1 : Hid (Below w.heap.size w (w.alloc (.cells #[.int .i64 c, .int .u8 r] 74))) := below_new _ _
  generalize hg : w.alloc (.cells #[.int .i64 c, .int .u8 r] 74) = w1 at *
  have H1 : Hid (Rt w1 q b a cap T) := H.out.below B1.out
  by_cases hr : r = 0
  · have e1 : mtE T r = 1 := by unfold mtE; rw [if_pos hr]
    have e2 : mtT T c r = T := by unfold mtT; rw [if_pos hr]
    have e3 : mtI T r = 0 := by unfold mtI; rw [if_pos hr]
    rw [e1, e2, e3]
    obtain ⟨q0, q1⟩ := BX.out.two
    have ql := BX.out.lt
    rw [hr] at q1
    clear e1 e2 e3 HO hF hr
    go_enter Try.func67, Try.ntmps67
    go_wp2_with fail
    go_ret2
    exact ⟨rfl, H1.out, Bn.of B1.out⟩
  · by_cases hf : frN T < T.n
    · have e1 : mtE T r = 0 := by unfold mtE; rw [if_neg hr, if_pos hf]
      have e2 : mtT T c r = T.set (frN T) ⟨c, r, (T.at_ (frN T)).g⟩ := by unfold mtT; rw [if_neg hr, if_pos hf]
      have e3 : mtI T r = hdl (T.set (frN T) ⟨c, r, (T.at_ (frN T)).g⟩) (frN T) := by unfold mtI hdl; rw [if_neg hr, if_pos hf, Tb.set_at]
      have hH := fun W (hW : Rt W q b a cap (T.set (frN T) ⟨c, r, (T.at_ (frN T)).g⟩)) => rhandle_any (frN T) W hW hf
      rw [e2] at HO
      rw [e1, e2, e3]
      rw [if_pos hf] at hF
      generalize frN T = i at *
      generalize hdl (T.set i ⟨c, r, (T.at_ i).g⟩) i = hd at *
      have ha := H.out.a (by omega)
      subst ha
      obtain ⟨q0, q1⟩ := BX.out.two
      have ql := BX.out.lt
      have HR : Hid (r ≠ 0) := hr
      have hr2 : (r == 0) = false := by simpa using hr
      clear e1 e2 e3
      go_enter Try.func67, Try.ntmps67
      go_wp2_with fail
      refine (hF _ H1.out).mono ?_
      rintro e w4 ⟨rfl, hb4⟩
      have H4 : Hid (Rt w4 q b _ cap T) := H1.out.below hb4
      have BX4 : Hid (Bx w4 w.heap.size [.int .i64 c, .int .u8 r]) := BX.out.below hb4
      have B4 : Hid (Below w.heap.size w w4) := Below.onto B1.out hb4
      obtain ⟨k0, k1⟩ := BX4.out.two
      have r0 := cell_regrown k0
      have r1 := cell_regrown k1
      have r2 := cell_regrown H4.out.c
      have kl := BX4.out.lt
      have kp := H4.out.lt
      clear hb4 hF hg q0 q1 ql
      go_wp2_with fail
      have x5 := H4.out
      have q0 := x5.t0 i hf
      have q2 := x5.t2 i hf
      have q3 := x5.t3 i hf
      have q5 := x5.c
      have qf := x5.fz (by omega)
      have ql := x5.blt (by omega)
      have n1 : w.heap.size ≠ b := by have := H.out.blt (by omega); omega
      have n2 : q ≠ b := x5.qb
      have n3 := n1.symm
      have n4 := n2.symm
      clear x5 r0 r1 r2
      go_region
      have H6 : Hid (Rt (((w4.setCell ⟨b, i * 4, none⟩ (.bool true)).setCell ⟨b, i * 4 + 2, none⟩ (.int .i64 c)).setCell ⟨b, i * 4 + 2 + 1, none⟩ (.int .u8 r)).drew q b (some ⟨b, 0, none⟩) cap (T.set i ⟨c, r, (T.at_ i).g⟩)) := (H4.out.take hf c r HR.out HO.out).same rfl fun _ => rfl
      have B6 : Hid (Bn T.n b w (((w4.setCell ⟨b, i * 4, none⟩ (.bool true)).setCell ⟨b, i * 4 + 2, none⟩ (.int .i64 c)).setCell ⟨b, i * 4 + 2 + 1, none⟩ (.int .u8 r)).drew) := ((((Bn.of B4.out).set (by omega) _ _).set (by omega) _ _).set (by omega) _ _).drew
      clear q0 q2 q3 q5 qf ql k0 k1 kl kp n1 n2 n3 n4
      generalize (((w4.setCell ⟨b, i * 4, none⟩ (.bool true)).setCell ⟨b, i * 4 + 2, none⟩ (.int .i64 c)).setCell ⟨b, i * 4 + 2 + 1, none⟩ (.int .u8 r)).drew = w6 at *
      go_wp2_with fail
      refine (hH _ H6.out).mono ?_
      rintro e w7 ⟨rfl, hb7⟩
      have HB7 : Hid (Below w6.heap.size w6 w7) := hb7
      clear hb7 hH
      go_wp2_with fail
      go_ret2
      exact ⟨rfl, H6.out.below HB7.out, B6.out.trans (Bn.of HB7.out)⟩
    · have e1 : mtE T r = 110 := by unfold mtE; rw [if_neg hr, if_neg hf]
      have e2 : mtT T c r = T := by unfold mtT; rw [if_neg hr, if_neg hf]
      have e3 : mtI T r = 0 := by unfold mtI; rw [if_neg hr, if_neg hf]
      rw [e1, e2, e3]
      rw [if_neg hf] at hF
      obtain ⟨q0, q1⟩ := BX.out.two
      have ql := BX.out.lt
      have hr2 : (r == 0) = false := by simpa using hr
      clear e1 e2 e3 HO
      go_enter Try.func67, Try.ntmps67
      go_wp2_with fail
      refine (hF _ H1.out).mono ?_
      rintro e w4 ⟨rfl, hb4⟩
      have H4 : Hid (Rt w4 q b a cap T) := H1.out.below hb4
      have B4 : Hid (Below w.heap.size w w4) := Below.onto B1.out hb4
      clear hb4 hF hg q0 q1 ql
      go_wp2_with fail
      go_ret2
      exact ⟨rfl, H4.out, Bn.of B4.out⟩
set_option maxHeartbeats 8000000 in
theorem rlive_any (w : World) (hx : Rt w q b a cap T) :
    Calls Try.prog 36 #[rfV q] w fun e w' => ∃ v, e = .returned v ∧ Hs w' w.heap.size v (lvTo T T.n) ∧ Below w.heap.size w w' := by
  have hn := hx.ok.n32
  have hcp := hx.hc
  have H : Hid (Rt w q b a cap T) := hx
  clear hx
  go_enter Try.func36, Try.ntmps36
  go_wp2_with fail
  go_loopw [3, 4] (fun v t wr => ∃ (u : Value) (k : Nat), u = v ∧ k ≤ T.n ∧ t = .int .i64 k ∧ Hid (Hs wr w.heap.size u (lvTo T k)) ∧ Hid (Below w.heap.size w wr)) (fun _ t _ => T.n - (intOf t).toNat)
  case atStart => exact ⟨_, 0, rfl, Nat.zero_le _, rfl, hs_nil _ _, Below.refl _ _⟩
  case round =>
    obtain ⟨v, k, e3, hk, rfl, hS, hbel⟩ := hrel
    subst e3
    have hx := H.out.below hbel.out
    have c0 := hx.c
    have l1 := hx.lt
    by_cases hlt : k < T.n
    · have ha := hx.a (by omega)
      have q0 := hx.t0 k hlt
      have l2 := hx.blt (by omega)
      have hh := rhandle_any k wr hx hlt
      have hll := lvTo_le T k
      subst ha
      clear hx
      cases hq : takP (T.at_ k)
      · rw [hq] at q0
        have HQ : Hid (lvTo T (k + 1) = lvTo T k) := by show _ = _; simp [lvTo, hq]
        clear hq hh
        go_wp2_with fail
        exact ⟨⟨_, k + 1, rfl, by omega, by go_num, by rw [HQ.out]; exact hS.out, hbel.out⟩, by simp [intOf]; omega⟩
      · rw [hq] at q0
        have HQ : Hid (lvTo T (k + 1) = lvTo T k ++ [hdl T k]) := by show _ = _; simp [lvTo, hq]
        clear hq
        go_wp2_with fail
        refine hh.mono ?_
        rintro e w4 ⟨rfl, hb4⟩
        have S4 := vown_below hS.out hb4
        have B4 : Hid (Below w.heap.size w w4) := Below.onto hbel.out hb4
        clear hb4 hh q0 c0 l1 l2
        obtain ⟨a9, c9, w9, hrun, ho9, hb9, hl9⟩ := hs_app (hdl T k) S4 (by omega) B4.out.size
        have S9 : Hid (Hs w9 w.heap.size (.slice a9 ((lvTo T k).length + 1) c9) (lvTo T (k + 1))) := by show Hs _ _ _ _; rw [HQ.out]; exact ho9
        have B9 : Hid (Below w.heap.size w w9) := B4.out.trans (hb9.below B4.out.size fun g hg => vown_base S4 hg)
        clear hb9 hl9 ho9 S4
        obtain ⟨ta, tc, hv⟩ := vown_form hS.out
        subst hv
        go_wp2_with (at_builtin; refine wpList_append_run rfl (.tmp 22) (.tmp 26) 79 rfl _ _ _ rfl rfl hrun ?_)
        exact ⟨⟨_, k + 1, rfl, by omega, by go_num, S9.out, B9.out⟩, by simp [intOf]; omega⟩
    · obtain rfl : k = T.n := by omega
      clear hx
      go_wp2_with fail
      refine bodyPost_ret (v := v) (by simp [results, Try.results36, go_sem]) rfl ⟨v, rfl, hS.out, hbel.out⟩
end
set_option maxHeartbeats 8000000 in
theorem vsame_any (v u : Value) (B C : Nat) (l : List Int) (w : World) (hl : l.length ≤ 1000) (h1 : Hs w B v l) (h2 : Hs w C u l) :
    Calls Try.prog 34 #[v, u] w fun e w' => e = .returned (.bool true) ∧ Below w.heap.size w w' := by
  obtain ⟨a, ca, rfl⟩ := vown_form h1
  obtain ⟨b, cb, rfl⟩ := vown_form h2
  have H1 : Hid (Hs w B (.slice a l.length ca) l) := h1
  have H2 : Hid (Hs w C (.slice b l.length cb) l) := h2
  clear h1 h2
  obtain ⟨n, hn⟩ : ∃ n, n = l.length := ⟨_, rfl⟩
  have HN : Hid (n = l.length) := hn
  rw [← hn] at hl H1 H2 ⊢
  clear hn
  go_enter Try.func34, Try.ntmps34
  go_wp2_with fail
  go_loopw [5] (fun t wr => ∃ k : Nat, k ≤ n ∧ t = .int .i64 k ∧ Hid (Below w.heap.size w wr)) (fun t _ => n - (intOf t).toNat)
  case atStart => exact ⟨0, Nat.zero_le _, rfl, Below.refl _ _⟩
  case round =>
    obtain ⟨k, hk, rfl, hbel⟩ := hrel
    by_cases hlt : k < n
    · obtain ⟨g1, e1, c1, x1⟩ := Hs.at_ (vown_below H1.out hbel.out) HN.out hlt
      obtain ⟨g2, e2, c2, x2⟩ := Hs.at_ (vown_below H2.out hbel.out) HN.out hlt
      subst e1 e2
      generalize l.getD k 0 = y at *
      have y1 := cell_regrown x1
      have y2 := cell_regrown x2
      have z1 := cell_lt x1
      have z2 := cell_lt x2
      clear x1 x2
      go_wp2_with fail
      refine wp_region_quiet_below (by kernel_rfl) (by kernel_rfl) ?_
      repeat (go_big_quiet_step (fail))
      refine wpQuiet_nil ?_
      intro _ hw'
      obtain ⟨⟨dq, osq⟩, hw''⟩ := hw'
      subst hw''
      have hb := below_regrown wr dq osq
      have HB : Hid (Below w.heap.size w (grow (redrawn wr dq) osq)) := Below.onto hbel.out hb
      clear hb y1 y2 z1 z2
      generalize grow (redrawn wr dq) osq = w3 at *
      go_wp2_with fail
      exact ⟨⟨k + 1, by omega, by go_num, HB.out⟩, by simp [intOf]; omega⟩
    · obtain rfl : k = n := by omega
      go_wp2_with fail
      go_ret
      exact ⟨rfl, hbel.out⟩
end Go.Proofs.Ytimmjhegeagofab
