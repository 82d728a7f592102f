/- A table's Mint, Left, New. -/
import Derived.Test.YtimmjhegeagofacVAct
namespace Go.Proofs.Ytimmjhegeagofac
open Go.RowKit Go.Sort
set_option maxRecDepth 100000

abbrev fnL : Value := .func (.func 18) #[] #[]
set_option maxHeartbeats 2000000 in
theorem tindex_any (p : Nat) (T : Tb) (w : World) (hx : Tx w p T) :
    Calls Try.prog 17 #[rowV p T.n, fnL] w fun e w' => e = .returned (.int .i64 (if frN T < T.n then (frN T : Int) else -1)) ∧ Below w.heap.size w w' := by
  have hn := hx.ok.n32
  have H : Hid (Tx w p T) := hx
  clear hx
  obtain ⟨V, hV⟩ : ∃ V, V = Ending.returned (Value.int .i64 (if frN T < T.n then (frN T : Int) else -1)) := ⟨_, rfl⟩
  have HV : Hid (V = Ending.returned (Value.int .i64 (if frN T < T.n then (frN T : Int) else -1))) := hV
  rw [← hV]
  clear hV
  go_enter Try.func17, Try.ntmps17
  go_wp2_with fail
  go_loopw [8] (fun t wr => ∃ k : Nat, k ≤ T.n ∧ t = .int .i64 k ∧ Hid (∀ j, j < k → lefP (T.at_ j) = false) ∧ Hid (Below w.heap.size w wr)) (fun t _ => T.n - (intOf t).toNat)
  case atStart => exact ⟨0, Nat.zero_le _, rfl, fun j hj => absurd hj (by omega), Below.refl _ _⟩
  case round =>
    obtain ⟨k, hk, rfl, hall, hbel⟩ := hrel
    by_cases hlt : k < T.n
    · have hx := H.out.below hbel.out
      have q0 := hx.pc k (by omega)
      have q1 := hx.pr k (by omega)
      have q2 := hx.pg k (by omega)
      have ql := hx.lt
      have hc := left_any (T.at_ k) wr
      clear hx
      cases hq : lefP (T.at_ k)
      · rw [hq] at hc
        have HQ : Hid (lefP (T.at_ k) = false) := hq
        clear hq
        go_wp2_with fail
        refine hc.mono ?_
        rintro e w1 ⟨rfl, hb1⟩
        have HB1 : Hid (Below wr.heap.size wr w1) := hb1
        clear hb1 q0 q1 q2 ql hc
        go_wp2_with fail
        refine ⟨⟨k + 1, by omega, by go_num, ?_, Below.onto hbel.out HB1.out⟩, by simp [intOf]; omega⟩
        intro j hj
        by_cases e : j = k
        · subst e; exact HQ.out
        · exact hall.out j (by omega)
      · rw [hq] at hc
        have HQ : Hid (lefP (T.at_ k) = true) := hq
        clear hq
        go_wp2_with fail
        refine hc.mono ?_
        rintro e w1 ⟨rfl, hb1⟩
        have HB1 : Hid (Below wr.heap.size wr w1) := hb1
        clear hb1 q0 q1 q2 ql hc
        go_wp2_with fail
        go_ret
        have e1 : frN T = k := frTo_at hlt hall.out HQ.out
        rw [HV.out, e1, if_pos hlt]
        exact ⟨rfl, Below.onto hbel.out HB1.out⟩
    · obtain rfl : k = T.n := by omega
      go_wp2_with fail
      go_ret
      have e1 : frN T = T.n := frTo_same hall.out
      rw [HV.out, e1, if_neg (by omega)]
      exact ⟨rfl, hbel.out⟩
set_option maxHeartbeats 4000000 in
theorem tmint_any (p : Nat) (c r : Int) (T : Tb) (w : World) (hx : Tx w p T) (h0 : 0 ≤ r) (h1 : r < 256) :
    Calls Try.prog 9 #[tbV p, .agg #[.int .i64 c, .int .u8 r]] w fun e w' => e = .returned (.tuple #[.int .u32 (mtI T r), .int .i64 (mtE T r)]) ∧ Tx w' p (mtT T c r) ∧ Bt p w w' := by
  have hI := fun W (hW : Tx W p T) => tis_any p T W hW
  have hR := fun W (hW : Tx W p T) => trow_any p T W hW
  have hF := fun W (hW : Tx W p T) => tindex_any p T W hW
  have H : Hid (Tx w p T) := hx
  have hn := hx.ok.n32
  have HO : Hid ((mtT T c r).Ok) := mtT_ok hx.ok c h0 h1
  have HL : Hid (frN T < T.n → T.n ≤ 32) := fun _ => hn
  clear hx
  have BX : Hid (Bx (w.alloc (.cells #[.int .i64 c, .int .u8 r] 30)) w.heap.size [.int .i64 c, .int .u8 r]) := cap_box w _ _
  have B1 : Hid (Below w.heap.size w (w.alloc (.cells #[.int .i64 c, .int .u8 r] 30))) := below_new _ _
  generalize hg : w.alloc (.cells #[.int .i64 c, .int .u8 r] 30) = w1 at *
  have H1 : Hid (Tx w1 p T) := H.out.below B1.out
  by_cases hr : r = 0
  · have e1 : mtE T r = 1 := by unfold mtE; rw [if_pos hr]
    have e2 : mtT T c r = T := by unfold mtT; rw [if_pos hr]
    have e3 : mtI T r = 0 := by unfold mtI; rw [if_pos hr]
    rw [e1, e2, e3]
    obtain ⟨q0, q1⟩ := BX.out.two
    have ql := BX.out.lt
    rw [hr] at q1
    clear e1 e2 e3 HO hR hF hr
    go_enter Try.func9, Try.ntmps9
    go_wp2_with fail
    refine (hI _ H1.out).mono ?_
    rintro e w2 ⟨rfl, hw2⟩
    subst hw2
    go_wp2_with fail
    go_ret2
    exact ⟨rfl, H1.out, Bt.of B1.out⟩
  · by_cases hf : frN T < T.n
    · have e1 : mtE T r = 0 := by unfold mtE; rw [if_neg hr, if_pos hf]
      have e2 : mtT T c r = T.set (frN T) ⟨c, r, (T.at_ (frN T)).g⟩ := by unfold mtT; rw [if_neg hr, if_pos hf]
      have e3 : mtI T r = hdl (T.set (frN T) ⟨c, r, (T.at_ (frN T)).g⟩) (frN T) := by unfold mtI hdl; rw [if_neg hr, if_pos hf, Tb.set_at]
      have hH := fun W (hW : Tx W p (T.set (frN T) ⟨c, r, (T.at_ (frN T)).g⟩)) => handle_any p (frN T) (T.set (frN T) ⟨c, r, (T.at_ (frN T)).g⟩) W hW (by omega)
      rw [e2] at HO
      rw [e1, e2, e3]
      rw [if_pos hf] at hF
      generalize frN T = i at *
      generalize hdl (T.set i ⟨c, r, (T.at_ i).g⟩) i = hd at *
      obtain ⟨q0, q1⟩ := BX.out.two
      have ql := BX.out.lt
      have c6 : Try.prog.arrayLen 49 = 32 := by kernel_rfl
      have hr2 : (r == 0) = false := by simpa using hr
      clear e1 e2 e3
      go_enter Try.func9, Try.ntmps9
      go_wp2_with fail
      refine (hI _ H1.out).mono ?_
      rintro e w2 ⟨rfl, hw2⟩
      subst hw2
      go_wp2_with fail
      refine (hR _ H1.out).mono ?_
      rintro e w3 ⟨rfl, hb3⟩
      have H3 : Hid (Tx w3 p T) := H1.out.below hb3
      have BX3 : Hid (Bx w3 w.heap.size [.int .i64 c, .int .u8 r]) := BX.out.below hb3
      have B3 : Hid (Below w.heap.size w w3) := Below.onto B1.out hb3
      clear hb3 hR hI q0 q1 ql hg
      go_wp2_with fail
      refine (hF _ H3.out).mono ?_
      rintro e w4 ⟨rfl, hb4⟩
      have H4 : Hid (Tx w4 p T) := H3.out.below hb4
      have BX4 : Hid (Bx w4 w.heap.size [.int .i64 c, .int .u8 r]) := BX3.out.below hb4
      have B4 : Hid (Below w.heap.size w w4) := Below.onto B3.out hb4
      obtain ⟨k0, k1⟩ := BX4.out.two
      have r0 := cell_regrown k0
      have r1 := cell_regrown k1
      have kl := BX4.out.lt
      have kp := H4.out.lt
      clear hb4 hF
      go_wp2_with fail
      refine wp_region_quiet_last (by simp) (by kernel_rfl) (by kernel_rfl) (by kernel_rfl) ?_
      dsimp only [List.dropLast, List.getLast]
      repeat (go_big_quiet_step (fail))
      refine wpQuiet_nil ?_
      intro _ hw'
      obtain ⟨⟨dq, osq⟩, hw''⟩ := hw'
      subst hw''
      have hb5 := below_regrown w4 dq osq
      have x5 := H4.out.below hb5
      have B5 : Hid (Below w.heap.size w (grow (redrawn w4 dq) osq)) := Below.onto B4.out hb5
      clear k0 k1 r0 r1 kl kp hb5
      generalize grow (redrawn w4 dq) osq = w5 at *
      have H5 : Hid (Tx w5 p T) := x5
      have q0 := x5.pc i (by omega)
      have q1 := x5.pr i (by omega)
      have q2 := x5.pg i (by omega)
      have qf := x5.fz
      have ql := x5.lt
      clear x5
      intro K hK
      go_simp
      refine hK _ _ ?_
      clear hK q0 q1 q2 qf ql
      have H6 : Hid (Tx ((w5.setCell ⟨p, 2 + i * 3, none⟩ (.int .i64 c)).setCell ⟨p, 2 + i * 3 + 1, none⟩ (.int .u8 r)) p (T.set i ⟨c, r, (T.at_ i).g⟩)) := H5.out.putC (by omega) c r HO.out
      have B6 : Hid (Bt p w ((w5.setCell ⟨p, 2 + i * 3, none⟩ (.int .i64 c)).setCell ⟨p, 2 + i * 3 + 1, none⟩ (.int .u8 r))) := ((Bt.of B5.out).set _ _).set _ _
      generalize (w5.setCell ⟨p, 2 + i * 3, none⟩ (.int .i64 c)).setCell ⟨p, 2 + i * 3 + 1, none⟩ (.int .u8 r) = w6 at *
      go_wp2_with fail
      refine (hH _ H6.out).mono ?_
      rintro e w7 ⟨rfl, hb7⟩
      have HB7 : Hid (Below w6.heap.size w6 w7) := hb7
      clear hb7 hH
      go_wp2_with fail
      go_ret2
      exact ⟨rfl, H6.out.below HB7.out, B6.out.trans (Bt.of HB7.out)⟩
    · have e1 : mtE T r = 110 := by unfold mtE; rw [if_neg hr, if_neg hf]
      have e2 : mtT T c r = T := by unfold mtT; rw [if_neg hr, if_neg hf]
      have e3 : mtI T r = 0 := by unfold mtI; rw [if_neg hr, if_neg hf]
      rw [e1, e2, e3]
      rw [if_neg hf] at hF
      obtain ⟨q0, q1⟩ := BX.out.two
      have ql := BX.out.lt
      have hr2 : (r == 0) = false := by simpa using hr
      clear e1 e2 e3 HO
      go_enter Try.func9, Try.ntmps9
      go_wp2_with fail
      refine (hI _ H1.out).mono ?_
      rintro e w2 ⟨rfl, hw2⟩
      subst hw2
      go_wp2_with fail
      refine (hR _ H1.out).mono ?_
      rintro e w3 ⟨rfl, hb3⟩
      have H3 : Hid (Tx w3 p T) := H1.out.below hb3
      have B3 : Hid (Below w.heap.size w w3) := Below.onto B1.out hb3
      clear hb3 hR hI q0 q1 ql hg
      go_wp2_with fail
      refine (hF _ H3.out).mono ?_
      rintro e w4 ⟨rfl, hb4⟩
      have H4 : Hid (Tx w4 p T) := H3.out.below hb4
      have B4 : Hid (Below w.heap.size w w4) := Below.onto B3.out hb4
      clear hb4 hF
      go_wp2_with fail
      go_ret2
      exact ⟨rfl, H4.out, Bt.of B4.out⟩
set_option maxHeartbeats 4000000 in
theorem tleft_any (p : Nat) (T : Tb) (w : World) (hx : Tx w p T) :
    Calls Try.prog 13 #[tbV p] w fun e w' => e = .returned (.int .i64 (lfTo T T.n : Int)) ∧ Below w.heap.size w w' := by
  have hR := fun W (hW : Tx W p T) => trow_any p T W hW
  have hn := hx.ok.n32
  have H : Hid (Tx w p T) := hx
  clear hx
  go_enter Try.func13, Try.ntmps13
  go_wp2_with fail
  refine (hR _ H.out).mono ?_
  rintro e w1 ⟨rfl, hb1⟩
  have B1 : Hid (Below w.heap.size w w1) := hb1
  clear hb1 hR
  go_wp2_with fail
  go_loopw [3, 5, 9] (fun n _ t wr => ∃ k : Nat, k ≤ T.n ∧ t = .int .i64 k ∧ n = .int .i64 (lfTo T k : Int) ∧ Hid (Below w.heap.size w wr)) (fun _ _ t _ => T.n - (intOf t).toNat)
  case atStart => exact ⟨0, Nat.zero_le _, rfl, rfl, B1.out⟩
  case round =>
    obtain ⟨k, hk, rfl, rfl, hbel⟩ := hrel
    by_cases hlt : k < T.n
    · have hx := H.out.below hbel.out
      have q0 := hx.pc k (by omega)
      have q1 := hx.pr k (by omega)
      have q2 := hx.pg k (by omega)
      have ql := hx.lt
      have hlf := lfTo_le T k
      have hc := fun W => left_any (T.at_ k) W
      clear hx
      cases hq : lefP (T.at_ k)
      · rw [hq] at hc
        have HQ : Hid (lfTo T (k + 1) = lfTo T k) := by show _ = _; simp [lfTo, hq]
        clear hq
        go_wp2_with fail
        refine (hc _).mono ?_
        rintro e w2 ⟨rfl, hb2⟩
        have HB2 : Hid (Below w.heap.size w w2) := Below.onto (Below.onto hbel.out (below_new _ _)) hb2
        clear hb2 q0 q1 q2 ql hc
        go_wp2_with fail
        exact ⟨⟨k + 1, by omega, by go_num, by rw [HQ.out], HB2.out⟩, by simp [intOf]; omega⟩
      · rw [hq] at hc
        have HQ : Hid (lfTo T (k + 1) = lfTo T k + 1) := by show _ = _; simp [lfTo, hq]
        clear hq
        go_wp2_with fail
        refine (hc _).mono ?_
        rintro e w2 ⟨rfl, hb2⟩
        have HB2 : Hid (Below w.heap.size w w2) := Below.onto (Below.onto hbel.out (below_new _ _)) hb2
        clear hb2 q0 q1 q2 ql hc
        go_wp2_with fail
        exact ⟨⟨k + 1, by omega, by go_num, by rw [HQ.out]; go_num, HB2.out⟩, by simp [intOf]; omega⟩
    · obtain rfl : k = T.n := by omega
      go_wp2_with fail
      go_ret
      exact ⟨rfl, hbel.out⟩
theorem newTb_at {n i : Nat} (h : i < n) : (newTb n).at_ i = ⟨0, 0, 1⟩ := by simp [newTb, h]
set_option maxHeartbeats 4000000 in
theorem tnew_bad (n : Int) (w : World) (hn : n < 0 ∨ 32 < n) : Calls Try.prog 7 #[.int .i64 n] w fun e w' => e = .returned (.tuple #[.pointer none, .int .i64 1]) ∧ w' = w := by
  by_cases h : n < 0
  · go_enter Try.func7, Try.ntmps7
    go_wp2
    go_ret2
    exact ⟨rfl, rfl⟩
  · have h' : 32 < n := by omega
    go_enter Try.func7, Try.ntmps7
    go_wp2
    go_ret2
    exact ⟨rfl, rfl⟩
def isZ : Option Value → Bool
  | some (.int .i64 x) => x == 0
  | _ => false
def isZ8 : Option Value → Bool
  | some (.int .u8 x) => x == 0
  | _ => false
theorem isZ_of {o : Option Value} (h : isZ o = true) : o = some (.int .i64 0) := by
  unfold isZ at h
  split at h
  · next x => obtain rfl : x = 0 := by simpa using h
              rfl
  · cases h
theorem isZ8_of {o : Option Value} (h : isZ8 o = true) : o = some (.int .u8 0) := by
  unfold isZ8 at h
  split at h
  · next x => obtain rfl : x = 0 := by simpa using h
              rfl
  · cases h
/-- a table's cells when it is made -/
def zcT : Array Value := ([Value.bool false, Value.int .i64 0] ++ (List.replicate 32 [Value.int .i64 0, .int .u8 0, .int .i64 0]).flatten).toArray
theorem zcT_run (w : World) : (zeroValue 51).run Try.prog w = .ok (.agg zcT) w := by kernel_rfl
theorem zcT_size : zcT.size = 98 := by kernel_rfl
/-- while New makes it: the first k places have their generation -/
structure Tn (w : World) (p n k : Nat) : Prop where
  c0 : w.cell? ⟨p, 0, none⟩ = some (.bool true)
  c1 : w.cell? ⟨p, 1, none⟩ = some (.int .i64 (n : Int))
  pc : ∀ i, i < 32 → w.cell? ⟨p, 2 + i * 3, none⟩ = some (.int .i64 0)
  pr : ∀ i, i < 32 → w.cell? ⟨p, 2 + i * 3 + 1, none⟩ = some (.int .u8 0)
  pg : ∀ i, i < 32 → w.cell? ⟨p, 2 + i * 3 + 2, none⟩ = some (.int .i64 (if i < k then 1 else 0))
  fz : ∀ i, w.frozen? ⟨p, i, none⟩ = false
theorem Tn.same {w w' : World} {p n k : Nat} (h : Tn w p n k) (hb : w'.heap[p]? = w.heap[p]?) : Tn w' p n k := by
  have hc : ∀ i, w'.cell? ⟨p, i, none⟩ = w.cell? ⟨p, i, none⟩ := fun i => World.cell?_of_block (w := w) (a := ⟨p, i, none⟩) hb
  have hf : ∀ i, w'.frozen? ⟨p, i, none⟩ = w.frozen? ⟨p, i, none⟩ := fun i => World.frozen?_of_block (w := w) (a := ⟨p, i, none⟩) hb
  exact ⟨(hc _).trans h.c0, (hc _).trans h.c1, fun i hi => (hc _).trans (h.pc i hi), fun i hi => (hc _).trans (h.pr i hi), fun i hi => (hc _).trans (h.pg i hi), fun i => (hf i).trans (h.fz i)⟩
theorem Tn.next {w : World} {p n k : Nat} (h : Tn w p n k) (hk : k < 32) : Tn (w.setCell ⟨p, 2 + k * 3 + 2, none⟩ (.int .i64 1)) p n (k + 1) := by
  refine ⟨?_, ?_, fun j hj => ?_, fun j hj => ?_, fun j hj => ?_, fun j => ?_⟩
  · rw [cell_set_ne (.inr (by omega))]; exact h.c0
  · rw [cell_set_ne (.inr (by omega))]; exact h.c1
  · rw [cell_set_ne (.inr (by omega))]; exact h.pc j hj
  · rw [cell_set_ne (.inr (by omega))]; exact h.pr j hj
  · by_cases e : j = k
    · subst e
      rw [cell_set_eq (h.pg j hj), if_pos (by omega)]
    · rw [cell_set_ne (.inr (by omega)), h.pg j hj]
      by_cases e2 : j < k
      · rw [if_pos e2, if_pos (by omega)]
      · rw [if_neg e2, if_neg (by omega)]
  · rw [fz_set]; exact h.fz j
theorem Tn.done {w : World} {p n : Nat} (h : Tn w p n n) (hn : n ≤ 32) : Tx w p (newTb n) := by
  have e : ∀ i, (newTb n).at_ i = ⟨0, 0, if i < n then 1 else 0⟩ := fun i => by
    by_cases h : i < n
    · simp [newTb, h]
    · simp [newTb, h, pc0]
  exact ⟨h.c0, h.c1, fun i hi => by rw [e]; exact h.pc i hi, fun i hi => by rw [e]; exact h.pr i hi, fun i hi => by rw [e]; exact h.pg i hi, h.fz, newTb_ok hn⟩
theorem tab_zero : (List.range 32).all (fun i => isZ zcT[2 + i * 3]? && isZ8 zcT[2 + i * 3 + 1]? && isZ zcT[2 + i * 3 + 2]?) = true := by kernel_rfl
set_option maxHeartbeats 4000000 in
theorem tnew_any (n : Nat) (w : World) (hn : n ≤ 32) : Calls Try.prog 7 #[.int .i64 (n : Int)] w fun e w' => e = .returned (.tuple #[tbV w.heap.size, .int .i64 0]) ∧ Tx w' w.heap.size (newTb n) ∧ Below w.heap.size w w' := by
  have hR := fun W c0 c1 => trow_at w.heap.size n W hn c0 c1
  have c6 : Try.prog.arrayLen 49 = 32 := by kernel_rfl
  have hz := zcT_size
  have ht : Hid _ := tab_zero
  have hzr := zcT_run
  generalize zcT = zc at *
  have hz2 : ¬ zc = #[] := by intro e; rw [e] at hz; simp at hz
  go_enter Try.func7, Try.ntmps7
  go_wp2_with fail
  have HT : Hid (Tn (w.alloc (.cells ((zc.setIfInBounds 0 (.bool true)).setIfInBounds 1 (.int .i64 (n : Int))) 51)) w.heap.size n 0) := by
    have hbl := gheap_new w (.cells ((zc.setIfInBounds 0 (.bool true)).setIfInBounds 1 (.int .i64 (n : Int))) 51)
    have hh : ∀ i, i < 32 → zc[2 + i * 3]? = some (.int .i64 0) ∧ zc[2 + i * 3 + 1]? = some (.int .u8 0) ∧ zc[2 + i * 3 + 2]? = some (.int .i64 0) := fun i hi => by
      have := List.all_eq_true.1 ht.out i (by simpa using hi)
      simp only [Bool.and_eq_true] at this
      exact ⟨isZ_of this.1.1, isZ8_of this.1.2, isZ_of this.2⟩
    refine ⟨?_, ?_, fun i hi => ?_, fun i hi => ?_, fun i hi => ?_, fun i => frozen_of_row _ _ i _ _ hbl⟩
    · rw [cell_of_row _ _ _ _ 51 (0, 0) hbl]; simp [hz]
    · rw [cell_of_row _ _ _ _ 51 (0, 0) hbl]; simp [hz]
    · rw [cell_of_row _ _ _ _ 51 (0, 0) hbl, Array.getElem?_setIfInBounds_ne (by omega), Array.getElem?_setIfInBounds_ne (by omega)]; exact (hh i hi).1
    · rw [cell_of_row _ _ _ _ 51 (0, 0) hbl, Array.getElem?_setIfInBounds_ne (by omega), Array.getElem?_setIfInBounds_ne (by omega)]; exact (hh i hi).2.1
    · rw [cell_of_row _ _ _ _ 51 (0, 0) hbl, Array.getElem?_setIfInBounds_ne (by omega), Array.getElem?_setIfInBounds_ne (by omega)]; exact (hh i hi).2.2
  have HB : Hid (Below w.heap.size w (w.alloc (.cells ((zc.setIfInBounds 0 (.bool true)).setIfInBounds 1 (.int .i64 (n : Int))) 51))) := below_new _ _
  clear ht hz hzr hz2
  generalize w.alloc (.cells ((zc.setIfInBounds 0 (.bool true)).setIfInBounds 1 (.int .i64 (n : Int))) 51) = w1 at *
  refine (hR _ HT.out.c0 HT.out.c1).mono ?_
  rintro e w2 ⟨rfl, hb2⟩
  have HT2 : Hid (Tn w2 w.heap.size n 0) := HT.out.same (hb2.block _ (cell_lt HT.out.c0))
  have HB2 : Hid (Below w.heap.size w w2) := Below.onto HB.out hb2
  clear hb2 hR
  go_wp2_with fail
  go_loopw [18] (fun t wr => ∃ k : Nat, k ≤ n ∧ t = .int .i64 k ∧ Hid (Tn wr w.heap.size n k) ∧ Hid (Below w.heap.size w wr)) (fun t _ => n - (intOf t).toNat)
  case atStart => exact ⟨0, Nat.zero_le _, rfl, HT2.out, HB2.out⟩
  case round =>
    obtain ⟨k, hk, rfl, ht, hbel⟩ := hrel
    by_cases hlt : k < n
    · have q2 := ht.out.pg k (by omega)
      rw [if_neg (by omega)] at q2
      have qf := ht.out.fz
      have ql := cell_lt q2
      go_wp2_with fail
      exact ⟨⟨k + 1, by omega, by go_num, ht.out.next (by omega), hbel.out.setCell (Nat.le_refl _) _⟩, by simp [intOf]; omega⟩
    · obtain rfl : k = n := by omega
      go_wp2_with fail
      go_ret2
      exact ⟨rfl, ht.out.done hn, hbel.out⟩
end Go.Proofs.Ytimmjhegeagofac
