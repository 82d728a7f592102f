/- The document's table: reads. -/
import Derived.Test.YtimmjhegeagofabVHas
namespace Go.Proofs.Ytimmjhegeagofab
open Go.RowKit Go.Sort
set_option maxRecDepth 100000

/-- the document's table: in block q, its places in block b -/
structure Rt (w : World) (q b : Nat) (a : Option Addr) (cap : Nat) (T : Tb) : Prop where
  c : w.cell? ⟨q, 0, none⟩ = some (.slice a T.n cap)
  a : 0 < T.n → a = some ⟨b, 0, none⟩
  hc : T.n ≤ cap
  t0 : ∀ i, i < T.n → w.cell? ⟨b, i * 4, none⟩ = some (.bool (takP (T.at_ i)))
  t1 : ∀ i, i < T.n → w.cell? ⟨b, i * 4 + 1, none⟩ = some (.int .i64 (T.at_ i).g)
  t2 : ∀ i, i < T.n → w.cell? ⟨b, i * 4 + 2, none⟩ = some (.int .i64 (T.at_ i).c)
  t3 : ∀ i, i < T.n → w.cell? ⟨b, i * 4 + 3, none⟩ = some (.int .u8 (T.at_ i).r)
  fz : 0 < T.n → ∀ i, w.frozen? ⟨b, i, none⟩ = false
  qb : q ≠ b
  ok : T.Ok
section
variable {w w' : World} {q b cap : Nat} {a : Option Addr} {T : Tb}
theorem Rt.lt (h : Rt w q b a cap T) : q < w.heap.size := cell_lt h.c
theorem Rt.blt (h : Rt w q b a cap T) (hn : 0 < T.n) : b < w.heap.size := cell_lt (h.t0 0 hn)
theorem Rt.same (h : Rt w q b a cap T) (hq : w'.heap[q]? = w.heap[q]?) (hb : 0 < T.n → w'.heap[b]? = w.heap[b]?) : Rt w' q b a cap T := by
  have hc : ∀ i, w'.cell? ⟨q, i, none⟩ = w.cell? ⟨q, i, none⟩ := fun i => World.cell?_of_block (w := w) (a := ⟨q, i, none⟩) hq
  have hd : 0 < T.n → ∀ i, w'.cell? ⟨b, i, none⟩ = w.cell? ⟨b, i, none⟩ := fun h i => World.cell?_of_block (w := w) (a := ⟨b, i, none⟩) (hb h)
  have hf : 0 < T.n → ∀ i, w'.frozen? ⟨b, i, none⟩ = w.frozen? ⟨b, i, none⟩ := fun h i => World.frozen?_of_block (w := w) (a := ⟨b, i, none⟩) (hb h)
  exact ⟨(hc _).trans h.c, h.a, h.hc, fun i hi => (hd (by omega) _).trans (h.t0 i hi), fun i hi => (hd (by omega) _).trans (h.t1 i hi), fun i hi => (hd (by omega) _).trans (h.t2 i hi), fun i hi => (hd (by omega) _).trans (h.t3 i hi), fun hn i => (hf hn i).trans (h.fz hn i), h.qb, h.ok⟩
theorem Rt.below (h : Rt w q b a cap T) (hb : Below w.heap.size w w') : Rt w' q b a cap T := h.same (hb.block q h.lt) fun hn => hb.block b (h.blt hn)
theorem Rt.but {S : Nat → Prop} (h : Rt w q b a cap T) (hb : But S w w') (h1 : ¬ S q) (h2 : 0 < T.n → ¬ S b) : Rt w' q b a cap T := h.same (hb.block q h.lt h1) fun hn => hb.block b (h.blt hn) (h2 hn)
end
abbrev rfV (q : Nat) : Value := .pointer (some ⟨q, 0, none⟩)
section
variable {q b cap : Nat} {a : Option Addr} {T : Tb}
set_option maxHeartbeats 4000000 in
theorem rhandle_any (i : Nat) (w : World) (h : Rt w q b a cap T) (hi : i < T.n) : Calls Try.prog 72 #[rfV q, .int .i64 (i : Int)] w fun e w' => e = .returned (.int .u32 (hdl T i)) ∧ Below w.heap.size w w' := by
  have hn := h.ok.n32
  have ha := h.a (by omega)
  have hr := h.ok.r i
  have cH := regrown_call (w := w) (f := 85) (args := #[.int .i64 (i : Int), .int .i64 (T.at_ i).r, .int .i64 (T.at_ i).g]) (v := .tuple #[.int .u32 (hdl T i), .int .i64 (errI (handB (i : Int) (T.at_ i).r (T.at_ i).g))]) (fun W _ => (rhand_any (i : Int) (T.at_ i).r (T.at_ i).g W).mono (by rintro e w' ⟨rfl, rfl⟩; exact ⟨rfl, Below.refl _ _⟩))
  subst ha
  have c0 := cell_regrown h.c
  have c1 := cell_regrown (h.t1 i hi)
  have c3 := cell_regrown (h.t3 i hi)
  have l1 := h.lt
  have l2 := h.blt (by omega)
  have hcp := h.hc
  clear h
  generalize hdl T i = hd at *
  generalize errI (handB (i : Int) (T.at_ i).r (T.at_ i).g) = er at *
  go_enter Try.func72, Try.ntmps72
  go_wp2_with fail
  refine wp_region_quiet_below (by kernel_rfl) (by kernel_rfl) ?_
  repeat (go_big_quiet_step (with_reducible exact cH _ _))
  refine wpQuiet_nil ?_
  intro _ hw'
  obtain ⟨⟨dq, osq⟩, hw''⟩ := hw'
  subst hw''
  have hb := below_regrown w dq osq
  clear c0 c1 c3 cH
  generalize grow (redrawn w dq) osq = w3 at *
  go_wp2_with fail
  go_ret
  exact ⟨rfl, hb⟩
set_option maxHeartbeats 4000000 in
theorem rfree_any (w : World) (h : Rt w q b a cap T) : Calls Try.prog 83 #[rfV q] w fun e w' => e = .returned (.int .i64 (if frN T < T.n then (frN T : Int) else -1)) ∧ Below w.heap.size w w' := by
  have hn := h.ok.n32
  have H : Hid (Rt w q b a cap T) := h
  have hcp := h.hc
  clear h
  obtain ⟨V, hV⟩ : ∃ V, V = Ending.returned (Value.int .i64 (if frN T < T.n then (frN T : Int) else -1)) := ⟨_, rfl⟩
  have HV : Hid (V = Ending.returned (Value.int .i64 (if frN T < T.n then (frN T : Int) else -1))) := hV
  rw [← hV]
  clear hV
  go_enter Try.func83, Try.ntmps83
  go_wp2_with fail
  go_loopw [3] (fun t wr => ∃ k : Nat, k ≤ T.n ∧ t = .int .i64 k ∧ Hid (∀ j, j < k → lefP (T.at_ j) = false) ∧ Hid (Below w.heap.size w wr)) (fun t _ => T.n - (intOf t).toNat)
  case atStart => exact ⟨0, Nat.zero_le _, rfl, fun j hj => absurd hj (by omega), Below.refl _ _⟩
  case round =>
    obtain ⟨k, hk, rfl, hall, hw⟩ := hrel
    have hx := H.out.below hw.out
    have c0 := hx.c
    have l1 := hx.lt
    by_cases hlt : k < T.n
    · have ha := hx.a (by omega)
      have q0 := hx.t0 k hlt
      have q1 := hx.t1 k hlt
      have l2 := hx.blt (by omega)
      subst ha
      clear hx
      cases ht : takP (T.at_ k)
      · rw [ht] at q0
        by_cases hg : (T.at_ k).g ≤ 65535
        · have HQ : Hid (lefP (T.at_ k) = true) := by show _ = _; simp [lefP, hg]; simpa [takP] using ht
          clear ht
          go_wp2_with fail
          go_ret
          have e1 : frN T = k := frTo_at hlt hall.out HQ.out
          rw [HV.out, e1, if_pos hlt]
          exact ⟨rfl, hw.out⟩
        · have HQ : Hid (lefP (T.at_ k) = false) := by show _ = _; simp [lefP, hg]
          have hg2 : 65535 < (T.at_ k).g := by omega
          clear ht
          go_wp2_with fail
          refine ⟨⟨k + 1, by omega, by go_num, ?_, hw.out⟩, by simp [intOf]; omega⟩
          intro j hj
          by_cases e : j = k
          · subst e; exact HQ.out
          · exact hall.out j (by omega)
      · rw [ht] at q0
        have hr0 : (T.at_ k).r ≠ 0 := by simpa [takP] using ht
        have HQ : Hid (lefP (T.at_ k) = false) := by show _ = _; simp [lefP, hr0]
        clear hr0
        clear ht
        go_wp2_with fail
        refine ⟨⟨k + 1, by omega, by go_num, ?_, hw.out⟩, by simp [intOf]; omega⟩
        intro j hj
        by_cases e : j = k
        · subst e; exact HQ.out
        · exact hall.out j (by omega)
    · obtain rfl : k = T.n := by omega
      clear hx
      go_wp2_with fail
      go_ret
      have e1 : frN T = T.n := frTo_same hall.out
      rw [HV.out, e1, if_neg (by omega)]
      exact ⟨rfl, hw.out⟩
set_option maxHeartbeats 4000000 in
theorem rleft_any (w : World) (h : Rt w q b a cap T) : Calls Try.prog 33 #[rfV q] w fun e w' => e = .returned (.int .i64 (lfTo T T.n : Int)) ∧ Below w.heap.size w w' := by
  have hn := h.ok.n32
  have H : Hid (Rt w q b a cap T) := h
  have hcp := h.hc
  clear h
  go_enter Try.func33, Try.ntmps33
  go_wp2_with fail
  go_loopw [3, 4] (fun x t wr => ∃ k : Nat, k ≤ T.n ∧ x = .int .i64 (lfTo T k : Int) ∧ t = .int .i64 k ∧ Hid (Below w.heap.size w wr)) (fun _ t _ => T.n - (intOf t).toNat)
  case atStart => exact ⟨0, Nat.zero_le _, rfl, rfl, Below.refl _ _⟩
  case round =>
    obtain ⟨k, hk, rfl, rfl, hw⟩ := hrel
    have hx := H.out.below hw.out
    have c0 := hx.c
    have l1 := hx.lt
    have hlf := lfTo_le T k
    by_cases hlt : k < T.n
    · have ha := hx.a (by omega)
      have q0 := hx.t0 k hlt
      have q1 := hx.t1 k hlt
      have l2 := hx.blt (by omega)
      subst ha
      clear hx
      cases ht : takP (T.at_ k)
      · rw [ht] at q0
        by_cases hg : (T.at_ k).g ≤ 65535
        · have hr0 : (T.at_ k).r = 0 := by simpa [takP] using ht
          have HQ : Hid (lfTo T (k + 1) = lfTo T k + 1) := by show _ = _; simp [lfTo, lefP, hg, hr0]
          clear ht hr0
          go_wp2_with fail
          exact ⟨⟨k + 1, by omega, by rw [HQ.out]; go_num, by go_num, hw.out⟩, by simp [intOf]; omega⟩
        · have HQ : Hid (lfTo T (k + 1) = lfTo T k) := by show _ = _; simp [lfTo, lefP, hg]
          have hg2 : 65535 < (T.at_ k).g := by omega
          clear ht
          go_wp2_with fail
          exact ⟨⟨k + 1, by omega, by rw [HQ.out], by go_num, hw.out⟩, by simp [intOf]; omega⟩
      · rw [ht] at q0
        have hr0 : (T.at_ k).r ≠ 0 := by simpa [takP] using ht
        have HQ : Hid (lfTo T (k + 1) = lfTo T k) := by show _ = _; simp [lfTo, lefP, hr0]
        clear ht hr0
        go_wp2_with fail
        exact ⟨⟨k + 1, by omega, by rw [HQ.out], by go_num, hw.out⟩, by simp [intOf]; omega⟩
    · obtain rfl : k = T.n := by omega
      clear hx
      go_wp2_with fail
      go_ret
      exact ⟨rfl, hw.out⟩
set_option maxHeartbeats 4000000 in
theorem rplace_any (h : Int) (w : World) (hR : Rt w q b a cap T) : Calls Try.prog 73 #[rfV q, .int .u32 h] w fun e w' => e = .returned (.int .i64 (if tkh T h then (plc h : Int) else -1)) ∧ Below w.heap.size w w' := by
  have hn := hR.ok.n32
  have H : Hid (Rt w q b a cap T) := hR
  have hcp := hR.hc
  clear hR
  obtain ⟨V, hV⟩ : ∃ V, V = Ending.returned (Value.int .i64 (if tkh T h then (plc h : Int) else -1)) := ⟨_, rfl⟩
  have HV : Hid (V = Ending.returned (Value.int .i64 (if tkh T h then (plc h : Int) else -1))) := hV
  rw [← hV]
  clear hV
  go_enter Try.func73, Try.ntmps73
  go_wp2_with fail
  go_loopw [5] (fun t wr => ∃ k : Nat, k ≤ T.n ∧ t = .int .i64 k ∧ Hid (∀ j, j < k → ¬ (takP (T.at_ j) = true ∧ hdl T j = h)) ∧ Hid (Below w.heap.size w wr)) (fun t _ => T.n - (intOf t).toNat)
  case atStart => exact ⟨0, Nat.zero_le _, rfl, fun j hj => absurd hj (by omega), Below.refl _ _⟩
  case round =>
    obtain ⟨k, hk, rfl, hall, hbel⟩ := hrel
    have hx := H.out.below hbel.out
    have HX : Hid (Rt wr q b a cap T) := hx
    have c0 := hx.c
    have l1 := hx.lt
    by_cases hlt : k < T.n
    · have ha := hx.a (by omega)
      have q0 := hx.t0 k hlt
      have l2 := hx.blt (by omega)
      have hH := rhandle_any k wr hx hlt
      subst ha
      clear hx
      cases ht : takP (T.at_ k)
      · rw [ht] at q0
        have HQ : Hid (takP (T.at_ k) = false) := ht
        clear ht hH
        go_wp2_with fail
        refine ⟨⟨k + 1, by omega, by go_num, ?_, hbel.out⟩, by simp [intOf]; omega⟩
        intro j hj
        by_cases e : j = k
        · subst e; rw [HQ.out]; rintro ⟨h, _⟩; cases h
        · exact hall.out j (by omega)
      · rw [ht] at q0
        have HQ : Hid (takP (T.at_ k) = true) := ht
        clear ht
        by_cases hh : hdl T k = h
        · rw [hh] at hH
          have HH : Hid (hdl T k = h) := hh
          clear hh
          go_wp2_with fail
          refine hH.mono ?_
          rintro e w2 ⟨rfl, hb2⟩
          have HB2 : Hid (Below w.heap.size w w2) := Below.onto hbel.out hb2
          clear hH hb2 q0 c0 l1 l2
          go_wp2_with fail
          go_ret
          have hr : (T.at_ k).r ≠ 0 := by have := HQ.out; simpa [takP] using this
          have hp := (hdl_parts H.out.ok hlt hr).1
          rw [HH.out] at hp
          have e1 : tkh T h = true := by unfold tkh; rw [hp, HH.out]; simp [hlt, HQ.out]
          rw [HV.out, e1, hp]
          exact ⟨rfl, HB2.out⟩
        · have hh2 : (hdl T k == h) = false := by simpa using hh
          have HH : Hid (hdl T k ≠ h) := hh
          clear hh
          go_wp2_with fail
          refine hH.mono ?_
          rintro e w2 ⟨rfl, hb2⟩
          have HB2 : Hid (Below w.heap.size w w2) := Below.onto hbel.out hb2
          clear hH hb2 q0 c0 l1 l2
          go_wp2_with fail
          refine ⟨⟨k + 1, by omega, by go_num, ?_, HB2.out⟩, by simp [intOf]; omega⟩
          intro j hj
          by_cases e : j = k
          · subst e; rintro ⟨_, h⟩; exact HH.out h
          · exact hall.out j (by omega)
    · obtain rfl : k = T.n := by omega
      clear hx
      go_wp2_with fail
      go_ret
      have e1 : tkh T h = false := by
        cases e : tkh T h
        · rfl
        · obtain ⟨p1, p2, p3⟩ := tkh_parts e
          exact absurd ⟨by simpa [takP] using p2, p3⟩ (hall.out _ p1)
      rw [HV.out, e1]
      exact ⟨rfl, hbel.out⟩
end
end Go.Proofs.Ytimmjhegeagofab
