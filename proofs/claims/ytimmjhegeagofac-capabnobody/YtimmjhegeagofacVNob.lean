/- Tables that nobody made. -/
import Derived.Test.YtimmjhegeagofacVAlive
namespace Go.Proofs.Ytimmjhegeagofac
open Go.RowKit Go.Sort
set_option maxRecDepth 100000

/-- nil, or not made by New -/
def Nob (w : World) (v : Value) : Prop := v = .pointer none ∨ ∃ p, v = tbV p ∧ w.cell? ⟨p, 0, none⟩ = some (.bool false)
theorem Nob.below {w w' : World} {v : Value} (h : Nob w v) (hb : Below w.heap.size w w') : Nob w' v := by
  rcases h with h | ⟨p, h, hc⟩
  · exact .inl h
  · exact .inr ⟨p, h, (hb.cell (p := ⟨p, 0, none⟩) (cell_lt hc)).trans hc⟩
theorem Nob.ptr {w : World} {v : Value} (h : Nob w v) : ∃ a, v = .pointer a := by
  rcases h with h | ⟨p, h, hc⟩
  · exact ⟨_, h⟩
  · exact ⟨_, h⟩
set_option maxHeartbeats 1000000 in
theorem nis_any (v : Value) (w : World) (h : Nob w v) : Calls Try.prog 16 #[v] w fun e w' => e = .returned (.bool false) ∧ w' = w := by
  rcases h with rfl | ⟨p, rfl, hc⟩
  · go_enter Try.func16, Try.ntmps16
    go_wp2
    go_ret
    exact ⟨rfl, rfl⟩
  · exact tis_at p w false hc
set_option maxHeartbeats 1000000 in
theorem nrow_any (v : Value) (w : World) (h : Nob w v) : Calls Try.prog 15 #[v] w fun e w' => e = .returned (.slice none 0 0) ∧ w' = w := by
  have hc := nis_any v w h
  obtain ⟨a, rfl⟩ := h.ptr
  clear h
  go_enter Try.func15, Try.ntmps15
  go_wp2_with fail
  refine hc.mono ?_
  rintro e w2 ⟨rfl, hw2⟩
  subst hw2
  go_wp2_with fail
  go_ret
  exact ⟨rfl, rfl⟩
set_option maxHeartbeats 1000000 in
theorem nat_any (v : Value) (h : Int) (w : World) (hv : Nob w v) (h0 : 0 ≤ h) (h1 : h < 4294967296) : Calls Try.prog 20 #[v, .int .u32 h] w fun e w' => e = .returned (.tuple #[.int .i64 0, .bool false]) ∧ w' = w := by
  have hc := nrow_any v w hv
  have hP := parts_any h w h0 h1
  have hz : 0 ≤ h % 256 := by omega
  obtain ⟨a, rfl⟩ := hv.ptr
  clear hv
  generalize h % 256 = i at *
  go_enter Try.func20, Try.ntmps20
  go_wp2_with fail
  refine hP.mono ?_
  rintro e w1 ⟨rfl, hw1⟩
  subst hw1
  go_wp2_with fail
  refine hc.mono ?_
  rintro e w2 ⟨rfl, hw2⟩
  subst hw2
  go_wp2_with fail
  go_ret2
  exact ⟨rfl, rfl⟩
set_option maxHeartbeats 1000000 in
theorem nmint_any (v : Value) (c r : Int) (w : World) (hv : Nob w v) : Calls Try.prog 9 #[v, .agg #[.int .i64 c, .int .u8 r]] w fun e w' => e = .returned (.tuple #[.int .u32 0, .int .i64 4]) ∧ Below w.heap.size w w' := by
  have hc := nis_any v (w.alloc (.cells #[.int .i64 c, .int .u8 r] 30)) (hv.below (below_new _ _))
  obtain ⟨a, rfl⟩ := hv.ptr
  clear hv
  go_enter Try.func9, Try.ntmps9
  go_wp2_with fail
  refine hc.mono ?_
  rintro e w2 ⟨rfl, hw2⟩
  subst hw2
  go_wp2_with fail
  go_ret2
  exact ⟨rfl, below_new _ _⟩
set_option maxHeartbeats 1000000 in
theorem nwith_any (v : Value) (h r : Int) (w : World) (hv : Nob w v) (h0 : 0 ≤ h) (h1 : h < 4294967296) : Calls Try.prog 14 #[v, .int .u32 h, .int .u8 r] w fun e w' => e = .returned (.tuple #[.agg #[.int .i64 0, .int .u8 0], .bool false]) ∧ Below w.heap.size w w' := by
  have hc := nat_any v h (w.alloc (.cells #[.int .i64 0, .int .u8 0] 30)) (hv.below (below_new _ _)) h0 h1
  obtain ⟨a, rfl⟩ := hv.ptr
  have BX := cap_box w (.int .i64 0) (.int .u8 0)
  obtain ⟨q0, q1⟩ := BX.two
  clear hv BX
  go_enter Try.func14, Try.ntmps14
  go_wp2_with fail
  refine hc.mono ?_
  rintro e w2 ⟨rfl, hw2⟩
  subst hw2
  go_wp2_with fail
  refine bodyPost_ret (v := .tuple #[.agg #[.int .i64 0, .int .u8 0], .bool false]) (by simp [results, Try.results14, go_sem, q0, q1]) rfl ⟨rfl, ?_⟩
  exact below_new _ _
set_option maxHeartbeats 1000000 in
theorem nfind_any (v : Value) (h : Int) (w : World) (hv : Nob w v) (h0 : 0 ≤ h) (h1 : h < 4294967296) : Calls Try.prog 11 #[v, .int .u32 h] w fun e w' => e = .returned (.tuple #[.agg #[.int .i64 0, .int .u8 0], .bool false]) ∧ Below w.heap.size w w' := by
  have hA := nwith_any v h 0 (w.alloc (.cells #[.int .i64 0, .int .u8 0] 30)) (hv.below (below_new _ _)) h0 h1
  obtain ⟨a, rfl⟩ := hv.ptr
  clear hv
  have BX : Hid (Bx (w.alloc (.cells #[.int .i64 0, .int .u8 0] 30)) w.heap.size [.int .i64 0, .int .u8 0]) := cap_box w _ _
  have B1 : Hid (Below w.heap.size w (w.alloc (.cells #[.int .i64 0, .int .u8 0] 30))) := below_new _ _
  have FZ : Hid (∀ i, (w.alloc (.cells #[.int .i64 0, .int .u8 0] 30)).frozen? ⟨w.heap.size, i, none⟩ = false) := fun i => frozen_of_row _ _ i _ _ (gheap_new w _)
  generalize hg : w.alloc (.cells #[.int .i64 0, .int .u8 0] 30) = w1 at *
  go_enter Try.func11, Try.ntmps11
  go_wp2_with fail
  refine hA.mono ?_
  rintro e w2 ⟨rfl, hb⟩
  have hx2 := BX.out.below hb
  obtain ⟨q0, q1⟩ := hx2.two
  have hlt := hx2.lt
  have f0 : ∀ i, w2.frozen? ⟨w.heap.size, i, none⟩ = false := fun i => (World.frozen?_of_block (w := w1) (a := ⟨w.heap.size, i, none⟩) (hb.block _ BX.out.lt)).trans (FZ.out i)
  have HB : Hid (Below w.heap.size w w2) := Below.onto B1.out hb
  clear hb hA hx2 hg
  go_wp2_with fail
  refine bodyPost_ret (v := .tuple #[.agg #[.int .i64 0, .int .u8 0], .bool false]) (by simp [results, Try.results11, go_sem, q0, q1]) rfl ⟨rfl, ?_⟩
  exact (HB.out.setCell (Nat.le_refl _) _).setCell (Nat.le_refl _) _
set_option maxHeartbeats 1000000 in
theorem ndrop_any (v : Value) (h : Int) (w : World) (hv : Nob w v) : Calls Try.prog 10 #[v, .int .u32 h] w fun e w' => e = .returned (.int .i64 4) ∧ w' = w := by
  have hc := nis_any v w hv
  obtain ⟨a, rfl⟩ := hv.ptr
  clear hv
  go_enter Try.func10, Try.ntmps10
  go_wp2_with fail
  refine hc.mono ?_
  rintro e w2 ⟨rfl, hw2⟩
  subst hw2
  go_wp2_with fail
  go_ret
  exact ⟨rfl, rfl⟩
set_option maxHeartbeats 2000000 in
theorem nlive_any (v : Value) (w : World) (hv : Nob w v) : Calls Try.prog 12 #[v] w fun e w' => e = .returned (.slice none 0 0) ∧ w' = w := by
  have hc := nrow_any v w hv
  obtain ⟨a, rfl⟩ := hv.ptr
  clear hv
  go_enter Try.func12, Try.ntmps12
  go_wp2_with fail
  refine hc.mono ?_
  rintro e w2 ⟨rfl, hw2⟩
  subst hw2
  go_wp2_with fail
  go_loopw [3, 9] (fun l t wr => l = .slice none 0 0 ∧ t = .int .i64 0 ∧ Hid (wr = w2)) (fun _ _ _ => 0)
  case atStart => exact ⟨rfl, rfl, rfl⟩
  case round =>
    obtain ⟨rfl, rfl, hw⟩ := hrel
    go_wp2_with fail
    go_ret
    exact ⟨rfl, hw.out⟩
set_option maxHeartbeats 2000000 in
theorem nleft_any (v : Value) (w : World) (hv : Nob w v) : Calls Try.prog 13 #[v] w fun e w' => e = .returned (.int .i64 0) ∧ w' = w := by
  have hc := nrow_any v w hv
  obtain ⟨a, rfl⟩ := hv.ptr
  clear hv
  go_enter Try.func13, Try.ntmps13
  go_wp2_with fail
  refine hc.mono ?_
  rintro e w2 ⟨rfl, hw2⟩
  subst hw2
  go_wp2_with fail
  go_loopw [3, 9] (fun l t wr => l = .int .i64 0 ∧ t = .int .i64 0 ∧ Hid (wr = w2)) (fun _ _ _ => 0)
  case atStart => exact ⟨rfl, rfl, rfl⟩
  case round =>
    obtain ⟨rfl, rfl, hw⟩ := hrel
    go_wp2_with fail
    go_ret
    exact ⟨rfl, hw.out⟩
structure NbI (w0 w : World) (c r : Int) : Prop where
  b : Bx w w0.heap.size [.int .i64 c, .int .u8 r]
  t : w.cell? ⟨w0.heap.size + 1, 0, none⟩ = some (.bool false)
  s : Bx w (w0.heap.size + 1 + 1) [.pointer none, tbV (w0.heap.size + 1)]
  bel : Below w0.heap.size w0 w
theorem NbI.grow {w0 w w' : World} {c r : Int} (h : NbI w0 w c r) (hb : Below w.heap.size w w') : NbI w0 w' c r :=
  ⟨h.b.below hb, (hb.cell (p := ⟨w0.heap.size + 1, 0, none⟩) (cell_lt h.t)).trans h.t, h.s.below hb, Below.onto h.bel hb⟩
theorem NbI.nob {w0 w : World} {c r : Int} (h : NbI w0 w c r) {i : Nat} (hi : i < 2) : ∃ a, w.cell? ⟨w0.heap.size + 1 + 1, i, none⟩ = some (.pointer a) ∧ Nob w (.pointer a) := by
  match i, hi with
  | 0, _ => exact ⟨none, h.s 0 _ rfl, .inl rfl⟩
  | 1, _ => exact ⟨some ⟨w0.heap.size + 1, 0, none⟩, h.s 1 _ rfl, .inr ⟨_, rfl, h.t⟩⟩
set_option maxHeartbeats 8000000 in
theorem nobody_law (c r h : Int) (w : World) (h0 : 0 ≤ h) (h1 : h < 4294967296) : Calls Try.prog 6 #[.agg #[.int .i64 c, .int .u8 r], .int .u32 h] w fun e w' => e = .returned (.bool true) ∧ Below w.heap.size w w' := by
  have hA := fun W => valive_any W
  have hzr := zcT_run
  have hz := zcT_size
  have hz0 : zcT[0]? = some (.bool false) := by kernel_rfl
  generalize zcT = zc at *
  have HN : Hid (NbI w (((w.alloc (.cells #[.int .i64 c, .int .u8 r] 30)).alloc (.cells zc 51)).alloc (.cells #[.pointer none, tbV (w.heap.size + 1)] 23)) c r) := by
    have e1 : (w.alloc (.cells #[.int .i64 c, .int .u8 r] 30)).heap.size = w.heap.size + 1 := by simp
    have e2 : ((w.alloc (.cells #[.int .i64 c, .int .u8 r] 30)).alloc (.cells zc 51)).heap.size = w.heap.size + 1 + 1 := by simp
    have k3 := bx_new ((w.alloc (.cells #[.int .i64 c, .int .u8 r] 30)).alloc (.cells zc 51)) [.pointer none, tbV (w.heap.size + 1)] 23
    rw [e2] at k3
    have k2 : ((w.alloc (.cells #[.int .i64 c, .int .u8 r] 30)).alloc (.cells zc 51)).cell? ⟨w.heap.size + 1, 0, none⟩ = some (.bool false) := by
      have hbl := gheap_new (w.alloc (.cells #[.int .i64 c, .int .u8 r] 30)) (.cells zc 51)
      rw [e1] at hbl
      rw [cell_of_row _ _ _ _ 51 (0, 0) hbl]; exact hz0
    have b3 := below_new ((w.alloc (.cells #[.int .i64 c, .int .u8 r] 30)).alloc (.cells zc 51)) (.cells #[.pointer none, tbV (w.heap.size + 1)] 23)
    have b2 := below_new (w.alloc (.cells #[.int .i64 c, .int .u8 r] 30)) (.cells zc 51)
    exact ⟨((cap_box w _ _).below b2).below b3, (b3.cell (p := ⟨w.heap.size + 1, 0, none⟩) (cell_lt k2)).trans k2, k3, Below.onto (Below.onto (below_new _ _) b2) b3⟩
  go_enter Try.func6, Try.ntmps6
  go_wp2_with fail
  generalize ((w.alloc (.cells #[.int .i64 c, .int .u8 r] 30)).alloc (.cells zc 51)).alloc (.cells #[.pointer none, tbV (w.heap.size + 1)] 23) = w3 at *
  clear hzr hz hz0
  go_loopw [19] (fun t wr => ∃ i : Nat, i ≤ 2 ∧ t = .int .i64 i ∧ Hid (NbI w wr c r)) (fun t _ => 2 - (intOf t).toNat)
  case atStart => exact ⟨0, by omega, rfl, HN.out⟩
  case round =>
    obtain ⟨i, hi, rfl, hN⟩ := hrel
    by_cases hlt : i < 2
    · obtain ⟨a, q, hv⟩ := hN.out.nob hlt
      have HV : Hid (Nob wr (.pointer a)) := hv
      obtain ⟨x0, x1⟩ := hN.out.b.two
      have xl := hN.out.b.lt
      have ql := cell_lt q
      clear hv
      go_wp2_with fail
      refine (nmint_any _ c r _ HV.out).mono ?_
      rintro e w1 ⟨rfl, hb1⟩
      have HN1 : Hid (NbI w w1 c r) := hN.out.grow hb1
      have HV1 : Hid (Nob w1 (.pointer a)) := HV.out.below hb1
      clear hb1 q x0 x1 xl ql
      go_wp2_with fail
      refine (nfind_any _ h _ HV1.out h0 h1).mono ?_
      rintro e w2 ⟨rfl, hb2⟩
      have HN2 : Hid (NbI w (w2.alloc (.cells #[.int .i64 0, .int .u8 0] 30)) c r) := (HN1.out.grow hb2).grow (below_new _ _)
      have HV2 : Hid (Nob (w2.alloc (.cells #[.int .i64 0, .int .u8 0] 30)) (.pointer a)) := (HV1.out.below hb2).below (below_new _ _)
      have X2 : Hid (Bx (w2.alloc (.cells #[.int .i64 0, .int .u8 0] 30)) w2.heap.size [.int .i64 0, .int .u8 0]) := cap_box w2 _ _
      clear hb2
      go_wp2_with fail
      generalize w2.alloc (.cells #[.int .i64 0, .int .u8 0] 30) = w4 at *
      refine (nwith_any _ h 0 _ HV2.out h0 h1).mono ?_
      rintro e w5 ⟨rfl, hb5⟩
      have HN5 : Hid (NbI w (w5.alloc (.cells #[.int .i64 0, .int .u8 0] 30)) c r) := (HN2.out.grow hb5).grow (below_new _ _)
      have HV5 : Hid (Nob (w5.alloc (.cells #[.int .i64 0, .int .u8 0] 30)) (.pointer a)) := (HV2.out.below hb5).below (below_new _ _)
      have X5 := (X2.out.below hb5).below (below_new w5 (.cells #[.int .i64 0, .int .u8 0] 30))
      have Y5 := cap_box w5 (.int .i64 0) (.int .u8 0)
      obtain ⟨x0, x1⟩ := X5.two
      obtain ⟨y0, y1⟩ := Y5.two
      have xl := X5.lt
      have yl := Y5.lt
      clear hb5 X5 Y5
      go_wp2_with fail
      generalize w5.alloc (.cells #[.int .i64 0, .int .u8 0] 30) = w6 at *
      refine (ndrop_any _ h _ HV5.out).mono ?_
      rintro e w7 ⟨rfl, hw7⟩
      subst hw7
      go_wp2_with fail
      refine (nlive_any _ _ HV5.out).mono ?_
      rintro e w8 ⟨rfl, hw8⟩
      subst hw8
      go_wp2_with fail
      refine (nleft_any _ _ HV5.out).mono ?_
      rintro e w9 ⟨rfl, hw9⟩
      subst hw9
      go_wp2_with fail
      exact ⟨⟨i + 1, by omega, by go_num, HN5.out⟩, by simp [intOf]; omega⟩
    · obtain rfl : i = 2 := by omega
      go_wp2_with fail
      refine (hA _).mono ?_
      rintro e w5 ⟨rfl, hb5⟩
      go_wp2_with fail
      go_ret
      exact ⟨rfl, Below.onto hN.out.bel hb5⟩
end Go.Proofs.Ytimmjhegeagofac
