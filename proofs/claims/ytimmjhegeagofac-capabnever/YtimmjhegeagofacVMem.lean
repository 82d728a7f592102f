/- A table in memory; what it lets one read. -/
import Derived.Test.YtimmjhegeagofacVMath
import Derived.Test.YtimmjhegeagofacKMem
namespace Go.Proofs.Ytimmjhegeagofac
open Go.RowKit Go.Sort
set_option maxRecDepth 100000

/-- a table lies in block p -/
structure Tx (w : World) (p : Nat) (T : Tb) : Prop where
  c0 : w.cell? ⟨p, 0, none⟩ = some (.bool true)
  c1 : w.cell? ⟨p, 1, none⟩ = some (.int .i64 (T.n : Int))
  pc : ∀ i, i < 32 → w.cell? ⟨p, 2 + i * 3, none⟩ = some (.int .i64 (T.at_ i).c)
  pr : ∀ i, i < 32 → w.cell? ⟨p, 2 + i * 3 + 1, none⟩ = some (.int .u8 (T.at_ i).r)
  pg : ∀ i, i < 32 → w.cell? ⟨p, 2 + i * 3 + 2, none⟩ = some (.int .i64 (T.at_ i).g)
  fz : ∀ i, w.frozen? ⟨p, i, none⟩ = false
  ok : T.Ok
section
variable {w w' : World} {p : Nat} {T : Tb}
theorem Tx.lt (h : Tx w p T) : p < w.heap.size := cell_lt h.c0
theorem Tx.same (h : Tx w p T) (hb : w'.heap[p]? = w.heap[p]?) : Tx w' p T := by
  have hc : ∀ i, w'.cell? ⟨p, i, none⟩ = w.cell? ⟨p, i, none⟩ := fun i => World.cell?_of_block (w := w) (a := ⟨p, i, none⟩) hb
  have hf : ∀ i, w'.frozen? ⟨p, i, none⟩ = w.frozen? ⟨p, i, none⟩ := fun i => World.frozen?_of_block (w := w) (a := ⟨p, i, none⟩) hb
  exact ⟨(hc _).trans h.c0, (hc _).trans h.c1, fun i hi => (hc _).trans (h.pc i hi), fun i hi => (hc _).trans (h.pr i hi), fun i hi => (hc _).trans (h.pg i hi), fun i => (hf i).trans (h.fz i), h.ok⟩
theorem Tx.below (h : Tx w p T) (hb : Below w.heap.size w w') : Tx w' p T := h.same (hb.block p h.lt)
theorem Tx.upTo {B : Nat} (h : Tx w p T) (hb : Below B w w') (hB : p < B) : Tx w' p T := h.same (hb.block p hB)
theorem Tx.setO (h : Tx w p T) {b i : Nat} (hne : p ≠ b) (v : Value) : Tx (w.setCell ⟨b, i, none⟩ v) p T := h.same (Below.heap_setCell _ _ _ _ hne)
end
abbrev tbV (p : Nat) : Value := .pointer (some ⟨p, 0, none⟩)
abbrev capV (x : Pc) : Value := .agg #[.int .i64 x.c, .int .u8 x.r]
abbrev plcV (x : Pc) : Value := .agg #[.int .i64 x.c, .int .u8 x.r, .int .i64 x.g]

set_option maxHeartbeats 1000000 in
theorem tis_at (p : Nat) (w : World) (b : Bool) (c0 : w.cell? ⟨p, 0, none⟩ = some (.bool b)) : Calls Try.prog 16 #[tbV p] w fun e w' => e = .returned (.bool b) ∧ w' = w := by
  have c2 := cell_lt c0
  go_enter Try.func16, Try.ntmps16
  go_wp2
  go_ret
  exact ⟨rfl, rfl⟩
theorem tis_any (p : Nat) (T : Tb) (w : World) (h : Tx w p T) : Calls Try.prog 16 #[tbV p] w fun e w' => e = .returned (.bool true) ∧ w' = w := tis_at p w true h.c0
set_option maxHeartbeats 1000000 in
theorem taken_any (x : Pc) (w : World) : Calls Try.prog 21 #[plcV x] w fun e w' => e = .returned (.bool (takP x)) ∧ Below w.heap.size w w' := by
  go_enter Try.func21, Try.ntmps21
  go_wp2
  go_ret
  exact ⟨ret_bool (by simp [takP]), below_new _ _⟩
set_option maxHeartbeats 1000000 in
theorem left_any (x : Pc) (w : World) : Calls Try.prog 18 #[plcV x] w fun e w' => e = .returned (.bool (lefP x)) ∧ Below w.heap.size w w' := by
  have hc := fun W => taken_any x W
  cases ht : takP x
  · have h1 : x.r = 0 := by simpa [takP] using ht
    have HL : Hid (lefP x = decide (x.g ≤ 65535)) := by show _ = _; simp [lefP, h1]
    rw [ht] at hc
    clear ht h1
    go_enter Try.func18, Try.ntmps18
    go_wp2_with fail
    refine (hc _).mono ?_
    rintro e w2 ⟨rfl, hb⟩
    have q0 : w2.cell? ⟨w.heap.size, 2, none⟩ = some (.int .i64 x.g) := ((bx_new w [.int .i64 x.c, .int .u8 x.r, .int .i64 x.g] 48).below hb) 2 _ rfl
    have HB : Hid (Below w.heap.size w w2) := Below.onto (below_new _ _) hb
    clear hb hc
    go_wp2_with fail
    go_ret
    exact ⟨ret_bool HL.out.symm, HB.out⟩
  · have h1 : x.r ≠ 0 := by simpa [takP] using ht
    have HL : Hid (lefP x = false) := by show _ = _; simp [lefP, h1]
    rw [ht] at hc
    clear ht h1
    go_enter Try.func18, Try.ntmps18
    go_wp2_with fail
    refine (hc _).mono ?_
    rintro e w2 ⟨rfl, hb⟩
    have HB : Hid (Below w.heap.size w w2) := Below.onto (below_new _ _) hb
    clear hb hc
    go_wp2_with fail
    go_ret
    exact ⟨ret_bool HL.out.symm, HB.out⟩
set_option maxHeartbeats 1000000 in
theorem covers_any (x : Pc) (r : Int) (w : World) : Calls Try.prog 22 #[capV x, .int .u8 r] w fun e w' => e = .returned (.bool (cov x.r r)) ∧ Below w.heap.size w w' := by
  go_enter Try.func22, Try.ntmps22
  go_wp2
  go_ret
  exact ⟨ret_bool (by simp [cov]), below_new _ _⟩
/-- a table's row -/
abbrev rowV (p n : Nat) : Value := .slice (some ⟨p, 2, none⟩) n 32
theorem slice_tab (p n : Nat) (hn : n ≤ 32) (W : World) : (Instr.sliceAt 49 (.pointer (some ⟨p, 2, none⟩)) none (some (.int .i64 (n : Int))) none).run Try.prog W = .ok (rowV p n) W := by
  have h1 : Try.prog.arrayLen 49 = 32 := by kernel_rfl
  have h2 : Try.prog.elem 49 = 48 := by kernel_rfl
  have hu : Try.prog.underlying 49 = some (.array (Try.prog.arrayLen 49) (Try.prog.elem 49)) := by rw [h1, h2]; exact Try.underlying49
  have := run_sliceAt_array_h (P := Try.prog) W 49 ⟨p, 2, none⟩ hu .i64 (n : Int) (by omega) (by rw [h1]; omega)
  rw [this, h1, h2]
  simp only [Try.sizeOf48, Result.andThen, slicedAt]
  rw [show ((n : Int)).toNat = n by omega, if_neg (by omega), Go.WideShapes.add_plain]
  rfl
set_option maxHeartbeats 2000000 in
theorem trow_at (p n : Nat) (w : World) (hn : n ≤ 32) (c0 : w.cell? ⟨p, 0, none⟩ = some (.bool true)) (c1 : w.cell? ⟨p, 1, none⟩ = some (.int .i64 (n : Int))) : Calls Try.prog 15 #[tbV p] w fun e w' => e = .returned (rowV p n) ∧ Below w.heap.size w w' := by
  have hc := tis_at p w true c0
  have c3 := cell_lt c0
  replace c1 := cell_regrown c1
  have hs := slice_tab p n hn
  clear c0
  go_enter Try.func15, Try.ntmps15
  go_wp2_with fail
  refine hc.mono ?_
  rintro e w2 ⟨rfl, hw2⟩
  subst hw2
  go_wp2_with fail
  refine wp_region_quiet_below (by kernel_rfl) (by kernel_rfl) ?_
  repeat (go_big_quiet_step (fail))
  refine wpQuiet_nil ?_
  intro _ hw'
  obtain ⟨⟨dq, osq⟩, hw''⟩ := hw'
  subst hw''
  have hb := below_regrown w2 dq osq
  generalize grow (redrawn w2 dq) osq = w3 at *
  go_wp2_with fail
  go_ret
  exact ⟨rfl, hb⟩
theorem trow_any (p : Nat) (T : Tb) (w : World) (h : Tx w p T) : Calls Try.prog 15 #[tbV p] w fun e w' => e = .returned (rowV p T.n) ∧ Below w.heap.size w w' := trow_at p T.n w h.ok.n32 h.c0 h.c1
set_option maxHeartbeats 2000000 in
theorem handle_any (p i : Nat) (T : Tb) (w : World) (h : Tx w p T) (hi : i < 32) : Calls Try.prog 19 #[tbV p, .int .i64 (i : Int)] w fun e w' => e = .returned (.int .u32 (hdl T i)) ∧ Below w.heap.size w w' := by
  have hc := fun W => hand_any (i : Int) (T.at_ i).r (T.at_ i).g W
  have c1 := h.pc i hi
  have c2 := h.pr i hi
  have c3 := h.pg i hi
  have c4 := h.lt
  have c5 := h.ok.r i
  have c6 : Try.prog.arrayLen 49 = 32 := by kernel_rfl
  clear h
  go_enter Try.func19, Try.ntmps19
  go_wp2_with fail
  refine (hc _).mono ?_
  rintro e w2 ⟨rfl, hw2⟩
  subst hw2
  go_wp2_with fail
  go_ret
  exact ⟨rfl, below_new _ _⟩
theorem plc_lt (h : Int) : h % 256 = ((plc h : Nat) : Int) := by unfold plc; omega
set_option maxHeartbeats 2000000 in
theorem tat_any (p : Nat) (h : Int) (T : Tb) (w : World) (hx : Tx w p T) (h0 : 0 ≤ h) (h1 : h < 4294967296) : Calls Try.prog 20 #[tbV p, .int .u32 h] w fun e w' => e = .returned (.tuple #[.int .i64 (if tkh T h then (plc h : Int) else 0), .bool (tkh T h)]) ∧ Below w.heap.size w w' := by
  have hP := fun W => parts_any h W h0 h1
  rw [plc_lt h] at hP
  have HT : Hid (tkh T h = (decide (plc h < T.n) && takP (T.at_ (plc h)) && decide (hdl T (plc h) = h))) := rfl
  obtain ⟨i, hi⟩ : ∃ i, i = plc h := ⟨_, rfl⟩
  have HI : Hid (i = plc h) := hi
  rw [← hi] at hP HT ⊢
  clear hi
  have hR := fun W (h1 : Tx W p T) => trow_any p T W h1
  have H : Hid (Tx w p T) := hx
  have hn := hx.ok.n32
  by_cases hin : i < T.n
  · have hK := fun W => taken_any (T.at_ i) W
    have hH := fun W (h1 : Tx W p T) => handle_any p i T W h1 (by omega)
    have hc : ∀ W, Tx W p T → W.cell? ⟨p, 2 + i * 3, none⟩ = some (.int .i64 (T.at_ i).c) ∧ W.cell? ⟨p, 2 + i * 3 + 1, none⟩ = some (.int .u8 (T.at_ i).r) ∧ W.cell? ⟨p, 2 + i * 3 + 2, none⟩ = some (.int .i64 (T.at_ i).g) := fun W h => ⟨h.pc i (by omega), h.pr i (by omega), h.pg i (by omega)⟩
    clear hx
    have HC : Hid (∀ W, Tx W p T → W.cell? ⟨p, 2 + i * 3, none⟩ = some (.int .i64 (T.at_ i).c) ∧ W.cell? ⟨p, 2 + i * 3 + 1, none⟩ = some (.int .u8 (T.at_ i).r) ∧ W.cell? ⟨p, 2 + i * 3 + 2, none⟩ = some (.int .i64 (T.at_ i).g)) := hc
    clear hc
    cases ht : takP (T.at_ i)
    · rw [show tkh T h = false by rw [HT.out]; simp [ht]]
      show Calls _ _ _ _ (fun e w' => e = .returned (.tuple #[.int .i64 0, .bool false]) ∧ Below w.heap.size w w')
      rw [ht] at hK
      clear HT ht hH
      go_enter Try.func20, Try.ntmps20
      go_wp2_with fail
      refine (hP _).mono ?_
      rintro e w1 ⟨rfl, hw1⟩
      subst hw1
      go_wp2_with fail
      refine (hR _ H.out).mono ?_
      rintro e w2 ⟨rfl, hb⟩
      have HB : Hid (Below w1.heap.size w1 w2) := hb
      have H2 : Hid (Tx w2 p T) := H.out.below hb
      obtain ⟨q1, q2, q3⟩ := HC.out w2 H2.out
      clear hb hR hP
      go_wp2_with fail
      refine (hK _).mono ?_
      rintro e w3 ⟨rfl, hb⟩
      have HB3 : Hid (Below w1.heap.size w1 w3) := Below.onto HB.out hb
      clear hb hK q1 q2 q3
      go_wp2_with fail
      go_ret2
      exact ⟨rfl, HB3.out⟩
    · by_cases hh : hdl T i = h
      · rw [show tkh T h = true by rw [HT.out]; simp [ht, hh, hin]]
        show Calls _ _ _ _ (fun e w' => e = .returned (.tuple #[.int .i64 (i : Int), .bool true]) ∧ Below w.heap.size w w')
        rw [ht] at hK
        rw [hh] at hH
        clear HT ht hh
        go_enter Try.func20, Try.ntmps20
        go_wp2_with fail
        refine (hP _).mono ?_
        rintro e w1 ⟨rfl, hw1⟩
        subst hw1
        go_wp2_with fail
        refine (hR _ H.out).mono ?_
        rintro e w2 ⟨rfl, hb⟩
        have HB : Hid (Below w1.heap.size w1 w2) := hb
        have H2 : Hid (Tx w2 p T) := H.out.below hb
        obtain ⟨q1, q2, q3⟩ := HC.out w2 H2.out
        clear hb hR hP
        go_wp2_with fail
        refine (hK _).mono ?_
        rintro e w3 ⟨rfl, hb⟩
        have HB3 : Hid (Below w1.heap.size w1 w3) := Below.onto HB.out hb
        have H3 : Hid (Tx w3 p T) := H2.out.below hb
        clear hb hK q1 q2 q3
        go_wp2_with fail
        refine (hH _ H3.out).mono ?_
        rintro e w4 ⟨rfl, hb⟩
        have HB4 : Hid (Below w1.heap.size w1 w4) := Below.onto HB3.out hb
        clear hb hH
        go_wp2_with fail
        go_ret2
        exact ⟨rfl, HB4.out⟩
      · rw [show tkh T h = false by rw [HT.out]; simp [hh]]
        show Calls _ _ _ _ (fun e w' => e = .returned (.tuple #[.int .i64 0, .bool false]) ∧ Below w.heap.size w w')
        rw [ht] at hK
        have hh2 : (hdl T i != h) = true := by simpa using hh
        have hh3 : (hdl T i == h) = false := by simpa using hh
        clear HT ht
        go_enter Try.func20, Try.ntmps20
        go_wp2_with fail
        refine (hP _).mono ?_
        rintro e w1 ⟨rfl, hw1⟩
        subst hw1
        go_wp2_with fail
        refine (hR _ H.out).mono ?_
        rintro e w2 ⟨rfl, hb⟩
        have HB : Hid (Below w1.heap.size w1 w2) := hb
        have H2 : Hid (Tx w2 p T) := H.out.below hb
        obtain ⟨q1, q2, q3⟩ := HC.out w2 H2.out
        clear hb hR hP
        go_wp2_with fail
        refine (hK _).mono ?_
        rintro e w3 ⟨rfl, hb⟩
        have HB3 : Hid (Below w1.heap.size w1 w3) := Below.onto HB.out hb
        have H3 : Hid (Tx w3 p T) := H2.out.below hb
        clear hb hK q1 q2 q3
        go_wp2_with fail
        refine (hH _ H3.out).mono ?_
        rintro e w4 ⟨rfl, hb⟩
        have HB4 : Hid (Below w1.heap.size w1 w4) := Below.onto HB3.out hb
        clear hb hH
        go_wp2_with fail
        go_ret2
        exact ⟨rfl, HB4.out⟩
  · rw [show tkh T h = false by rw [HT.out]; simp [hin]]
    show Calls _ _ _ _ (fun e w' => e = .returned (.tuple #[.int .i64 0, .bool false]) ∧ Below w.heap.size w w')
    clear HT hx
    have hin' : T.n ≤ i := by omega
    go_enter Try.func20, Try.ntmps20
    go_wp2_with fail
    refine (hP _).mono ?_
    rintro e w1 ⟨rfl, hw1⟩
    subst hw1
    go_wp2_with fail
    refine (hR _ H.out).mono ?_
    rintro e w2 ⟨rfl, hb⟩
    have HB : Hid (Below w1.heap.size w1 w2) := hb
    clear hb hR hP
    go_wp2_with fail
    go_ret2
    exact ⟨rfl, HB.out⟩
end Go.Proofs.Ytimmjhegeagofac
