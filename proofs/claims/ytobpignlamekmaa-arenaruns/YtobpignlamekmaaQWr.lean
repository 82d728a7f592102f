/- The document's arena: Read, Write, Part, Held. -/
import Derived.Test.YtobpignlamekmaaQLeaf
namespace Go.Proofs.Ytobpignlamekmaa
open Go.RowKit Go.Sort
set_option maxRecDepth 100000

theorem q_wr {h : Sh} {d : Da} {x g y : Int} : ∀ n, (qOf h (wrD h d x g y)).hd n = (qOf h d).hd n ∧ (qOf h (wrD h d x g y)).gen n = (qOf h d).gen n := by
  intro n
  unfold wrD
  split <;> exact ⟨rfl, rfl⟩

set_option maxHeartbeats 2000000 in
theorem rwrite_q (q : Qo) (h : Sh) (d : Da) (x g y : Int) (w : World) (a : Qx w q h (qOf h d)) :
    Calls Try.prog 30 #[q.ptr, .agg #[.int .i64 x, .int .u64 g], .int .u64 y] w fun e w' => e = .returned (.int .i64 (alvE h d x g)) ∧ Qx w' q h (qOf h (wrD h d x g y)) ∧ But q.wr w w' := by
  have HK : Hid (Qx w q h (qOf h d)) := a
  clear a
  have hB := below_box w (.cells #[.int .i64 x, .int .u64 g] 36)
  obtain ⟨c0, c1, cf⟩ := box2 (w := w) (x := .int .i64 x) (y := .int .u64 g) (T := 36) (Below.refl _ _)
  obtain ⟨W, hW⟩ : ∃ W, w.alloc (.cells #[.int .i64 x, .int .u64 g] 36) = W := ⟨_, rfl⟩
  rw [hW] at c0 c1 cf hB
  have HW : Hid (Qx W q h (qOf h d)) := HK.out.below hB
  have hal := ralive_q q h d x g W HW.out
  cases hv : alvB h d x g
  · have e1 : alvE h d x g = 62 := by simp [alvE, hv]
    have e2 : wrD h d x g y = d := by simp [wrD, hv]
    rw [hv] at hal
    rw [e1, e2]
    go_enter Try.func30, Try.ntmps30
    go_wp2_with fail
    refine hal.mono ?_
    rintro e w2 ⟨rfl, hb2⟩
    go_wp2_with fail
    go_ret
    exact ⟨rfl, HW.out.below hb2, (But.of hB : But q.wr w _).trans (But.of hb2)⟩
  · rw [hv] at hal
    obtain ⟨n, rfl, hn, hf, hg⟩ := alvB_nat hv
    have e1 : alvE h d n g = 0 := by simp [alvE, hv]
    have e2 : wrD h d n g y = { d with pay := upd d.pay n y } := by simp [wrD, hv]
    rw [e1, e2]
    clear e1 e2 hv
    go_enter Try.func30, Try.ntmps30
    go_wp2_with fail
    refine hal.mono ?_
    rintro e w2 ⟨rfl, hb2⟩
    have H2 : Hid (Qx w2 q h (qOf h d)) := HW.out.below hb2
    have d0 := (hb2.cell (p := ⟨w.heap.size, 0, none⟩) (cell_lt c0)).trans c0
    have l1 := H2.out.c1
    rw [H2.out.cl (by omega)] at l1
    have s1 := H2.out.y0 n hn
    have sf := kind_fz (i := n * 3) (H2.out.kc (by omega))
    have B2 := (But.of hB : But q.wr w _).trans (But.of hb2)
    have HP : Hid (Qx (w2.setCell ⟨q.bc, n * 3, none⟩ (.int .u64 y)) q h (qOf h { d with pay := upd d.pay n y })) := H2.out.setPay hn y
    have hs : q.wr q.bc := .inr (H2.out.cl (by omega))
    clear hb2 c0 c1 cf
    go_wp2_with fail
    go_region
    go_wp2_with fail
    go_ret
    exact ⟨rfl, HP.out.below ((Below.refl _ _).drew), (B2.setCell hs _).drew⟩

set_option maxHeartbeats 2000000 in
theorem rread_q (q : Qo) (h : Sh) (d : Da) (x g : Int) (w : World) (a : Qx w q h (qOf h d)) :
    Calls Try.prog 31 #[q.ptr, .agg #[.int .i64 x, .int .u64 g]] w fun e w' => e = .returned (.tuple #[.int .u64 (rdI h d x g), .int .i64 (alvE h d x g)]) ∧ Below w.heap.size w w' := by
  have HK : Hid (Qx w q h (qOf h d)) := a
  clear a
  have hB := below_box w (.cells #[.int .i64 x, .int .u64 g] 36)
  obtain ⟨c0, c1, cf⟩ := box2 (w := w) (x := .int .i64 x) (y := .int .u64 g) (T := 36) (Below.refl _ _)
  obtain ⟨W, hW⟩ : ∃ W, w.alloc (.cells #[.int .i64 x, .int .u64 g] 36) = W := ⟨_, rfl⟩
  rw [hW] at c0 c1 cf hB
  have HW : Hid (Qx W q h (qOf h d)) := HK.out.below hB
  have hal := ralive_q q h d x g W HW.out
  cases hv : alvB h d x g
  · have e1 : alvE h d x g = 62 := by simp [alvE, hv]
    have e2 : rdI h d x g = 0 := by simp [rdI, hv]
    rw [hv] at hal
    rw [e1, e2]
    go_enter Try.func31, Try.ntmps31
    go_wp2_with fail
    refine hal.mono ?_
    rintro e w2 ⟨rfl, hb2⟩
    go_wp2_with fail
    go_ret2
    exact ⟨rfl, Below.onto hB hb2⟩
  · rw [hv] at hal
    obtain ⟨n, rfl, hn, hf, hg⟩ := alvB_nat hv
    have e1 : alvE h d n g = 0 := by simp [alvE, hv]
    have e2 : rdI h d n g = d.pay n := by simp [rdI, hv]
    rw [e1, e2]
    clear e1 e2 hv
    go_enter Try.func31, Try.ntmps31
    go_wp2_with fail
    refine hal.mono ?_
    rintro e w2 ⟨rfl, hb2⟩
    have H2 : Hid (Qx w2 q h (qOf h d)) := HW.out.below hb2
    have d0 := (hb2.cell (p := ⟨w.heap.size, 0, none⟩) (cell_lt c0)).trans c0
    have l1 := H2.out.c1
    rw [H2.out.cl (by omega)] at l1
    have s1 : w2.cell? ⟨q.bc, n * 3, none⟩ = some (.int .u64 (d.pay n)) := H2.out.y0 n hn
    have B2 := Below.onto hB hb2
    clear hb2 c0 c1 cf
    go_wp2_with fail
    go_region
    go_wp2_with fail
    go_ret2
    exact ⟨rfl, B2.drew⟩

set_option maxHeartbeats 2000000 in
theorem rPart_q (q : Qo) (h : Sh) (s : Qs) (x : Int) (w : World) (a : Qx w q h s) (ok : h.Ok) (c : Cont h) (hx : x ≤ 9223372036854775807) :
    Calls Try.prog 16 #[q.ptr, .int .i64 x] w fun e w' => e = .returned (.tuple #[.int .i64 (ptI h x), .bool (inR h.N x)]) ∧ w' = w := by
  have c0 := a.c0
  have HZ : Hid (∀ k, k < h.P → w.cell? ⟨q.bz, k, none⟩ = some (.int .i64 (h.sz k : Int))) := a.z
  have HO : Hid h.Ok := ok
  have HC : Hid (Cont h) := c
  have hP := ok.p16
  have hN := ok.n4
  clear a ok c
  go_enter Try.func16, Try.ntmps16
  go_wp2_with fail
  go_loopw [6, 7] (fun va vi wr => ∃ i : Nat, i ≤ h.P ∧ vi = .int .i64 i ∧ va = .int .i64 (h.fs i : Int) ∧ (x < 0 ∨ (h.fs i : Int) ≤ x) ∧ wr = w) (fun _ vi _ => h.P - (intOf vi).toNat)
  case atStart => exact ⟨0, by omega, rfl, by rw [HC.out.z]; rfl, by rw [HC.out.z]; omega, rfl⟩
  case round =>
    obtain ⟨i, hi, rfl, rfl, hxi, rfl⟩ := hrel
    by_cases hlt : i < h.P
    · have hz := HZ.out i hlt
      have hs := HO.out.s256 i hlt
      have hf := HO.out.f4 i hlt
      have HF : Hid (h.fs (i + 1) = h.fs i + h.sz i) := HC.out.s i hlt
      by_cases hneg : x < 0
      · have hge : ¬ (h.fs i : Int) ≤ x := by omega
        have hd : decide (x ≥ (h.fs i : Int)) = false := decide_eq_false hge
        clear hxi
        go_wp2_with fail
        go_roundw
        case rel => exact ⟨i + 1, by omega, by go_num, by rw [HF.out]; go_num, .inl hneg, trivial⟩
        case measure => simp [intOf]; omega
      · have hge : (h.fs i : Int) ≤ x := by omega
        by_cases hin : x - (h.fs i : Int) < (h.sz i : Int)
        · have hr : ptI h x = (i : Int) ∧ inR h.N x = true := by
            obtain ⟨j, hj⟩ : ∃ j : Nat, x = ((h.fs i + j : Nat) : Int) := ⟨(x - h.fs i).toNat, by omega⟩
            subst hj
            obtain ⟨h1, h2⟩ := HO.out.in_ i j hlt (by omega)
            have h3 : inR h.N ((h.fs i + j : Nat) : Int) = true := inR_iff.2 (by omega)
            exact ⟨by simp only [ptI, h3, if_true, Int.toNat_natCast, h2], h3⟩
          have HR : Hid (ptI h x = (i : Int) ∧ inR h.N x = true) := hr
          clear hr hxi
          go_wp2_with fail
          go_ret2
          exact ⟨by rw [HR.out.1, HR.out.2]; rfl, rfl⟩
        · clear hxi
          go_wp2_with fail
          go_roundw
          case rel => exact ⟨i + 1, by omega, by go_num, by rw [HF.out]; go_num, .inr (by rw [HF.out]; omega), trivial⟩
          case measure => simp [intOf]; omega
    · obtain rfl : i = h.P := by omega
      have hr : inR h.N x = false := by
        have := HC.out.e
        cases hh : inR h.N x
        · rfl
        · have := inR_iff.1 hh; omega
      have HR : Hid (ptI h x = 0 ∧ inR h.N x = false) := ⟨by simp [ptI, hr], hr⟩
      clear hr hxi
      go_wp2_with fail
      go_ret2
      exact ⟨by rw [HR.out.1, HR.out.2]; rfl, rfl⟩
end Go.Proofs.Ytobpignlamekmaa
