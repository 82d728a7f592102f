/- Free. -/
import Derived.Test.YtobpignlamekmaaAActs2
import Derived.Deep.RegionHeld3
namespace Go.Proofs.Ytobpignlamekmaa
open Go.RowKit Go.Sort
set_option maxRecDepth 100000

def nxG (g : Int) : Int := IntKind.u64.wrap (g + 1)
theorem nxG_eq (g : Int) : nxG g = (g + 1) % 18446744073709551616 := rfl
theorem nxG_ok (g : Int) : 0 ≤ nxG g ∧ nxG g < 18446744073709551616 := by rw [nxG_eq]; omega
def frD (h : Sh) (d : Da) (x g : Int) : Da := if alvB h d x g then { pay := upd d.pay x.toNat 0, gen := upd d.gen x.toNat (nxG (d.gen x.toNat)), R := upd d.R (h.pt x.toNat) (d.R (h.pt x.toNat) ++ [x.toNat]) } else d

set_option maxHeartbeats 2000000 in
theorem free_a (o : Po) (h : Sh) (d : Da) (x g : Int) (w : World) (a : Ax w o h d) :
    Calls Try.prog 25 #[o.ptr, .agg #[.int .i64 x, .int .u64 g]] w fun e w' => e = .returned (.int .i64 (alvE h d x g)) ∧ Ax w' o h (frD h d x g) ∧ But o.has w w' := by
  have HK : Hid (Ax w o h d) := a
  have hno : ¬ o.has w.heap.size := fun hb => by have := a.lt _ hb; omega
  clear a
  have hB := (Below.refl _ w).alloc (Nat.le_refl _) (.cells #[.int .i64 x, .int .u64 g] 36)
  obtain ⟨c0, c1, cf⟩ := box2 (w := w) (x := .int .i64 x) (y := .int .u64 g) (T := 36) (Below.refl _ _)
  obtain ⟨W, hW⟩ : ∃ W, w.alloc (.cells #[.int .i64 x, .int .u64 g] 36) = W := ⟨_, rfl⟩
  rw [hW] at c0 c1 cf hB
  have HW : Hid (Ax W o h d) := HK.out.below hB
  have hal := alive_a o h d x g W HW.out
  cases hv : alvB h d x g
  · have e1 : alvE h d x g = 62 := by simp [alvE, hv]
    have e2 : frD h d x g = d := by simp [frD, hv]
    rw [e1] at hal ⊢
    rw [e2]
    go_enter Try.func25, Try.ntmps25
    go_wp2_with fail
    refine hal.mono ?_
    rintro e w2 ⟨rfl, hb2⟩
    go_wp2_with fail
    go_ret
    exact ⟨rfl, HW.out.below hb2, (But.of hB : But o.has w _).below' hb2⟩
  · obtain ⟨n, rfl, hn, hf, hg⟩ := alvB_nat hv
    have e1 : alvE h d n g = 0 := by simp [alvE, hv]
    have e2 : frD h d n g = { pay := upd d.pay n 0, gen := upd d.gen n (nxG (d.gen n)), R := upd d.R (h.pt n) (d.R (h.pt n) ++ [n]) } := by simp [frD, hv]
    rw [e1] at hal ⊢
    rw [e2]
    clear e1 e2 hv hg
    go_enter Try.func25, Try.ntmps25
    go_wp2_with fail
    refine hal.mono ?_
    rintro e w2 ⟨rfl, hb2⟩
    have H2 : Hid (Ax w2 o h d) := HW.out.below hb2
    have d0 := (hb2.cell (p := ⟨w.heap.size, 0, none⟩) (cell_lt c0)).trans c0
    have B2 := (But.of hB : But o.has w _).below' hb2
    clear hb2 c0 c1 cf
    go_wp2_with fail
    refine (home_a o h d n w2 H2.out hn).mono ?_
    rintro e w3 ⟨rfl, hb3⟩
    have H3 : Hid (Ax w3 o h d) := H2.out.below hb3
    have B3 := B2.below' hb3
    have f0 := (hb3.cell (p := ⟨w.heap.size, 0, none⟩) (cell_lt d0)).trans d0
    have hs : o.has o.bs := .inr (.inr (.inl (H2.out.sa (by omega))))
    have hp : o.has o.bp := .inr (.inl rfl)
    have q1 := H3.out.sh.ql hn
    have q2 := H3.out.g n hn
    have q3 := H3.out.fp (h.pt n * 258 + 2 + h.ql n)
    have q4 := H3.out.sh.n4
    have HG : Hid (Ax _ o h { d with gen := upd d.gen n (nxG (d.gen n)) }) := (H3.out.setGen hn (nxG_ok (d.gen n))).below ((Below.refl _ _).drew)
    have BG := (B3.setCell (p := ⟨o.bp, h.pt n * 258 + 2 + h.ql n, none⟩) hp (.int .u64 (nxG (d.gen n)))).drew
    have g0 : (w3.setCell ⟨o.bp, h.pt n * 258 + 2 + h.ql n, none⟩ (.int .u64 (nxG (d.gen n)))).drew.cell? ⟨w.heap.size, 0, none⟩ = some (.int .i64 n) := by
      show (w3.setCell _ _).cell? _ = _
      rw [cell_set_ne (.inl fun e => hno (by rw [e]; exact hp))]; exact f0
    clear hb3 d0 HW hal
    go_wp2_with fail
    go_region
    rw [show IntKind.u64.wrap (d.gen n + 1) = nxG (d.gen n) from rfl]
    generalize (w3.setCell ⟨o.bp, h.pt n * 258 + 2 + h.ql n, none⟩ (.int .u64 (nxG (d.gen n)))).drew = w4 at *
    have l1 := HG.out.c1
    rw [HG.out.sa (by omega)] at l1
    have s1 := HG.out.s1 n hn
    have sf := HG.out.fs (by omega) (n * 2 + 1)
    have hf4 : ({ d with gen := upd d.gen n (nxG (d.gen n)) } : Da).fr h n = false := hf
    have HP : Hid (Ax (w4.setCell ⟨o.bs, n * 2 + 1, none⟩ (.int .u64 0)).drew o h { pay := upd d.pay n 0, gen := upd d.gen n (nxG (d.gen n)), R := d.R }) := (HG.out.setPay hn (fun _ => rfl) (x := 0) (by omega)).below ((Below.refl _ _).drew)
    have BP := (BG.setCell (p := ⟨o.bs, n * 2 + 1, none⟩) hs (.int .u64 0)).drew
    have i0 : (w4.setCell ⟨o.bs, n * 2 + 1, none⟩ (.int .u64 0)).drew.cell? ⟨w.heap.size, 0, none⟩ = some (.int .i64 n) := by
      show (w4.setCell _ _).cell? _ = _
      rw [cell_set_ne (.inl fun e => hno (by rw [e]; exact hs))]; exact g0
    clear q2 q3 f0
    go_wp2_with fail
    go_region
    generalize (w4.setCell ⟨o.bs, n * 2 + 1, none⟩ (.int .u64 0)).drew = w5 at *
    have m1 := HP.out.c1
    rw [HP.out.sa (by omega)] at m1
    have m2 := HP.out.c2
    have t0 := HP.out.s0 n hn
    clear l1 s1 sf g0 HG BG H3 B3
    have hpt := (HP.out.sh.at_ n hn).1
    have hwn : whr d.R h.P n = none := by
      have := HP.out.whr hn
      rw [show (Da.fr h { pay := upd d.pay n 0, gen := upd d.gen n (nxG (d.gen n)), R := d.R } n) = false from hf] at this
      simpa using this
    have r1 : inR h.P (h.pt n : Int) = true := inR_iff.2 (by omega)
    have r2 : inR h.N (n : Int) = true := inR_iff.2 (by omega)
    have pE : pushE h.N h.P d.R (h.pt n : Int) (n : Int) = 0 := by simp [pushE, r1, r2, hwn]
    have pR : pushR h.N h.P d.R false (h.pt n : Int) (n : Int) = upd d.R (h.pt n) (d.R (h.pt n) ++ [n]) := by simp [pushR, pE]
    have HC : Hid (∀ W, Ax W o h { pay := upd d.pay n 0, gen := upd d.gen n (nxG (d.gen n)), R := d.R } → Calls Try.prog 28 #[o.l.ptr, .int .i64 (h.pt n : Int), .int .i64 (n : Int)] W fun e w' => e = .returned (.int .i64 0) ∧ Kv w' o.l h.N h.P (upd d.R (h.pt n) (d.R (h.pt n) ++ [n])) ∧ But o.l.has W w') := by
      intro W hW
      have := push_k o.l h.N h.P d.R (h.pt n) n W hW.kv
      rw [pE, pR] at this
      exact this
    have HD : Hid (({ pay := upd d.pay n 0, gen := upd d.gen n (nxG (d.gen n)), R := upd d.R (h.pt n) (d.R (h.pt n) ++ [n]) } : Da).Ok h) := by
      have hd := HP.out.da
      refine ⟨?_, ?_, hd.g64, hd.p64⟩
      · intro k hk y hy
        have hy' : y ∈ upd d.R (h.pt n) (d.R (h.pt n) ++ [n]) k := hy
        by_cases e : k = h.pt n
        · subst e
          rw [upd_at] at hy'
          rcases List.mem_append.1 hy' with h1 | h1
          · exact hd.own _ hk y h1
          · simp at h1; rw [h1]
        · rw [upd_ne e] at hy'; exact hd.own k hk y hy'
      · intro k hk y hy
        have hy' : y ∈ upd d.R (h.pt n) (d.R (h.pt n) ++ [n]) k := hy
        by_cases e : k = h.pt n
        · subst e
          rw [upd_at] at hy'
          rcases List.mem_append.1 hy' with h1 | h1
          · exact hd.zero _ hk y h1
          · simp at h1; rw [h1]; exact upd_at _ _ _
        · rw [upd_ne e] at hy'; exact hd.zero k hk y hy'
    clear pE pR r1 r2 hwn hf4
    have z0 : w5.drew.cell? ⟨w.heap.size, 0, none⟩ = some (.int .i64 n) := i0
    have z1 : w5.drew.cell? ⟨o.p, 1, none⟩ = some (.slice (some ⟨o.bs, 0, none⟩) h.N o.sc) := m1
    have z2 : w5.drew.cell? ⟨o.p, 2, none⟩ = some o.l.ptr := m2
    have z3 : w5.drew.cell? ⟨o.bs, n * 2, none⟩ = some (.int .i64 (h.pt n : Int)) := t0
    have k1 : ¬ o.l.has w.heap.size := fun hb => hno (.inr (.inr (.inr hb)))
    have k2 := HP.out.n3.1
    have k3 := (HP.out.n2 o.bs (HP.out.sa (by omega))).2.2
    have H5 : Hid (Ax w5.drew o h { pay := upd d.pay n 0, gen := upd d.gen n (nxG (d.gen n)), R := d.R }) := HP.out.below ((Below.refl _ _).drew)
    have hcall := HC.out w5.drew H5.out
    have i1 : (0 : Int) ≤ (n : Int) := by omega
    have i2 : (n : Int) < (h.N : Int) := by omega
    go_wp2_with fail
    go_region_held3 (fun W => W.cell? ⟨w.heap.size, 0, none⟩ = some (.int .i64 n) ∧ W.cell? ⟨o.p, 1, none⟩ = some (.slice (some ⟨o.bs, 0, none⟩) h.N o.sc) ∧ W.cell? ⟨o.p, 2, none⟩ = some o.l.ptr ∧ W.cell? ⟨o.bs, n * 2, none⟩ = some (.int .i64 (h.pt n : Int))) (first | assumption | exact ⟨z0, z1, z2, z3⟩ | exact ⟨y0, y1, y2, y3⟩) (first
      | (go_at_call 28; (with_reducible refine hcall.mono ?_); rintro e w6 ⟨rfl, hk6, hb6⟩; have y0 := hb6.cell z0 k1; have y1 := hb6.cell z1 k2; have y2 := hb6.cell z2 k2; have y3 := hb6.cell z3 k3))
    have H6 : Hid (Ax w6 o h _) := H5.out.setR hb6 hk6 HD.out
    have B6 := BP.drew.trans hb6.lists
    clear hk6 hb6 y0 y1 y2 y3 z0 z1 z2 z3
    go_wp2_with fail
    go_ret
    exact ⟨rfl, H6.out, B6⟩
end Go.Proofs.Ytobpignlamekmaa
