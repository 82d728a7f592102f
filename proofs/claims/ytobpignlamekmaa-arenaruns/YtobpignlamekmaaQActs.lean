/- The document's arena: Alloc, Drop. -/
import Derived.Test.YtobpignlamekmaaQReg
namespace Go.Proofs.Ytobpignlamekmaa
open Go.RowKit Go.Sort
set_option maxRecDepth 100000

/-- a store into a block of another kind -/
theorem Qx.setOther {w : World} {q : Qo} {h : Sh} {s : Qs} {b : Nat} (a : Qx w q h s) (hk : ∃ cs, w.heap[b]? = some (.cells cs 36 (0, 0))) (i : Nat) (u : Value) : Qx (w.setCell ⟨b, i, none⟩ u) q h s := by
  have n0 := kind_ne a.kp hk (by decide)
  have n1 := kind_ne a.kz hk (by decide)
  have n2 := kind_ne a.kf hk (by decide)
  have n3 := fun hn => kind_ne (a.kc hn) hk (by decide)
  refine ⟨?_, ?_, ?_, a.cl, ?_, ?_, ?_, ?_, ?_, kind_set a.kf, fun hn => kind_set (a.kc hn), kind_set a.kp, kind_set a.kz, a.lo, a.fP, a.len⟩
  · rw [cell_set_ne (.inl n0)]; exact a.c0
  · rw [cell_set_ne (.inl n0)]; exact a.c1
  · rw [cell_set_ne (.inl n0)]; exact a.c2
  · intro k hk; rw [cell_set_ne (.inl n1)]; exact a.z k hk
  · intro n hn; rw [cell_set_ne (.inl (n3 (by omega)))]; exact a.y0 n hn
  · intro n hn; rw [cell_set_ne (.inl (n3 (by omega)))]; exact a.y1 n hn
  · intro n hn; rw [cell_set_ne (.inl (n3 (by omega)))]; exact a.y2 n hn
  · intro k hkk
    obtain ⟨v, h1, h2⟩ := a.row k hkk
    exact ⟨v, by rw [cell_set_ne (.inl n2)]; exact h1, own_set h2 hk (by decide) _ _⟩
/-- what an arena's free lists are, whatever memory they lie in -/
structure Fr (h : Sh) (d : Da) : Prop where
  sh : h.Ok
  ok : d.Ok h
  rng : ∀ k, k < h.P → ∀ x, x ∈ d.R k → x < h.N
  nd : ∀ k, k < h.P → (d.R k).Nodup
theorem Ax.fr' {w : World} {o : Po} {h : Sh} {d : Da} (a : Ax w o h d) : Fr h d := ⟨a.sh, a.da, fun _ hk _ hx => a.rng hk hx, fun _ hk => a.nodup hk⟩

theorem rown_cells {w : World} {B g c : Nat} {l : List Nat} (h : w.ownsRow B 3 1 (.slice (some ⟨g, 0, none⟩) l.length c) l.length (encL l)) : l.length ≤ c ∧ ∀ j u, (encL l)[j]? = some u → w.cell? ⟨g, j, none⟩ = some u := by
  rcases h.2 with ⟨e, _⟩ | ⟨g', cap, cur, e, _, hg, h3, _, _, htk⟩
  · cases e
  · injection e with e1 e2 e3
    have e4 : g = g' := by injection e1 with e5; injection e5
    refine ⟨by omega, fun j u hj => ?_⟩
    have hjl := (List.getElem?_eq_some_iff.1 hj).1
    rw [encL_len] at hjl
    rw [e4, cell_of_row _ _ j _ _ (0, 0) hg, ← hj, ← htk, List.getElem?_take_of_lt (by omega)]
    simp

theorem q_al {h : Sh} {d : Da} (f : Fr h d) {k n : Nat} {l : List Nat} (hk : k < h.P) (hR : d.R k = n :: l) (hR' : popR h.P d.R (k : Int) = upd d.R k l) : ∀ m, m < h.N → upd (qOf h d).hd n true m = (qOf h (alD h d (k : Int))).hd m := by
  intro m _
  have hpt := f.ok.own k hk n (by rw [hR]; simp)
  have hnd := f.nd k hk
  rw [hR, List.nodup_cons] at hnd
  show upd (fun n => !d.fr h n) n true m = !decide (m ∈ popR h.P d.R (k : Int) (h.pt m))
  rw [hR']
  by_cases e : m = n
  · subst e
    rw [upd_at, hpt, upd_at]
    simp [hnd.1]
  · rw [upd_ne e]
    show (!decide (m ∈ d.R (h.pt m))) = _
    by_cases e2 : h.pt m = k
    · rw [e2, upd_at, hR]; simp [e]
    · rw [upd_ne e2]

set_option maxHeartbeats 4000000 in
theorem ralloc_q (q : Qo) (h : Sh) (d : Da) (x : Int) (w : World) (a : Qx w q h (qOf h d)) (f : Fr h d) :
    Calls Try.prog 29 #[q.ptr, .int .i64 x] w fun e w' => e = .returned (.tuple #[.agg #[.int .i64 (alN h d x), .int .u64 (alG h d x)], .int .i64 (alE h d x)]) ∧ Qx w' q h (qOf h (alD h d x)) ∧ But q.wr w w' := by
  have HK : Hid (Qx w q h (qOf h d)) := a
  have HF : Hid (Fr h d) := f
  clear a f
  have hB := below_box w (.cells #[.int .i64 0, .int .u64 0] 36)
  obtain ⟨c0, c1, cf⟩ := box2 (w := w) (x := .int .i64 0) (y := .int .u64 0) (T := 36) (Below.refl _ _)
  obtain ⟨W, hW⟩ : ∃ W, w.alloc (.cells #[.int .i64 0, .int .u64 0] 36) = W := ⟨_, rfl⟩
  rw [hW] at c0 c1 cf hB
  have KB : Hid (∃ cs, W.heap[w.heap.size]? = some (.cells cs 36 (0, 0))) := ⟨_, hW ▸ World.alloc_heap_new w _⟩
  have HW : Hid (Qx W q h (qOf h d)) := HK.out.below hB
  have hp := rpart_q q h _ x W HW.out
  have l2 := HW.out.c2
  cases hh : inR h.P x
  · have hpb : popB h.P d.R x = false := by simp [popB, hh]
    rw [show alE h d x = 5 by simp [alE, hh], show alN h d x = 0 by simp [alN, popI, hpb], show alG h d x = 0 by simp [alG, hpb], show alD h d x = d by simp [alD, popR, hpb]]
    rw [hh] at hp
    clear hpb l2
    go_enter Try.func29, Try.ntmps29
    go_wp2_with fail
    refine hp.mono ?_
    rintro e w2 ⟨rfl, e2⟩
    subst e2
    go_wp2_with fail
    refine bodyPost_ret (v := .tuple #[.agg #[.int .i64 0, .int .u64 0], .int .i64 5]) (by simp [results, Try.results29, go_sem, c0, c1]) rfl ⟨rfl, ?_, ?_⟩
    · exact HK.out.below ((hB.setCell (Nat.le_refl _) _).setCell (Nat.le_refl _) _)
    · exact But.of ((hB.setCell (Nat.le_refl _) _).setCell (Nat.le_refl _) _)
  · rw [hh] at hp
    obtain ⟨k, rfl, hk⟩ := inR_nat hh
    obtain ⟨v, hv, hrow⟩ := HW.out.row k hk
    have eR : (qOf h d).R k = d.R k := rfl
    rw [eR] at hrow
    have hP := HF.out.sh.p16
    have i3 : (0 : Int) ≤ (k : Int) := by omega
    have i4 : (k : Int) < (h.P : Int) := by omega
    cases hR : d.R k with
    | nil =>
      rw [hR] at hrow
      obtain ⟨va, vc, rfl⟩ := own_len hrow
      have hpb : popB h.P d.R (k : Int) = false := by simp [popB, hR]
      rw [show alE h d (k : Int) = 61 by simp [alE, hh, hpb], show alN h d (k : Int) = 0 by simp [alN, popI, hpb], show alG h d (k : Int) = 0 by simp [alG, hpb], show alD h d (k : Int) = d by simp [alD, popR, hpb]]
      simp only [List.length_nil] at hv
      clear hpb hrow hR eR
      go_enter Try.func29, Try.ntmps29
      go_wp2_with fail
      refine hp.mono ?_
      rintro e w2 ⟨rfl, e2⟩
      subst e2
      go_wp2_with fail
      refine bodyPost_ret (v := .tuple #[.agg #[.int .i64 0, .int .u64 0], .int .i64 61]) (by simp [results, Try.results29, go_sem, c0, c1]) rfl ⟨rfl, ?_, ?_⟩
      · exact HK.out.below ((hB.setCell (Nat.le_refl _) _).setCell (Nat.le_refl _) _)
      · exact But.of ((hB.setCell (Nat.le_refl _) _).setCell (Nat.le_refl _) _)
    | cons n l =>
      have hm : n ∈ d.R k := by rw [hR]; simp
      have hn := HF.out.rng k hk n hm
      have hpb : popB h.P d.R (k : Int) = true := by simp [popB, hh, hR]
      have hI : popI h.P d.R (k : Int) = (n : Int) := by simp [popI, hpb, hR]
      have hR' : popR h.P d.R (k : Int) = upd d.R k l := by simp [popR, hpb, hR]
      have HHd : Hid (∀ m, m < h.N → upd (qOf h d).hd n true m = (qOf h (alD h d (k : Int))).hd m) := q_al HF.out hk hR hR'
      have HRp : Hid (popR h.P d.R (k : Int) = upd d.R k l) := hR'
      rw [show alE h d (k : Int) = 0 by simp [alE, hh, hpb], show alN h d (k : Int) = (n : Int) from hI, show alG h d (k : Int) = d.gen n by simp [alG, hpb, hI]]
      have hlen : (n :: l).length ≤ 4096 := by have := HW.out.len k hk; rw [eR, hR] at this; exact this
      rw [hR] at hrow
      obtain ⟨va, vc, rfl⟩ := own_len hrow
      obtain ⟨g, rfl⟩ : ∃ g, va = some ⟨g, 0, none⟩ := by
        rcases hrow.2 with ⟨e, _⟩ | ⟨g, cap, cur, e, _⟩
        · cases e
        · injection e with e1 e2 e3; exact ⟨g, e1⟩
      obtain ⟨hcap, hcells⟩ := rown_cells hrow
      have hg0 := hcells 0 (.int .i64 (n : Int)) rfl
      simp only [List.length_cons] at hv hcap hlen
      have HRow : Hid (World.ownsRow _ _ _ _ _ _ _) := hrow
      obtain ⟨off2, ho1, ho2⟩ : ∃ off2 : Nat, (vc = 1 → off2 = 0) ∧ (¬ vc = 1 → off2 = 1) := by
        by_cases e : vc = 1
        · exact ⟨0, fun _ => rfl, fun h => absurd e h⟩
        · exact ⟨1, fun h => absurd h e, fun _ => rfl⟩
      have HH1 : Hid (vc = 1 → off2 = 0) := ho1
      have HH2 : Hid (¬ vc = 1 → off2 = 1) := ho2
      have HCL : Hid (∀ j u, (encL (n :: l))[j]? = some u → W.cell? ⟨g, j, none⟩ = some u) := hcells
      clear hpb hI hR' hm hrow hcells ho1 ho2 eR hR hh
      go_enter Try.func29, Try.ntmps29
      go_wp2_with fail
      refine hp.mono ?_
      rintro e w2 ⟨rfl, e2⟩
      subst e2
      go_wp2_with fail
      refine al_region (p := q.p) (bf := q.bf) (m := h.P) (fc := q.fc) (k := k) (g := g) (cap := vc) (off2 := off2) (x := n) (l := l) (by simp) rfl rfl (by kernel_rfl) (by kernel_rfl) (by kernel_rfl) rfl rfl rfl rfl rfl rfl rfl rfl rfl rfl rfl rfl rfl rfl rfl rfl rfl rfl rfl rfl rfl rfl rfl rfl rfl rfl rfl rfl rfl rfl rfl rfl rfl rfl rfl rfl rfl rfl rfl rfl hk (by omega) (by omega) HH1.out HH2.out l2 hv (fun W' hW' => (World.frozen?_of_block (w := w2) (a := ⟨q.bf, k, none⟩) (hW'.block _ (cell_lt hv))).trans (kind_fz HW.out.kf)) HCL.out (by kernel_rfl) (by kernel_rfl) (by kernel_rfl) (by kernel_rfl) (fun _ _ d _ _ h => by cases d <;> exact h) ?_
      intro vB v' W3 hrow3 hb3
      have hQ3 := (HW.out.below hb3)
      have hB3 : q.B ≤ w2.heap.size := Nat.le_trans HW.out.lo.1 (Nat.le_of_lt HW.out.lt.1)
      have HQ4 : Hid (Qx (W3.setCell ⟨q.bf, k, none⟩ v') q h { qOf h d with R := upd d.R k l }) := hQ3.setRow hk (own_low hrow3 hB3) (by omega)
      have B4 : But q.wr w (W3.setCell ⟨q.bf, k, none⟩ v') := ((But.of hB : But q.wr w w2).trans (But.of hb3)).setCell (p := ⟨q.bf, k, none⟩) (.inl rfl) v'
      have nb : w.heap.size ≠ q.bf := fun e => by have := HK.out.lt.2.2.1; omega
      have d0 : (W3.setCell ⟨q.bf, k, none⟩ v').cell? ⟨w.heap.size, 0, none⟩ = some (.int .i64 0) := by rw [cell_set_ne (.inl nb)]; exact (hb3.cell (p := ⟨w.heap.size, 0, none⟩) (cell_lt c0)).trans c0
      have d1 : (W3.setCell ⟨q.bf, k, none⟩ v').cell? ⟨w.heap.size, 1, none⟩ = some (.int .u64 0) := by rw [cell_set_ne (.inl nb)]; exact (hb3.cell (p := ⟨w.heap.size, 1, none⟩) (cell_lt c0)).trans c1
      have df : ∀ i, (W3.setCell ⟨q.bf, k, none⟩ v').frozen? ⟨w.heap.size, i, none⟩ = false := fun i => by rw [fz_set]; exact (World.frozen?_of_block (w := w2) (a := ⟨w.heap.size, i, none⟩) (hb3.block _ (cell_lt c0))).trans (cf i)
      have KB4 : Hid (∃ cs, (W3.setCell ⟨q.bf, k, none⟩ v').heap[w.heap.size]? = some (.cells cs 36 (0, 0))) := kind_set (by obtain ⟨cs, hcs⟩ := KB.out; exact ⟨cs, (hb3.block _ (cell_lt c0)).trans hcs⟩)
      clear hQ3 hrow3 hb3 c0 c1 cf HRow HCL hv l2 hg0
      generalize W3.setCell ⟨q.bf, k, none⟩ v' = W4 at *
      simp only [Act.put, List.setIfInBounds_toArray, List.set_cons_zero, List.set_cons_succ]
      have m1 := HQ4.out.c1
      rw [HQ4.out.cl (by omega)] at m1
      have y2 := HQ4.out.y2 n hn
      have sf := kind_fz (i := n * 3 + 2) (HQ4.out.kc (by omega))
      have HQ5 : Hid (Qx (W4.setCell ⟨q.bc, n * 3 + 2, none⟩ (.bool true)) q h { qOf h d with R := upd d.R k l, hd := upd (qOf h d).hd n true }) := HQ4.out.setHd hn true
      have y1 : (W4.setCell ⟨q.bc, n * 3 + 2, none⟩ (.bool true)).cell? ⟨q.bc, n * 3 + 1, none⟩ = some (.int .u64 (d.gen n)) := HQ5.out.y1 n hn
      have m2 := HQ5.out.c1
      rw [HQ5.out.cl (by omega)] at m2
      have nb2 : w.heap.size ≠ q.bc := fun e => by have := HK.out.lt.2.2.2 (by omega); omega
      have e0 : (W4.setCell ⟨q.bc, n * 3 + 2, none⟩ (.bool true)).cell? ⟨w.heap.size, 0, none⟩ = some (.int .i64 0) := by rw [cell_set_ne (.inl nb2)]; exact d0
      have e1 : (W4.setCell ⟨q.bc, n * 3 + 2, none⟩ (.bool true)).cell? ⟨w.heap.size, 1, none⟩ = some (.int .u64 0) := by rw [cell_set_ne (.inl nb2)]; exact d1
      have ef : ∀ i, (W4.setCell ⟨q.bc, n * 3 + 2, none⟩ (.bool true)).frozen? ⟨w.heap.size, i, none⟩ = false := fun i => by rw [fz_set]; exact df i
      have B5 := B4.setCell (p := ⟨q.bc, n * 3 + 2, none⟩) (.inr (HQ4.out.cl (by omega))) (.bool true)
      obtain ⟨W5, hW5⟩ : ∃ W5, W4.setCell ⟨q.bc, n * 3 + 2, none⟩ (.bool true) = W5 := ⟨_, rfl⟩
      have KB5 : Hid (∃ cs, (W4.setCell ⟨q.bc, n * 3 + 2, none⟩ (.bool true)).heap[w.heap.size]? = some (.cells cs 36 (0, 0))) := kind_set KB4.out
      rw [hW5] at HQ5 y1 m2 e0 e1 ef B5 KB5
      clear d0 d1 df
      go_wp2_with fail
      refine bodyPost_ret (v := .tuple #[.agg #[.int .i64 (n : Int), .int .u64 (d.gen n)], .int .i64 0]) (by simp [results, Try.results29, go_sem, e0, e1]) rfl ⟨rfl, ?_, ?_⟩
      · have hq := (HQ5.out.congr (s' := qOf h (alD h d (k : Int))) (fun _ _ => rfl) (fun _ _ => rfl) HHd.out (fun j _ => by show upd d.R k l j = popR h.P d.R (k : Int) j; rw [HRp.out]))
        exact (hq.setOther KB5.out _ _).setOther (kind_set KB5.out) _ _
      · exact (B5.setNew (Nat.le_refl _) _).setNew (Nat.le_refl _) _

theorem q_fr {h : Sh} {d : Da} {n : Nat} {g : Int} (hal : alvB h d (n : Int) g = true) : (∀ m, m < h.N → upd (qOf h d).hd n false m = (qOf h (frD h d (n : Int) g)).hd m) := by
  intro m _
  have hfr : frD h d (n : Int) g = { pay := upd d.pay n 0, gen := upd d.gen n (nxG (d.gen n)), R := upd d.R (h.pt n) (d.R (h.pt n) ++ [n]) } := by simp [frD, hal]
  rw [hfr]
  show upd (fun n => !d.fr h n) n false m = !decide (m ∈ upd d.R (h.pt n) (d.R (h.pt n) ++ [n]) (h.pt m))
  by_cases e : m = n
  · subst e
    rw [upd_at, upd_at]; simp
  · rw [upd_ne e]
    show (!decide (m ∈ d.R (h.pt m))) = _
    by_cases e2 : h.pt m = h.pt n
    · rw [e2, upd_at]; simp [e]
    · rw [upd_ne e2]

set_option maxHeartbeats 4000000 in
theorem rdrop_q (q : Qo) (h : Sh) (d : Da) (x g : Int) (w : World) (a : Qx w q h (qOf h d)) (f : Fr h d) (c : Cont h) :
    Calls Try.prog 32 #[q.ptr, .agg #[.int .i64 x, .int .u64 g]] w fun e w' => e = .returned (.int .i64 (alvE h d x g)) ∧ Qx w' q h (qOf h (frD h d x g)) ∧ But q.wr w w' := by
  have HK : Hid (Qx w q h (qOf h d)) := a
  have HF : Hid (Fr h d) := f
  have HC : Hid (Cont h) := c
  clear a f c
  have hB := below_box w (.cells #[.int .i64 x, .int .u64 g] 36)
  obtain ⟨c0, c1, cf⟩ := box2 (w := w) (x := .int .i64 x) (y := .int .u64 g) (T := 36) (Below.refl _ _)
  obtain ⟨W, hW⟩ : ∃ W, w.alloc (.cells #[.int .i64 x, .int .u64 g] 36) = W := ⟨_, rfl⟩
  rw [hW] at c0 c1 cf hB
  have HW : Hid (Qx W q h (qOf h d)) := HK.out.below hB
  have hal := ralive_q q h d x g W HW.out
  cases hv : alvB h d x g
  · have e1 : alvE h d x g = 62 := by simp [alvE, hv]
    have e2 : frD h d x g = d := by simp [frD, hv]
    rw [hv] at hal
    rw [e1, e2]
    go_enter Try.func32, Try.ntmps32
    go_wp2_with fail
    refine hal.mono ?_
    rintro e w2 ⟨rfl, hb2⟩
    go_wp2_with fail
    go_ret
    exact ⟨rfl, HW.out.below hb2, (But.of hB : But q.wr w _).trans (But.of hb2)⟩
  · rw [hv] at hal
    have hv2 := hv
    obtain ⟨n, rfl, hn, hf, hg⟩ := alvB_nat hv
    rw [show alvE h d (n : Int) g = 0 by simp [alvE, hv]]
    have HHd : Hid (∀ m, m < h.N → upd (qOf h d).hd n false m = (qOf h (frD h d (n : Int) g)).hd m) := q_fr hv2
    have HFr : Hid (frD h d (n : Int) g = { pay := upd d.pay n 0, gen := upd d.gen n (nxG (d.gen n)), R := upd d.R (h.pt n) (d.R (h.pt n) ++ [n]) }) := by show _ = _; simp [frD, hv2]
    have HG : Hid (d.gen n = g) := hg
    have hin : inR h.N (n : Int) = true := inR_iff.2 (by omega)
    have hpa := fun W' (hW' : Qx W' q h (qOf h d)) => rPart_q q h _ (n : Int) W' hW' HF.out.sh HC.out (by have := HF.out.sh.n4; omega)
    rw [show ptI h (n : Int) = (h.pt n : Int) by simp [ptI, hin], hin] at hpa
    have hpt := (HF.out.sh.at_ n hn).1
    have hn4 := HF.out.sh.n4
    have hlenN : (d.R (h.pt n) ++ [n]).length ≤ 4096 := by
      refine Nat.le_trans (len_le (n := h.N) ?_ ?_) hn4
      · rw [List.nodup_append]
        refine ⟨HF.out.nd _ hpt, by simp, ?_⟩
        intro y hy z hz e
        simp only [List.mem_singleton] at hz
        rw [e, hz] at hy
        have : d.fr h n = true := by unfold Da.fr; simpa using hy
        rw [hf] at this; cases this
      · intro y hy
        rcases List.mem_append.1 hy with hy | hy
        · exact HF.out.rng _ hpt y hy
        · simp only [List.mem_singleton] at hy; rw [hy]; exact hn
    clear hv hv2 hg hin hf
    go_enter Try.func32, Try.ntmps32
    go_wp2_with fail
    refine hal.mono ?_
    rintro e w2 ⟨rfl, hb2⟩
    have H2 : Hid (Qx w2 q h (qOf h d)) := HW.out.below hb2
    have d0 := (hb2.cell (p := ⟨w.heap.size, 0, none⟩) (cell_lt c0)).trans c0
    have d1 := (hb2.cell (p := ⟨w.heap.size, 1, none⟩) (cell_lt c0)).trans c1
    have B2 := (But.of hB : But q.wr w _).trans (But.of hb2)
    have hp2 := hpa w2 H2.out
    clear hb2 c0 c1 cf hal hpa
    go_wp2_with fail
    refine hp2.mono ?_
    rintro e w3 ⟨rfl, e3⟩
    subst e3
    have l1 := H2.out.c1
    rw [H2.out.cl (by omega)] at l1
    have y0 := H2.out.y0 n hn
    have y1 := H2.out.y1 n hn
    have y2 := H2.out.y2 n hn
    have z0 := kind_fz (i := n * 3) (H2.out.kc (by omega))
    have z1 := kind_fz (i := n * 3 + 1) (H2.out.kc (by omega))
    have z2 := kind_fz (i := n * 3 + 2) (H2.out.kc (by omega))
    have HQ3 : Hid (Qx _ q h { pay := upd d.pay n 0, gen := upd d.gen n (nxG g), hd := upd (qOf h d).hd n false, R := d.R }) := (((H2.out.setPay hn 0).setGen hn (nxG g)).setHd hn false).below ((Below.refl _ _).drew)
    have hs : q.wr q.bc := .inr (H2.out.cl (by omega))
    have B3 := (((B2.setCell (p := ⟨q.bc, n * 3, none⟩) hs (.int .u64 0)).setCell (p := ⟨q.bc, n * 3 + 1, none⟩) hs (.int .u64 (nxG g))).setCell (p := ⟨q.bc, n * 3 + 2, none⟩) hs (.bool false)).drew
    have nb2 : w.heap.size ≠ q.bc := fun e => by have := HK.out.lt.2.2.2 (by omega); omega
    have i0 : ((((w3.setCell ⟨q.bc, n * 3, none⟩ (.int .u64 0)).setCell ⟨q.bc, n * 3 + 1, none⟩ (.int .u64 (nxG g))).setCell ⟨q.bc, n * 3 + 2, none⟩ (.bool false)).drew).cell? ⟨w.heap.size, 0, none⟩ = some (.int .i64 (n : Int)) := by
      show World.cell? (World.setCell _ _ _) _ = _
      rw [cell_set_ne (.inl nb2), cell_set_ne (.inl nb2), cell_set_ne (.inl nb2)]; exact d0
    go_wp2_with fail
    go_region
    rw [show IntKind.u64.wrap (g + 1) = nxG g from rfl]
    generalize (((w3.setCell ⟨q.bc, n * 3, none⟩ (.int .u64 0)).setCell ⟨q.bc, n * 3 + 1, none⟩ (.int .u64 (nxG g))).setCell ⟨q.bc, n * 3 + 2, none⟩ (.bool false)).drew = W4 at *
    clear l1 y0 y1 y2 z0 z1 z2 d0 d1
    obtain ⟨v, hv, hrow⟩ := HQ3.out.row (h.pt n) hpt
    have hlen : (d.R (h.pt n)).length ≤ 4096 := HQ3.out.len (h.pt n) hpt
    have hrow2 : W4.ownsRow q.B 3 1 v (d.R (h.pt n)).length (encL (d.R (h.pt n))) := hrow
    obtain ⟨va, vc, rfl⟩ := own_len hrow2
    have l2 := HQ3.out.c2
    have hkf := HQ3.out.kf
    have HR2 : Hid (World.ownsRow _ _ _ _ _ _ _) := hrow2
    clear hrow hrow2
    go_wp2_with fail
    refine drop_region (p := q.p) (bf := q.bf) (m := h.P) (fc := q.fc) (k := h.pt n) (bx := w.heap.size) (x := n) (va := va) (vc := vc) (B := q.B) (r := d.R (h.pt n)) (by simp) rfl rfl (by kernel_rfl) (by kernel_rfl) (by kernel_rfl) rfl rfl rfl rfl rfl rfl rfl rfl rfl rfl rfl rfl rfl rfl rfl rfl rfl rfl rfl rfl rfl rfl rfl rfl rfl rfl rfl rfl rfl rfl rfl rfl rfl rfl rfl rfl rfl rfl rfl rfl rfl rfl rfl rfl rfl rfl rfl rfl rfl hpt (by omega) l2 hv i0 (fun W' hW' => (World.frozen?_of_block (w := W4) (a := ⟨q.bf, h.pt n, none⟩) (hW'.block _ (cell_lt hv))).trans (kind_fz hkf)) HR2.out (by kernel_rfl) (by kernel_rfl) (by kernel_rfl) (by kernel_rfl) (by kernel_rfl) (by kernel_rfl) (by kernel_rfl) (by kernel_rfl) (by kernel_rfl) (fun _ _ d _ _ h => by cases d <;> exact h) ?_
    intro vA vB vC v' W5 hrow5 hb5
    have hB5 : q.B ≤ W4.heap.size := Nat.le_trans HQ3.out.lo.1 (Nat.le_of_lt HQ3.out.lt.1)
    have HQ5 : Hid (Qx (W5.setCell ⟨q.bf, h.pt n, none⟩ v') q h { pay := upd d.pay n 0, gen := upd d.gen n (nxG g), hd := upd (qOf h d).hd n false, R := upd d.R (h.pt n) (d.R (h.pt n) ++ [n]) }) := (HQ3.out.below hb5).setRow hpt (own_low hrow5 hB5) hlenN
    have B5 := (B3.trans (But.of hb5)).setCell (p := ⟨q.bf, h.pt n, none⟩) (.inl rfl) v'
    clear hrow5 hb5 hv l2 i0
    generalize W5.setCell ⟨q.bf, h.pt n, none⟩ v' = W6 at *
    simp only [Act.put, List.setIfInBounds_toArray, List.set_cons_zero, List.set_cons_succ]
    go_wp2_with fail
    go_ret
    refine ⟨rfl, HQ5.out.congr (fun j _ => by rw [HFr.out]; rfl) (fun j _ => by rw [HFr.out, HG.out]; rfl) HHd.out (fun j _ => by rw [HFr.out]; rfl), B5⟩
end Go.Proofs.Ytobpignlamekmaa
