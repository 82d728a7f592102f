/- A table's With, Find, Drop, Mint, New. -/
import Derived.Test.YtimmjhegeagofacVMem
namespace Go.Proofs.Ytimmjhegeagofac
open Go.RowKit Go.Sort
set_option maxRecDepth 100000

theorem tkh_lt {T : Tb} {h : Int} (ht : tkh T h = true) : plc h < T.n := (tkh_parts ht).1
/-- a cap's block, two cells -/
theorem cap_box (w : World) (a b : Value) : Bx (w.alloc (.cells #[a, b] 30)) w.heap.size [a, b] := bx_new w [a, b] 30
set_option maxHeartbeats 2000000 in
theorem twith_any (p : Nat) (h r : Int) (T : Tb) (w : World) (hx : Tx w p T) (h0 : 0 ≤ h) (h1 : h < 4294967296) :
    Calls Try.prog 14 #[tbV p, .int .u32 h, .int .u8 r] w fun e w' => e = .returned (.tuple #[capV (wtP T h r), .bool (wtB T h r)]) ∧ Below w.heap.size w w' := by
  have hA := fun W (hW : Tx W p T) => tat_any p h T W hW h0 h1
  have H : Hid (Tx w p T) := hx
  have HP : Hid (wtP T h r = if wtB T h r then T.at_ (plc h) else pc0) := rfl
  have HW : Hid (wtB T h r = (tkh T h && cov (T.at_ (plc h)).r r)) := rfl
  have hn := hx.ok.n32
  clear hx
  have BX : Hid (Bx (w.alloc (.cells #[.int .i64 0, .int .u8 0] 30)) w.heap.size [.int .i64 0, .int .u8 0]) := cap_box w _ _
  have B1 : Hid (Below w.heap.size w (w.alloc (.cells #[.int .i64 0, .int .u8 0] 30))) := below_new _ _
  have FZ : Hid (∀ i, (w.alloc (.cells #[.int .i64 0, .int .u8 0] 30)).frozen? ⟨w.heap.size, i, none⟩ = false) := fun i => frozen_of_row _ _ i _ _ (gheap_new w _)
  generalize hg : w.alloc (.cells #[.int .i64 0, .int .u8 0] 30) = w1 at *
  cases ht : tkh T h
  · have e1 : wtB T h r = false := by rw [HW.out, ht]; rfl
    have e2 : wtP T h r = pc0 := by rw [HP.out, e1]; rfl
    rw [e1, e2]
    rw [ht] at hA
    show Calls _ _ _ _ (fun e w' => e = .returned (.tuple #[.agg #[.int .i64 0, .int .u8 0], .bool false]) ∧ Below w.heap.size w w')
    replace hA : ∀ W, Tx W p T → Calls Try.prog 20 #[tbV p, .int .u32 h] W fun e w' => e = .returned (.tuple #[.int .i64 0, .bool false]) ∧ Below W.heap.size W w' := hA
    clear ht e1 e2 HP HW
    go_enter Try.func14, Try.ntmps14
    go_wp2_with fail
    refine (hA _ (H.out.below B1.out)).mono ?_
    rintro e w2 ⟨rfl, hb⟩
    have hx2 := BX.out.below hb
    obtain ⟨q0, q1⟩ := hx2.two
    have hlt := hx2.lt
    have f0 : ∀ i, w2.frozen? ⟨w.heap.size, i, none⟩ = false := fun i => (World.frozen?_of_block (w := w1) (a := ⟨w.heap.size, i, none⟩) (hb.block _ BX.out.lt)).trans (FZ.out i)
    have HB : Hid (Below w.heap.size w w2) := Below.onto B1.out hb
    clear hb hA hx2 hg
    go_wp2_with fail
    refine bodyPost_ret (v := .tuple #[.agg #[.int .i64 0, .int .u8 0], .bool false]) (by simp [results, Try.results14, go_sem, q0, q1]) rfl ⟨rfl, ?_⟩
    exact (HB.out.setCell (Nat.le_refl _) _).setCell (Nat.le_refl _) _
  · have hi : plc h < 32 := by have := tkh_lt ht; omega
    obtain ⟨i, hi'⟩ : ∃ i, i = plc h := ⟨_, rfl⟩
    rw [ht] at hA
    replace hA : ∀ W, Tx W p T → Calls Try.prog 20 #[tbV p, .int .u32 h] W fun e w' => e = .returned (.tuple #[.int .i64 (plc h : Int), .bool true]) ∧ Below W.heap.size W w' := hA
    rw [← hi'] at hA hi HP HW
    have HC : Hid (∀ W, Tx W p T → W.cell? ⟨p, 2 + i * 3, none⟩ = some (.int .i64 (T.at_ i).c) ∧ W.cell? ⟨p, 2 + i * 3 + 1, none⟩ = some (.int .u8 (T.at_ i).r) ∧ W.cell? ⟨p, 2 + i * 3 + 2, none⟩ = some (.int .i64 (T.at_ i).g)) := fun W h => ⟨h.pc i (by omega), h.pr i (by omega), h.pg i (by omega)⟩
    have hV := fun W => covers_any (T.at_ i) r W
    have c6 : Try.prog.arrayLen 49 = 32 := by kernel_rfl
    cases hv : cov (T.at_ i).r r
    · have e1 : wtB T h r = false := by rw [HW.out, ht, hv]; rfl
      have e2 : wtP T h r = pc0 := by rw [HP.out, e1]; rfl
      rw [e1, e2]
      rw [hv] at hV
      show Calls _ _ _ _ (fun e w' => e = .returned (.tuple #[.agg #[.int .i64 0, .int .u8 0], .bool false]) ∧ Below w.heap.size w w')
      clear ht e1 e2 HP HW hi' hv
      go_enter Try.func14, Try.ntmps14
      go_wp2_with fail
      refine (hA _ (H.out.below B1.out)).mono ?_
      rintro e w2 ⟨rfl, hb⟩
      have H2 : Hid (Tx w2 p T) := (H.out.below B1.out).below hb
      obtain ⟨k0, k1, k2⟩ := HC.out w2 H2.out
      have kl := H2.out.lt
      have HX2 : Hid (Bx w2 w.heap.size [.int .i64 0, .int .u8 0]) := BX.out.below hb
      have HF2 : Hid (∀ i, w2.frozen? ⟨w.heap.size, i, none⟩ = false) := fun i => (World.frozen?_of_block (w := w1) (a := ⟨w.heap.size, i, none⟩) (hb.block _ BX.out.lt)).trans (FZ.out i)
      have HB : Hid (Below w.heap.size w w2) := Below.onto B1.out hb
      clear hb hA hg
      go_wp2_with fail
      refine (hV _).mono ?_
      rintro e w3 ⟨rfl, hb⟩
      have hx2 := HX2.out.below hb
      obtain ⟨q0, q1⟩ := hx2.two
      have hlt := hx2.lt
      have f0 : ∀ i, w3.frozen? ⟨w.heap.size, i, none⟩ = false := fun i => (World.frozen?_of_block (w := w2) (a := ⟨w.heap.size, i, none⟩) (hb.block _ HX2.out.lt)).trans (HF2.out i)
      have HB3 : Hid (Below w.heap.size w w3) := Below.onto HB.out hb
      clear hb hV hx2 k0 k1 k2 kl
      go_wp2_with fail
      refine bodyPost_ret (v := .tuple #[.agg #[.int .i64 0, .int .u8 0], .bool false]) (by simp [results, Try.results14, go_sem, q0, q1]) rfl ⟨rfl, ?_⟩
      exact (HB3.out.setCell (Nat.le_refl _) _).setCell (Nat.le_refl _) _
    · have e1 : wtB T h r = true := by rw [HW.out, ht, hv]; rfl
      have e2 : wtP T h r = T.at_ i := by rw [HP.out, e1]; rfl
      rw [e1, e2]
      rw [hv] at hV
      clear ht e1 e2 HP HW hi' hv
      go_enter Try.func14, Try.ntmps14
      go_wp2_with fail
      refine (hA _ (H.out.below B1.out)).mono ?_
      rintro e w2 ⟨rfl, hb⟩
      have H2 : Hid (Tx w2 p T) := (H.out.below B1.out).below hb
      obtain ⟨k0, k1, k2⟩ := HC.out w2 H2.out
      have kl := H2.out.lt
      have HX2 : Hid (Bx w2 w.heap.size [.int .i64 0, .int .u8 0]) := BX.out.below hb
      have HF2 : Hid (∀ i, w2.frozen? ⟨w.heap.size, i, none⟩ = false) := fun i => (World.frozen?_of_block (w := w1) (a := ⟨w.heap.size, i, none⟩) (hb.block _ BX.out.lt)).trans (FZ.out i)
      have HB : Hid (Below w.heap.size w w2) := Below.onto B1.out hb
      clear hb hA hg
      go_wp2_with fail
      refine (hV _).mono ?_
      rintro e w3 ⟨rfl, hb⟩
      have hx2 := HX2.out.below hb
      obtain ⟨q0, q1⟩ := hx2.two
      have hlt := hx2.lt
      have f0 : ∀ i, w3.frozen? ⟨w.heap.size, i, none⟩ = false := fun i => (World.frozen?_of_block (w := w2) (a := ⟨w.heap.size, i, none⟩) (hb.block _ HX2.out.lt)).trans (HF2.out i)
      have HB3 : Hid (Below w.heap.size w w3) := Below.onto HB.out hb
      obtain ⟨j0, j1, j2⟩ := HC.out w3 (H2.out.below hb)
      have jl := (H2.out.below hb).lt
      clear hb hV hx2 k0 k1 k2 kl
      go_wp2_with fail
      refine bodyPost_ret (v := .tuple #[capV (T.at_ i), .bool true]) (by simp [results, Try.results14, go_sem, q0, q1]) rfl ⟨rfl, ?_⟩
      exact (HB3.out.setCell (Nat.le_refl _) _).setCell (Nat.le_refl _) _
theorem cov0 (a : Int) (h0 : 0 ≤ a) (h1 : a < 256) : cov a 0 = true := by
  obtain ⟨a, rfl⟩ := Int.eq_ofNat_of_zero_le h0
  have := u8_and_nat a 0 (by omega) (by omega)
  unfold cov
  rw [show ((0 : Int)) = ((0 : Nat) : Int) from rfl, this]
  simp
/-- Find's cap -/
def fdP (T : Tb) (h : Int) : Pc := if tkh T h then T.at_ (plc h) else pc0
set_option maxHeartbeats 2000000 in
theorem tfind_any (p : Nat) (h : Int) (T : Tb) (w : World) (hx : Tx w p T) (h0 : 0 ≤ h) (h1 : h < 4294967296) :
    Calls Try.prog 11 #[tbV p, .int .u32 h] w fun e w' => e = .returned (.tuple #[capV (fdP T h), .bool (tkh T h)]) ∧ Below w.heap.size w w' := by
  have hA := fun W (hW : Tx W p T) => twith_any p h 0 T W hW h0 h1
  have e1 : wtB T h 0 = tkh T h := by unfold wtB; rw [cov0 _ (hx.ok.r _).1 (hx.ok.r _).2]; simp
  have e2 : wtP T h 0 = fdP T h := by unfold wtP fdP; rw [e1]
  rw [e1, e2] at hA
  have H : Hid (Tx w p T) := hx
  clear hx e1 e2
  generalize fdP T h = x at *
  generalize tkh T h = b at *
  have BX : Hid (Bx (w.alloc (.cells #[.int .i64 0, .int .u8 0] 30)) w.heap.size [.int .i64 0, .int .u8 0]) := cap_box w _ _
  have B1 : Hid (Below w.heap.size w (w.alloc (.cells #[.int .i64 0, .int .u8 0] 30))) := below_new _ _
  have FZ : Hid (∀ i, (w.alloc (.cells #[.int .i64 0, .int .u8 0] 30)).frozen? ⟨w.heap.size, i, none⟩ = false) := fun i => frozen_of_row _ _ i _ _ (gheap_new w _)
  generalize hg : w.alloc (.cells #[.int .i64 0, .int .u8 0] 30) = w1 at *
  go_enter Try.func11, Try.ntmps11
  go_wp2_with fail
  refine (hA _ (H.out.below B1.out)).mono ?_
  rintro e w2 ⟨rfl, hb⟩
  have hx2 := BX.out.below hb
  obtain ⟨q0, q1⟩ := hx2.two
  have hlt := hx2.lt
  have f0 : ∀ i, w2.frozen? ⟨w.heap.size, i, none⟩ = false := fun i => (World.frozen?_of_block (w := w1) (a := ⟨w.heap.size, i, none⟩) (hb.block _ BX.out.lt)).trans (FZ.out i)
  have HB : Hid (Below w.heap.size w w2) := Below.onto B1.out hb
  clear hb hA hx2 hg
  go_wp2_with fail
  refine bodyPost_ret (v := .tuple #[capV x, .bool b]) (by simp [results, Try.results11, go_sem, q0, q1]) rfl ⟨rfl, ?_⟩
  exact (HB.out.setCell (Nat.le_refl _) _).setCell (Nat.le_refl _) _

/-- a place is set -/
theorem Tx.put {w : World} {p i : Nat} {T : Tb} (h : Tx w p T) (hi : i < 32) (x : Pc) (ho : (T.set i x).Ok) :
    Tx (((w.setCell ⟨p, 2 + i * 3, none⟩ (.int .i64 x.c)).setCell ⟨p, 2 + i * 3 + 1, none⟩ (.int .u8 x.r)).setCell ⟨p, 2 + i * 3 + 2, none⟩ (.int .i64 x.g)) p (T.set i x) := by
  refine ⟨?_, ?_, fun j hj => ?_, fun j hj => ?_, fun j hj => ?_, fun j => ?_, ho⟩
  · rw [cell_set_ne (.inr (by omega)), cell_set_ne (.inr (by omega)), cell_set_ne (.inr (by omega))]; exact h.c0
  · rw [cell_set_ne (.inr (by omega)), cell_set_ne (.inr (by omega)), cell_set_ne (.inr (by omega))]; exact h.c1
  · by_cases e : j = i
    · subst e
      rw [Tb.set_at, cell_set_ne (.inr (by omega)), cell_set_ne (.inr (by omega)), cell_set_eq (h.pc j hj)]
    · rw [Tb.set_ne _ _ e, cell_set_ne (.inr (by omega)), cell_set_ne (.inr (by omega)), cell_set_ne (.inr (by omega))]; exact h.pc j hj
  · by_cases e : j = i
    · subst e
      rw [Tb.set_at, cell_set_ne (.inr (by omega)), cell_set_eq ((cell_set_ne (.inr (by omega))).trans (h.pr j hj))]
    · rw [Tb.set_ne _ _ e, cell_set_ne (.inr (by omega)), cell_set_ne (.inr (by omega)), cell_set_ne (.inr (by omega))]; exact h.pr j hj
  · by_cases e : j = i
    · subst e
      rw [Tb.set_at, cell_set_eq (((cell_set_ne (.inr (by omega))).trans (cell_set_ne (.inr (by omega)))).trans (h.pg j hj))]
    · rw [Tb.set_ne _ _ e, cell_set_ne (.inr (by omega)), cell_set_ne (.inr (by omega)), cell_set_ne (.inr (by omega))]; exact h.pg j hj
  · rw [fz_set, fz_set, fz_set]; exact h.fz j
/-- a cap is set -/
theorem Tx.putC {w : World} {p i : Nat} {T : Tb} (h : Tx w p T) (hi : i < 32) (c r : Int) (ho : (T.set i ⟨c, r, (T.at_ i).g⟩).Ok) :
    Tx ((w.setCell ⟨p, 2 + i * 3, none⟩ (.int .i64 c)).setCell ⟨p, 2 + i * 3 + 1, none⟩ (.int .u8 r)) p (T.set i ⟨c, r, (T.at_ i).g⟩) := by
  refine ⟨?_, ?_, fun j hj => ?_, fun j hj => ?_, fun j hj => ?_, fun j => ?_, ho⟩
  · rw [cell_set_ne (.inr (by omega)), cell_set_ne (.inr (by omega))]; exact h.c0
  · rw [cell_set_ne (.inr (by omega)), cell_set_ne (.inr (by omega))]; exact h.c1
  · by_cases e : j = i
    · subst e
      rw [Tb.set_at, cell_set_ne (.inr (by omega)), cell_set_eq (h.pc j hj)]
    · rw [Tb.set_ne _ _ e, cell_set_ne (.inr (by omega)), cell_set_ne (.inr (by omega))]; exact h.pc j hj
  · by_cases e : j = i
    · subst e
      rw [Tb.set_at, cell_set_eq ((cell_set_ne (.inr (by omega))).trans (h.pr j hj))]
    · rw [Tb.set_ne _ _ e, cell_set_ne (.inr (by omega)), cell_set_ne (.inr (by omega))]; exact h.pr j hj
  · by_cases e : j = i
    · subst e
      rw [Tb.set_at, cell_set_ne (.inr (by omega)), cell_set_ne (.inr (by omega))]; exact h.pg j hj
    · rw [Tb.set_ne _ _ e, cell_set_ne (.inr (by omega)), cell_set_ne (.inr (by omega))]; exact h.pg j hj
  · rw [fz_set, fz_set]; exact h.fz j
/-- what a call may change: block p -/
abbrev Bt (p : Nat) (w w' : World) : Prop := But (fun b => b = p) w w'
theorem Bt.set {p : Nat} {w w' : World} (h : Bt p w w') (i : Nat) (v : Value) : Bt p w (w'.setCell ⟨p, i, none⟩ v) := But.setCell h rfl v
theorem Bt.of {p : Nat} {w w' : World} (h : Below w.heap.size w w') : Bt p w w' := But.of h
set_option maxHeartbeats 4000000 in
theorem tdrop_any (p : Nat) (h : Int) (T : Tb) (w : World) (hx : Tx w p T) (h0 : 0 ≤ h) (h1 : h < 4294967296) :
    Calls Try.prog 10 #[tbV p, .int .u32 h] w fun e w' => e = .returned (.int .i64 (dpE T h)) ∧ Tx w' p (dpT T h) ∧ Bt p w w' := by
  have hI := fun W (hW : Tx W p T) => tis_any p T W hW
  have hA := fun W (hW : Tx W p T) => tat_any p h T W hW h0 h1
  have H : Hid (Tx w p T) := hx
  have hn := hx.ok.n32
  have HO : Hid ((dpT T h).Ok) := dpT_ok hx.ok h
  clear hx
  cases ht : tkh T h
  · have e1 : dpE T h = 111 := by unfold dpE; rw [ht]; rfl
    have e2 : dpT T h = T := by unfold dpT; rw [ht]; rfl
    rw [e1, e2]
    rw [ht] at hA
    replace hA : ∀ W, Tx W p T → Calls Try.prog 20 #[tbV p, .int .u32 h] W fun e w' => e = .returned (.tuple #[.int .i64 0, .bool false]) ∧ Below W.heap.size W w' := hA
    clear ht e1 e2 HO
    go_enter Try.func10, Try.ntmps10
    go_wp2_with fail
    refine (hI _ H.out).mono ?_
    rintro e w1 ⟨rfl, hw1⟩
    subst hw1
    go_wp2_with fail
    refine (hA _ H.out).mono ?_
    rintro e w2 ⟨rfl, hb⟩
    have HB : Hid (Below w1.heap.size w1 w2) := hb
    clear hb hA hI
    go_wp2_with fail
    go_ret
    exact ⟨rfl, H.out.below HB.out, But.of HB.out⟩
  · have hi : plc h < 32 := by have := tkh_lt ht; omega
    have e1 : dpE T h = 0 := by unfold dpE; rw [ht]; rfl
    have e2 : dpT T h = T.set (plc h) ⟨0, 0, (T.at_ (plc h)).g + 1⟩ := by unfold dpT; rw [ht]; rfl
    have hgb := H.out.ok.g _ (tkh_lt ht)
    rw [e1, e2]
    rw [e2] at HO
    rw [ht] at hA
    replace hA : ∀ W, Tx W p T → Calls Try.prog 20 #[tbV p, .int .u32 h] W fun e w' => e = .returned (.tuple #[.int .i64 (plc h : Int), .bool true]) ∧ Below W.heap.size W w' := hA
    generalize plc h = i at *
    clear ht e1 e2
    have c6 : Try.prog.arrayLen 49 = 32 := by kernel_rfl
    go_enter Try.func10, Try.ntmps10
    go_wp2_with fail
    refine (hI _ H.out).mono ?_
    rintro e w1 ⟨rfl, hw1⟩
    subst hw1
    go_wp2_with fail
    refine (hA _ H.out).mono ?_
    rintro e w2 ⟨rfl, hb⟩
    have HB : Hid (Below w1.heap.size w1 w2) := hb
    have H2 : Hid (Tx w2 p T) := H.out.below hb
    have kg := cell_regrown (H2.out.pg i (by omega))
    have kl := H2.out.lt
    clear hb hA hI
    go_wp2_with fail
    refine wp_region_quiet_last (by simp) (by kernel_rfl) (by kernel_rfl) (by kernel_rfl) ?_
    dsimp only [List.dropLast, List.getLast]
    repeat (go_big_quiet_step (fail))
    refine wpQuiet_nil ?_
    intro _ hw'
    obtain ⟨⟨dq, osq⟩, hw''⟩ := hw'
    subst hw''
    have hb3 := below_regrown w2 dq osq
    have x3 := H2.out.below hb3
    have HB3 : Hid (Below w1.heap.size w1 (grow (redrawn w2 dq) osq)) := Below.onto HB.out hb3
    clear kg kl hb3
    generalize grow (redrawn w2 dq) osq = w3 at *
    have H3 : Hid (Tx w3 p T) := x3
    have q0 := x3.pc i (by omega)
    have q1 := x3.pr i (by omega)
    have q2 := x3.pg i (by omega)
    have qf := x3.fz
    have ql := x3.lt
    clear x3
    intro K hK
    go_simp
    refine hK _ _ ?_
    clear hK q0 q1 q2 qf ql
    go_wp2_with fail
    go_ret
    refine ⟨rfl, H3.out.put hi ⟨0, 0, (T.at_ i).g + 1⟩ HO.out, ?_⟩
    exact (((Bt.of HB3.out).set _ _).set _ _).set _ _
end Go.Proofs.Ytimmjhegeagofac
