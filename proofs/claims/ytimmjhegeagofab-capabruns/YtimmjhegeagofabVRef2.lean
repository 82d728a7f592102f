/- The document's table: Find, With, Drop, Mint. -/
import Derived.Test.YtimmjhegeagofabVRef
namespace Go.Proofs.Ytimmjhegeagofab
open Go.RowKit Go.Sort
set_option maxRecDepth 100000

section
variable {q b cap : Nat} {a : Option Addr} {T : Tb}
set_option maxHeartbeats 4000000 in
theorem rfind_any (h : Int) (w : World) (hR : Rt w q b a cap T) : Calls Try.prog 38 #[rfV q, .int .u32 h] w fun e w' => e = .returned (.tuple #[capV (fdP T h), .bool (tkh T h)]) ∧ Below w.heap.size w w' := by
  have hP := fun W (hW : Rt W q b a cap T) => rplace_any h W hW
  have H : Hid (Rt w q b a cap T) := hR
  have HP : Hid (fdP T h = if tkh T h then T.at_ (plc h) else pc0) := rfl
  have hn := hR.ok.n32
  have hcp := hR.hc
  clear hR
  have BX : Hid (Bx (w.alloc (.cells #[.int .i64 0, .int .u8 0] 74)) w.heap.size [.int .i64 0, .int .u8 0]) := cap_box w _ _
  have B1 : Hid (Below w.heap.size w (w.alloc (.cells #[.int .i64 0, .int .u8 0] 74))) := below_new _ _
  have FZ : Hid (∀ i, (w.alloc (.cells #[.int .i64 0, .int .u8 0] 74)).frozen? ⟨w.heap.size, i, none⟩ = false) := fun i => frozen_of_row _ _ i _ _ (gheap_new w _)
  generalize hg : w.alloc (.cells #[.int .i64 0, .int .u8 0] 74) = w1 at *
  cases ht : tkh T h
  · have e2 : fdP T h = pc0 := by rw [HP.out, ht]; rfl
    rw [e2]
    rw [ht] at hP
    show Calls _ _ _ _ (fun e w' => e = .returned (.tuple #[.agg #[.int .i64 0, .int .u8 0], .bool false]) ∧ Below w.heap.size w w')
    replace hP : ∀ W, Rt W q b a cap T → Calls Try.prog 73 #[rfV q, .int .u32 h] W fun e w' => e = .returned (.int .i64 (-1)) ∧ Below W.heap.size W w' := hP
    clear ht e2 HP
    go_enter Try.func38, Try.ntmps38
    go_wp2_with fail
    refine (hP _ (H.out.below B1.out)).mono ?_
    rintro e w2 ⟨rfl, hb⟩
    have hx2 := BX.out.below hb
    obtain ⟨q0, q1⟩ := hx2.two
    have hlt := hx2.lt
    have f0 : ∀ i, w2.frozen? ⟨w.heap.size, i, none⟩ = false := fun i => (World.frozen?_of_block (w := w1) (a := ⟨w.heap.size, i, none⟩) (hb.block _ BX.out.lt)).trans (FZ.out i)
    have HB : Hid (Below w.heap.size w w2) := Below.onto B1.out hb
    clear hb hP hx2 hg
    go_wp2_with fail
    refine bodyPost_ret (v := .tuple #[.agg #[.int .i64 0, .int .u8 0], .bool false]) (by simp [results, Try.results38, go_sem, q0, q1]) rfl ⟨rfl, ?_⟩
    exact (HB.out.setCell (Nat.le_refl _) _).setCell (Nat.le_refl _) _
  · have hi : plc h < T.n := (tkh_parts ht).1
    have e2 : fdP T h = T.at_ (plc h) := by rw [HP.out, ht]; rfl
    rw [e2]
    rw [ht] at hP
    replace hP : ∀ W, Rt W q b a cap T → Calls Try.prog 73 #[rfV q, .int .u32 h] W fun e w' => e = .returned (.int .i64 (plc h : Int)) ∧ Below W.heap.size W w' := hP
    clear e2 HP ht
    generalize plc h = i at *
    have ha := H.out.a (by omega)
    subst ha
    go_enter Try.func38, Try.ntmps38
    go_wp2_with fail
    refine (hP _ (H.out.below B1.out)).mono ?_
    rintro e w2 ⟨rfl, hb⟩
    have hx2 := BX.out.below hb
    obtain ⟨q0, q1⟩ := hx2.two
    have hlt := hx2.lt
    have f0 : ∀ i, w2.frozen? ⟨w.heap.size, i, none⟩ = false := fun i => (World.frozen?_of_block (w := w1) (a := ⟨w.heap.size, i, none⟩) (hb.block _ BX.out.lt)).trans (FZ.out i)
    have HB : Hid (Below w.heap.size w w2) := Below.onto B1.out hb
    have h2 := (H.out.below B1.out).below hb
    have r0 := h2.c
    have r2 := h2.t2 i hi
    have r3 := h2.t3 i hi
    have l1 := h2.lt
    have l2 := h2.blt (by omega)
    clear hb hP hx2 hg h2
    go_wp2_with fail
    refine bodyPost_ret (v := .tuple #[capV (T.at_ i), .bool true]) (by simp [results, Try.results38, go_sem, q0, q1]) rfl ⟨rfl, ?_⟩
    exact (HB.out.setCell (Nat.le_refl _) _).setCell (Nat.le_refl _) _
set_option maxHeartbeats 4000000 in
theorem rwith_any (h r : Int) (w : World) (hR : Rt w q b a cap T) (r0 : 0 ≤ r) (r1 : r < 256) : Calls Try.prog 40 #[rfV q, .int .u32 h, .int .u8 r] w fun e w' => e = .returned (.tuple #[capV (wtP T h r), .bool (wtB T h r)]) ∧ Below w.heap.size w w' := by
  have hP := fun W (hW : Rt W q b a cap T) => rfind_any h W hW
  have H : Hid (Rt w q b a cap T) := hR
  have HP : Hid (wtP T h r = if wtB T h r then T.at_ (plc h) else pc0) := rfl
  have HW : Hid (wtB T h r = (tkh T h && cov (T.at_ (plc h)).r r)) := rfl
  have HF : Hid (fdP T h = if tkh T h then T.at_ (plc h) else pc0) := rfl
  have hrr := hR.ok.r (plc h)
  clear hR
  have BX : Hid (Bx (w.alloc (.cells #[.int .i64 0, .int .u8 0] 74)) w.heap.size [.int .i64 0, .int .u8 0]) := cap_box w _ _
  have B1 : Hid (Below w.heap.size w (w.alloc (.cells #[.int .i64 0, .int .u8 0] 74))) := below_new _ _
  have FZ : Hid (∀ i, (w.alloc (.cells #[.int .i64 0, .int .u8 0] 74)).frozen? ⟨w.heap.size, i, none⟩ = false) := fun i => frozen_of_row _ _ i _ _ (gheap_new w _)
  generalize hg : w.alloc (.cells #[.int .i64 0, .int .u8 0] 74) = w1 at *
  cases ht : tkh T h
  · have e1 : wtB T h r = false := by rw [HW.out, ht]; rfl
    have e2 : wtP T h r = pc0 := by rw [HP.out, e1]; rfl
    have e3 : fdP T h = pc0 := by rw [HF.out, ht]; rfl
    rw [e1, e2]
    rw [ht, e3] at hP
    show Calls _ _ _ _ (fun e w' => e = .returned (.tuple #[.agg #[.int .i64 0, .int .u8 0], .bool false]) ∧ Below w.heap.size w w')
    replace hP : ∀ W, Rt W q b a cap T → Calls Try.prog 38 #[rfV q, .int .u32 h] W fun e w' => e = .returned (.tuple #[.agg #[.int .i64 0, .int .u8 0], .bool false]) ∧ Below W.heap.size W w' := hP
    clear ht e1 e2 e3 HP HW HF
    go_enter Try.func40, Try.ntmps40
    go_wp2_with fail
    refine (hP _ (H.out.below B1.out)).mono ?_
    rintro e w2 ⟨rfl, hb⟩
    have hb2 := Below.onto hb (below_new w2 (.cells #[.int .i64 0, .int .u8 0] 74))
    have hx2 := BX.out.below hb2
    obtain ⟨q0, q1⟩ := hx2.two
    have hlt := hx2.lt
    have f0 : ∀ i, (w2.alloc (.cells #[.int .i64 0, .int .u8 0] 74)).frozen? ⟨w.heap.size, i, none⟩ = false := fun i => (World.frozen?_of_block (w := w1) (a := ⟨w.heap.size, i, none⟩) (hb2.block _ BX.out.lt)).trans (FZ.out i)
    have HB : Hid (Below w.heap.size w (w2.alloc (.cells #[.int .i64 0, .int .u8 0] 74))) := Below.onto B1.out hb2
    clear hb hb2 hP hx2 hg
    go_wp2_with fail
    generalize w2.alloc (.cells #[.int .i64 0, .int .u8 0] 74) = w3 at *
    refine bodyPost_ret (v := .tuple #[.agg #[.int .i64 0, .int .u8 0], .bool false]) (by simp [results, Try.results40, go_sem, q0, q1]) rfl ⟨rfl, ?_⟩
    exact (HB.out.setCell (Nat.le_refl _) _).setCell (Nat.le_refl _) _
  · have e3 : fdP T h = T.at_ (plc h) := by rw [HF.out, ht]; rfl
    rw [ht, e3] at hP
    have hC := fun W => rhas_any (T.at_ (plc h)).r r hrr.1 hrr.2 r0 r1 W
    clear HF e3
    cases hv : cov (T.at_ (plc h)).r r
    · have e1 : wtB T h r = false := by rw [HW.out, ht, hv]; rfl
      have e2 : wtP T h r = pc0 := by rw [HP.out, e1]; rfl
      rw [e1, e2]
      rw [hv] at hC
      show Calls _ _ _ _ (fun e w' => e = .returned (.tuple #[.agg #[.int .i64 0, .int .u8 0], .bool false]) ∧ Below w.heap.size w w')
      clear ht e1 e2 HP HW hv hrr
      generalize T.at_ (plc h) = x at *
      go_enter Try.func40, Try.ntmps40
      go_wp2_with fail
      refine (hP _ (H.out.below B1.out)).mono ?_
      rintro e w2 ⟨rfl, hb⟩
      have hb2 := Below.onto hb (below_new w2 (.cells #[.int .i64 x.c, .int .u8 x.r] 74))
      have hx2 := BX.out.below hb2
      obtain ⟨q0, q1⟩ := hx2.two
      have hlt := hx2.lt
      have f0 : ∀ i, (w2.alloc (.cells #[.int .i64 x.c, .int .u8 x.r] 74)).frozen? ⟨w.heap.size, i, none⟩ = false := fun i => (World.frozen?_of_block (w := w1) (a := ⟨w.heap.size, i, none⟩) (hb2.block _ BX.out.lt)).trans (FZ.out i)
      have HB : Hid (Below w.heap.size w (w2.alloc (.cells #[.int .i64 x.c, .int .u8 x.r] 74))) := Below.onto B1.out hb2
      clear hb hb2 hP hx2 hg
      go_wp2_with fail
      generalize w2.alloc (.cells #[.int .i64 x.c, .int .u8 x.r] 74) = w3 at *
      refine (hC _).mono ?_
      rintro e w4 ⟨rfl, hw4⟩
      subst hw4
      go_wp2_with fail
      refine bodyPost_ret (v := .tuple #[.agg #[.int .i64 0, .int .u8 0], .bool false]) (by simp [results, Try.results40, go_sem, q0, q1]) rfl ⟨rfl, ?_⟩
      exact (HB.out.setCell (Nat.le_refl _) _).setCell (Nat.le_refl _) _
    · have e1 : wtB T h r = true := by rw [HW.out, ht, hv]; rfl
      have e2 : wtP T h r = T.at_ (plc h) := by rw [HP.out, e1]; rfl
      rw [e1, e2]
      rw [hv] at hC
      clear ht e1 e2 HP HW hv hrr
      generalize T.at_ (plc h) = x at *
      go_enter Try.func40, Try.ntmps40
      go_wp2_with fail
      refine (hP _ (H.out.below B1.out)).mono ?_
      rintro e w2 ⟨rfl, hb⟩
      have hb2 := Below.onto hb (below_new w2 (.cells #[.int .i64 x.c, .int .u8 x.r] 74))
      have hx2 := BX.out.below hb2
      obtain ⟨q0, q1⟩ := hx2.two
      have hlt := hx2.lt
      obtain ⟨z0, z1⟩ := (cap_box w2 (.int .i64 x.c) (.int .u8 x.r)).two
      have zl := (cap_box w2 (.int .i64 x.c) (.int .u8 x.r)).lt
      have f0 : ∀ i, (w2.alloc (.cells #[.int .i64 x.c, .int .u8 x.r] 74)).frozen? ⟨w.heap.size, i, none⟩ = false := fun i => (World.frozen?_of_block (w := w1) (a := ⟨w.heap.size, i, none⟩) (hb2.block _ BX.out.lt)).trans (FZ.out i)
      have HB : Hid (Below w.heap.size w (w2.alloc (.cells #[.int .i64 x.c, .int .u8 x.r] 74))) := Below.onto B1.out hb2
      clear hb hb2 hP hx2 hg
      go_wp2_with fail
      generalize w2.alloc (.cells #[.int .i64 x.c, .int .u8 x.r] 74) = w3 at *
      refine (hC _).mono ?_
      rintro e w4 ⟨rfl, hw4⟩
      subst hw4
      go_wp2_with fail
      refine bodyPost_ret (v := .tuple #[capV x, .bool true]) (by simp [results, Try.results40, go_sem, q0, q1]) rfl ⟨rfl, ?_⟩
      exact (HB.out.setCell (Nat.le_refl _) _).setCell (Nat.le_refl _) _
/-- a place of the document's is set: four cells -/
theorem Rt.put {w : World} (h : Rt w q b a cap T) {i : Nat} (hi : i < T.n) (x : Pc) (ho : (T.set i x).Ok) :
    Rt ((((w.setCell ⟨b, i * 4, none⟩ (.bool (takP x))).setCell ⟨b, i * 4 + 1, none⟩ (.int .i64 x.g)).setCell ⟨b, i * 4 + 2, none⟩ (.int .i64 x.c)).setCell ⟨b, i * 4 + 3, none⟩ (.int .u8 x.r)) q b a cap (T.set i x) := by
  refine ⟨?_, h.a, h.hc, fun j hj => ?_, fun j hj => ?_, fun j hj => ?_, fun j hj => ?_, fun hn j => ?_, h.qb, ho⟩
  · rw [cell_set_ne (.inl h.qb), cell_set_ne (.inl h.qb), cell_set_ne (.inl h.qb), cell_set_ne (.inl h.qb)]; exact h.c
  · have hj : j < T.n := hj
    by_cases e : j = i
    · subst e
      rw [Tb.set_at, cell_set_ne (.inr (by omega)), cell_set_ne (.inr (by omega)), cell_set_ne (.inr (by omega)), cell_set_eq (h.t0 j hj)]
    · rw [Tb.set_ne _ _ e, cell_set_ne (.inr (by omega)), cell_set_ne (.inr (by omega)), cell_set_ne (.inr (by omega)), cell_set_ne (.inr (by omega))]; exact h.t0 j hj
  · have hj : j < T.n := hj
    by_cases e : j = i
    · subst e
      rw [Tb.set_at, cell_set_ne (.inr (by omega)), cell_set_ne (.inr (by omega)), cell_set_eq ((cell_set_ne (.inr (by omega))).trans (h.t1 j hj))]
    · rw [Tb.set_ne _ _ e, cell_set_ne (.inr (by omega)), cell_set_ne (.inr (by omega)), cell_set_ne (.inr (by omega)), cell_set_ne (.inr (by omega))]; exact h.t1 j hj
  · have hj : j < T.n := hj
    by_cases e : j = i
    · subst e
      rw [Tb.set_at, cell_set_ne (.inr (by omega)), cell_set_eq (((cell_set_ne (.inr (by omega))).trans (cell_set_ne (.inr (by omega)))).trans (h.t2 j hj))]
    · rw [Tb.set_ne _ _ e, cell_set_ne (.inr (by omega)), cell_set_ne (.inr (by omega)), cell_set_ne (.inr (by omega)), cell_set_ne (.inr (by omega))]; exact h.t2 j hj
  · have hj : j < T.n := hj
    by_cases e : j = i
    · subst e
      rw [Tb.set_at, cell_set_eq ((((cell_set_ne (.inr (by omega))).trans (cell_set_ne (.inr (by omega)))).trans (cell_set_ne (.inr (by omega)))).trans (h.t3 j hj))]
    · rw [Tb.set_ne _ _ e, cell_set_ne (.inr (by omega)), cell_set_ne (.inr (by omega)), cell_set_ne (.inr (by omega)), cell_set_ne (.inr (by omega))]; exact h.t3 j hj
  · rw [fz_set, fz_set, fz_set, fz_set]; exact h.fz hn j
/-- a place of the document's is taken: three cells -/
theorem Rt.take {w : World} (h : Rt w q b a cap T) {i : Nat} (hi : i < T.n) (c r : Int) (hr : r ≠ 0) (ho : (T.set i ⟨c, r, (T.at_ i).g⟩).Ok) :
    Rt (((w.setCell ⟨b, i * 4, none⟩ (.bool true)).setCell ⟨b, i * 4 + 2, none⟩ (.int .i64 c)).setCell ⟨b, i * 4 + 3, none⟩ (.int .u8 r)) q b a cap (T.set i ⟨c, r, (T.at_ i).g⟩) := by
  refine ⟨?_, h.a, h.hc, fun j hj => ?_, fun j hj => ?_, fun j hj => ?_, fun j hj => ?_, fun hn j => ?_, h.qb, ho⟩
  · rw [cell_set_ne (.inl h.qb), cell_set_ne (.inl h.qb), cell_set_ne (.inl h.qb)]; exact h.c
  · have hj : j < T.n := hj
    by_cases e : j = i
    · subst e
      rw [Tb.set_at, cell_set_ne (.inr (by omega)), cell_set_ne (.inr (by omega)), cell_set_eq (h.t0 j hj)]
      simp [takP, hr]
    · rw [Tb.set_ne _ _ e, cell_set_ne (.inr (by omega)), cell_set_ne (.inr (by omega)), cell_set_ne (.inr (by omega))]; exact h.t0 j hj
  · have hj : j < T.n := hj
    by_cases e : j = i
    · subst e
      rw [Tb.set_at, cell_set_ne (.inr (by omega)), cell_set_ne (.inr (by omega)), cell_set_ne (.inr (by omega))]; exact h.t1 j hj
    · rw [Tb.set_ne _ _ e, cell_set_ne (.inr (by omega)), cell_set_ne (.inr (by omega)), cell_set_ne (.inr (by omega))]; exact h.t1 j hj
  · have hj : j < T.n := hj
    by_cases e : j = i
    · subst e
      rw [Tb.set_at, cell_set_ne (.inr (by omega)), cell_set_eq ((cell_set_ne (.inr (by omega))).trans (h.t2 j hj))]
    · rw [Tb.set_ne _ _ e, cell_set_ne (.inr (by omega)), cell_set_ne (.inr (by omega)), cell_set_ne (.inr (by omega))]; exact h.t2 j hj
  · have hj : j < T.n := hj
    by_cases e : j = i
    · subst e
      rw [Tb.set_at, cell_set_eq (((cell_set_ne (.inr (by omega))).trans (cell_set_ne (.inr (by omega)))).trans (h.t3 j hj))]
    · rw [Tb.set_ne _ _ e, cell_set_ne (.inr (by omega)), cell_set_ne (.inr (by omega)), cell_set_ne (.inr (by omega))]; exact h.t3 j hj
  · rw [fz_set, fz_set, fz_set]; exact h.fz hn j
/-- what a call may change: block b, if there are places -/
def Bn (n b : Nat) (w w' : World) : Prop := But (fun y => y = b ∧ 0 < n) w w'
theorem Bn.of {n b : Nat} {w w' : World} (h : Below w.heap.size w w') : Bn n b w w' := But.of h
theorem Bn.set {n b : Nat} {w w' : World} (h : Bn n b w w') (hn : 0 < n) (i : Nat) (v : Value) : Bn n b w (w'.setCell ⟨b, i, none⟩ v) := But.setCell h ⟨rfl, hn⟩ v
theorem Bn.trans {n b : Nat} {w w' w'' : World} (h : Bn n b w w') (k : Bn n b w' w'') : Bn n b w w'' := But.trans h k
theorem Bn.drew {n b : Nat} {w w' : World} (h : Bn n b w w') : Bn n b w w'.drew := But.drew h
set_option maxHeartbeats 4000000 in
theorem rdrop_any (h : Int) (w : World) (hR : Rt w q b a cap T) : Calls Try.prog 68 #[rfV q, .int .u32 h] w fun e w' => e = .returned (.int .i64 (dpE T h)) ∧ Rt w' q b a cap (dpT T h) ∧ Bn T.n b w w' := by
  have hP := rplace_any h w hR
  have H : Hid (Rt w q b a cap T) := hR
  have hn := hR.ok.n32
  have hcp := hR.hc
  have HO : Hid ((dpT T h).Ok) := dpT_ok hR.ok h
  clear hR
  cases ht : tkh T h
  · have e1 : dpE T h = 111 := by unfold dpE; rw [ht]; rfl
    have e2 : dpT T h = T := by unfold dpT; rw [ht]; rfl
    rw [e1, e2]
    rw [ht] at hP
    replace hP : Calls Try.prog 73 #[rfV q, .int .u32 h] w fun e w' => e = .returned (.int .i64 (-1)) ∧ Below w.heap.size w w' := hP
    clear ht e1 e2 HO
    go_enter Try.func68, Try.ntmps68
    go_wp2_with fail
    refine hP.mono ?_
    rintro e w2 ⟨rfl, hb⟩
    have HB : Hid (Below w.heap.size w w2) := hb
    clear hb hP
    go_wp2_with fail
    go_ret
    exact ⟨rfl, H.out.below HB.out, Bn.of HB.out⟩
  · have hi : plc h < T.n := (tkh_parts ht).1
    have e1 : dpE T h = 0 := by unfold dpE; rw [ht]; rfl
    have e2 : dpT T h = T.set (plc h) ⟨0, 0, (T.at_ (plc h)).g + 1⟩ := by unfold dpT; rw [ht]; rfl
    have hgb := H.out.ok.g _ hi
    rw [e1, e2]
    rw [e2] at HO
    rw [ht] at hP
    replace hP : Calls Try.prog 73 #[rfV q, .int .u32 h] w fun e w' => e = .returned (.int .i64 (plc h : Int)) ∧ Below w.heap.size w w' := hP
    generalize plc h = i at *
    clear ht e1 e2
    have ha := H.out.a (by omega)
    subst ha
    go_enter Try.func68, Try.ntmps68
    go_wp2_with fail
    refine hP.mono ?_
    rintro e w2 ⟨rfl, hb⟩
    have HB : Hid (Below w.heap.size w w2) := hb
    have H2 : Hid (Rt w2 q b _ cap T) := H.out.below hb
    have kc := cell_regrown H2.out.c
    have kg := cell_regrown (H2.out.t1 i hi)
    have kl := H2.out.lt
    have kb := H2.out.blt (by omega)
    clear hb hP
    go_wp2_with fail
    refine wp_region_quiet_last (by simp) (by kernel_rfl) (by kernel_rfl) (by kernel_rfl) ?_
    dsimp only [List.dropLast, List.getLast]
    repeat (go_big_quiet_step (fail))
    refine wpQuiet_nil ?_
    intro _ hw'
    obtain ⟨⟨dq, osq⟩, hw''⟩ := hw'
    subst hw''
    have hb3 := below_regrown w2 dq osq
    have x3 := H2.out.below hb3
    have HB3 : Hid (Below w.heap.size w (grow (redrawn w2 dq) osq)) := Below.onto HB.out hb3
    clear kc kg kl kb hb3
    generalize grow (redrawn w2 dq) osq = w3 at *
    have H3 : Hid (Rt w3 q b _ cap T) := x3
    have q0 := x3.t0 i hi
    have q1 := x3.t1 i hi
    have q2 := x3.t2 i hi
    have q3 := x3.t3 i hi
    have qf := x3.fz (by omega)
    have ql := x3.blt (by omega)
    clear x3
    intro K hK
    go_simp
    refine hK _ _ ?_
    clear hK q0 q1 q2 q3 qf ql
    go_wp2_with fail
    go_ret
    refine ⟨rfl, H3.out.put hi ⟨0, 0, (T.at_ i).g + 1⟩ HO.out, ?_⟩
    exact ((((Bn.of HB3.out).set (by omega) _ _).set (by omega) _ _).set (by omega) _ _).set (by omega) _ _
end
end Go.Proofs.Ytimmjhegeagofab
