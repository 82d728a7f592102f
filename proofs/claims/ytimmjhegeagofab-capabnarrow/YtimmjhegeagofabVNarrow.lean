/- Narrow: both sides, and the law. -/
import Derived.Test.YtimmjhegeagofabVHas
namespace Go.Proofs.Ytimmjhegeagofab
open Go.RowKit Go.Sort
set_option maxRecDepth 100000

def naB (r s : Int) : Bool := !(s == 0) && cov r s
def naP (c r s : Int) : Pc := if naB r s then ⟨c, s, 0⟩ else pc0
theorem valloc2 (w : World) (l1 : List Value) (T1 : TypeId) (l2 : List Value) (T2 : TypeId) :
    Bx ((w.alloc (.cells l1.toArray T1)).alloc (.cells l2.toArray T2)) w.heap.size l1 ∧ (Bx ((w.alloc (.cells l1.toArray T1)).alloc (.cells l2.toArray T2)) (w.heap.size + 1) l2 ∧ ∀ i, ((w.alloc (.cells l1.toArray T1)).alloc (.cells l2.toArray T2)).frozen? ⟨w.heap.size + 1, i, none⟩ = false) ∧
    Below w.heap.size w ((w.alloc (.cells l1.toArray T1)).alloc (.cells l2.toArray T2)) ∧ ((w.alloc (.cells l1.toArray T1)).alloc (.cells l2.toArray T2)).heap.size = w.heap.size + 1 + 1 := by
  have e1 : (w.alloc (.cells l1.toArray T1)).heap.size = w.heap.size + 1 := by simp
  have h2 := bx_new (w.alloc (.cells l1.toArray T1)) l2 T2
  have hbl := gheap_new (w.alloc (.cells l1.toArray T1)) (.cells l2.toArray T2)
  rw [e1] at h2 hbl
  exact ⟨(bx_new w l1 T1).below (below_new _ _), ⟨h2, fun i => frozen_of_row _ _ i _ _ hbl⟩, Below.onto (below_new _ _) (below_new _ _), by simp⟩
set_option maxHeartbeats 4000000 in
theorem narrow_any (c r s : Int) (w : World) : Calls Try.prog 41 #[.agg #[.int .i64 c, .int .u8 r], .int .u8 s] w fun e w' => e = .returned (.tuple #[capV (naP c r s), .bool (naB r s)]) ∧ Below w.heap.size w w' := by
  have hV := fun W => covers_any ⟨c, r, 0⟩ s W
  obtain ⟨k1, k2, b2, s2⟩ := valloc2 w [.int .i64 c, .int .u8 r] 74 [.int .i64 0, .int .u8 0] 74
  have K2 : Hid (Bx _ _ _ ∧ ∀ i, _ = false) := k2
  have K1 : Hid (Bx _ _ _) := k1
  have B2 : Hid (Below _ _ _) := b2
  obtain ⟨x0, x1⟩ := k1.two
  obtain ⟨y0, y1⟩ := k2.1.two
  have xl := k1.lt
  have yl := k2.1.lt
  have yf := k2.2
  clear k1 k2 b2 s2
  by_cases hs : s = 0
  · have e1 : naB r s = false := by simp [naB, hs]
    have e2 : naP c r s = pc0 := by unfold naP; rw [e1]; rfl
    rw [e1, e2]
    show Calls _ _ _ _ (fun e w' => e = .returned (.tuple #[.agg #[.int .i64 0, .int .u8 0], .bool false]) ∧ Below w.heap.size w w')
    clear e1 e2 hV
    go_enter Try.func41, Try.ntmps41
    go_wp2_with fail
    generalize (w.alloc (.cells #[.int .i64 c, .int .u8 r] 74)).alloc (.cells #[.int .i64 0, .int .u8 0] 74) = w2 at *
    refine bodyPost_ret (v := .tuple #[.agg #[.int .i64 0, .int .u8 0], .bool false]) (by simp [results, Try.results41, go_sem, y0, y1]) rfl ⟨rfl, ?_⟩
    exact B2.out
  · have hs2 : (s == 0) = false := by simpa using hs
    cases hv : cov r s
    · have e1 : naB r s = false := by simp [naB, hv]
      have e2 : naP c r s = pc0 := by unfold naP; rw [e1]; rfl
      rw [e1, e2]
      rw [hv] at hV
      show Calls _ _ _ _ (fun e w' => e = .returned (.tuple #[.agg #[.int .i64 0, .int .u8 0], .bool false]) ∧ Below w.heap.size w w')
      clear e1 e2 hv
      go_enter Try.func41, Try.ntmps41
      go_wp2_with fail
      generalize (w.alloc (.cells #[.int .i64 c, .int .u8 r] 74)).alloc (.cells #[.int .i64 0, .int .u8 0] 74) = w2 at *
      refine (hV _).mono ?_
      rintro e w3 ⟨rfl, hb⟩
      clear x0 x1 y0 y1 xl yl yf
      have HB : Hid (Below w.heap.size w w3) := Below.onto B2.out hb
      have K3 := K2.out.1.below hb
      obtain ⟨y0, y1⟩ := K3.two
      have yl := K3.lt
      have yf : ∀ i, w3.frozen? ⟨w.heap.size + 1, i, none⟩ = false := fun i => (World.frozen?_of_block (w := w2) (a := ⟨w.heap.size + 1, i, none⟩) (hb.block _ K2.out.1.lt)).trans (K2.out.2 i)
      clear hb K3 hV
      go_wp2_with fail
      refine bodyPost_ret (v := .tuple #[.agg #[.int .i64 0, .int .u8 0], .bool false]) (by simp [results, Try.results41, go_sem, y0, y1]) rfl ⟨rfl, ?_⟩
      exact (HB.out.setCell (Nat.le_succ _) _).setCell (Nat.le_succ _) _
    · have e1 : naB r s = true := by simp [naB, hv, hs]
      have e2 : naP c r s = ⟨c, s, 0⟩ := by unfold naP; rw [e1]; rfl
      rw [e1, e2]
      rw [hv] at hV
      show Calls _ _ _ _ (fun e w' => e = .returned (.tuple #[.agg #[.int .i64 c, .int .u8 s], .bool true]) ∧ Below w.heap.size w w')
      clear e1 e2 hv
      go_enter Try.func41, Try.ntmps41
      go_wp2_with fail
      generalize (w.alloc (.cells #[.int .i64 c, .int .u8 r] 74)).alloc (.cells #[.int .i64 0, .int .u8 0] 74) = w2 at *
      refine (hV _).mono ?_
      rintro e w3 ⟨rfl, hb⟩
      clear x0 x1 y0 y1 xl yl yf
      have HB : Hid (Below w.heap.size w w3) := Below.onto B2.out hb
      have K3 := K2.out.1.below hb
      obtain ⟨y0, y1⟩ := K3.two
      have yl := K3.lt
      have yf : ∀ i, w3.frozen? ⟨w.heap.size + 1, i, none⟩ = false := fun i => (World.frozen?_of_block (w := w2) (a := ⟨w.heap.size + 1, i, none⟩) (hb.block _ K2.out.1.lt)).trans (K2.out.2 i)
      have K4 := K1.out.below hb
      obtain ⟨x0, x1⟩ := K4.two
      have xl := K4.lt
      clear hb K3 hV K4
      go_wp2_with fail
      refine bodyPost_ret (v := .tuple #[.agg #[.int .i64 c, .int .u8 s], .bool true]) (by simp [results, Try.results41, go_sem, y0, y1]) rfl ⟨rfl, ?_⟩
      exact (HB.out.setCell (Nat.le_succ _) _).setCell (Nat.le_succ _) _
set_option maxHeartbeats 4000000 in
theorem rnarrow_any (c r s : Int) (w : World) (r0 : 0 ≤ r) (r1 : r < 256) (s0 : 0 ≤ s) (s1 : s < 256) : Calls Try.prog 42 #[.agg #[.int .i64 c, .int .u8 r], .int .u8 s] w fun e w' => e = .returned (.tuple #[capV (naP c r s), .bool (naB r s)]) ∧ Below w.heap.size w w' := by
  have hV := fun W => rhas_any r s r0 r1 s0 s1 W
  obtain ⟨k1, k2, b2, s2⟩ := valloc2 w [.int .i64 c, .int .u8 r] 74 [.int .i64 0, .int .u8 0] 74
  have K2 : Hid (Bx _ _ _ ∧ ∀ i, _ = false) := k2
  have K1 : Hid (Bx _ _ _) := k1
  have B2 : Hid (Below _ _ _) := b2
  obtain ⟨x0, x1⟩ := k1.two
  obtain ⟨y0, y1⟩ := k2.1.two
  have xl := k1.lt
  have yl := k2.1.lt
  have yf := k2.2
  clear k1 k2 b2 s2
  by_cases hs : s = 0
  · have e1 : naB r s = false := by simp [naB, hs]
    have e2 : naP c r s = pc0 := by unfold naP; rw [e1]; rfl
    rw [e1, e2]
    show Calls _ _ _ _ (fun e w' => e = .returned (.tuple #[.agg #[.int .i64 0, .int .u8 0], .bool false]) ∧ Below w.heap.size w w')
    clear e1 e2 hV
    go_enter Try.func42, Try.ntmps42
    go_wp2_with fail
    generalize (w.alloc (.cells #[.int .i64 c, .int .u8 r] 74)).alloc (.cells #[.int .i64 0, .int .u8 0] 74) = w2 at *
    refine bodyPost_ret (v := .tuple #[.agg #[.int .i64 0, .int .u8 0], .bool false]) (by simp [results, Try.results42, go_sem, y0, y1]) rfl ⟨rfl, ?_⟩
    exact B2.out
  · have hs2 : (s == 0) = false := by simpa using hs
    cases hv : cov r s
    · have e1 : naB r s = false := by simp [naB, hv]
      have e2 : naP c r s = pc0 := by unfold naP; rw [e1]; rfl
      rw [e1, e2]
      rw [hv] at hV
      show Calls _ _ _ _ (fun e w' => e = .returned (.tuple #[.agg #[.int .i64 0, .int .u8 0], .bool false]) ∧ Below w.heap.size w w')
      clear e1 e2 hv
      go_enter Try.func42, Try.ntmps42
      go_wp2_with fail
      generalize (w.alloc (.cells #[.int .i64 c, .int .u8 r] 74)).alloc (.cells #[.int .i64 0, .int .u8 0] 74) = w2 at *
      refine (hV _).mono ?_
      rintro e w3 ⟨rfl, hb⟩
      clear x0 x1 y0 y1 xl yl yf
      replace hb : Below w2.heap.size w2 w3 := hb ▸ Below.refl _ _
      have HB : Hid (Below w.heap.size w w3) := Below.onto B2.out hb
      have K3 := K2.out.1.below hb
      obtain ⟨y0, y1⟩ := K3.two
      have yl := K3.lt
      have yf : ∀ i, w3.frozen? ⟨w.heap.size + 1, i, none⟩ = false := fun i => (World.frozen?_of_block (w := w2) (a := ⟨w.heap.size + 1, i, none⟩) (hb.block _ K2.out.1.lt)).trans (K2.out.2 i)
      clear hb K3 hV
      go_wp2_with fail
      refine bodyPost_ret (v := .tuple #[.agg #[.int .i64 0, .int .u8 0], .bool false]) (by simp [results, Try.results42, go_sem, y0, y1]) rfl ⟨rfl, ?_⟩
      exact (HB.out.setCell (Nat.le_succ _) _).setCell (Nat.le_succ _) _
    · have e1 : naB r s = true := by simp [naB, hv, hs]
      have e2 : naP c r s = ⟨c, s, 0⟩ := by unfold naP; rw [e1]; rfl
      rw [e1, e2]
      rw [hv] at hV
      show Calls _ _ _ _ (fun e w' => e = .returned (.tuple #[.agg #[.int .i64 c, .int .u8 s], .bool true]) ∧ Below w.heap.size w w')
      clear e1 e2 hv
      go_enter Try.func42, Try.ntmps42
      go_wp2_with fail
      generalize (w.alloc (.cells #[.int .i64 c, .int .u8 r] 74)).alloc (.cells #[.int .i64 0, .int .u8 0] 74) = w2 at *
      refine (hV _).mono ?_
      rintro e w3 ⟨rfl, hb⟩
      clear x0 x1 y0 y1 xl yl yf
      replace hb : Below w2.heap.size w2 w3 := hb ▸ Below.refl _ _
      have HB : Hid (Below w.heap.size w w3) := Below.onto B2.out hb
      have K3 := K2.out.1.below hb
      obtain ⟨y0, y1⟩ := K3.two
      have yl := K3.lt
      have yf : ∀ i, w3.frozen? ⟨w.heap.size + 1, i, none⟩ = false := fun i => (World.frozen?_of_block (w := w2) (a := ⟨w.heap.size + 1, i, none⟩) (hb.block _ K2.out.1.lt)).trans (K2.out.2 i)
      have K4 := K1.out.below hb
      obtain ⟨x0, x1⟩ := K4.two
      have xl := K4.lt
      clear hb K3 hV K4
      go_wp2_with fail
      refine bodyPost_ret (v := .tuple #[.agg #[.int .i64 c, .int .u8 s], .bool true]) (by simp [results, Try.results42, go_sem, y0, y1]) rfl ⟨rfl, ?_⟩
      exact (HB.out.setCell (Nat.le_succ _) _).setCell (Nat.le_succ _) _
set_option maxHeartbeats 8000000 in
theorem narrow_law (c r s : Int) (w : World) (r0 : 0 ≤ r) (r1 : r < 256) (s0 : 0 ≤ s) (s1 : s < 256) : Calls Try.prog 8 #[.agg #[.int .i64 c, .int .u8 r], .int .u8 s] w fun e w' => e = .returned (.bool true) ∧ Below w.heap.size w w' := by
  have hP := fun W => narrow_any c r s W
  have hR := fun W => rnarrow_any c r s W r0 r1 s0 s1
  have hA := fun W => valive_any W
  have hH := fun W => rhas_any r s r0 r1 s0 s1 W
  have HX : Hid (Bx (w.alloc (.cells #[.int .i64 c, .int .u8 r] 74)) w.heap.size [.int .i64 c, .int .u8 r]) := cap_box w _ _
  have B1 : Hid (Below w.heap.size w (w.alloc (.cells #[.int .i64 c, .int .u8 r] 74))) := below_new _ _
  obtain ⟨x0, x1⟩ := HX.out.two
  have xl := HX.out.lt
  have key : (naB r s = false ∧ naP c r s = ⟨0, 0, 0⟩) ∨ (naB r s = true ∧ naP c r s = ⟨c, s, 0⟩ ∧ cov r s = true) := by
    unfold naP
    cases h : naB r s
    · exact .inl ⟨rfl, rfl⟩
    · exact .inr ⟨rfl, rfl, by simp [naB] at h; exact h.2⟩
  generalize hg : w.alloc (.cells #[.int .i64 c, .int .u8 r] 74) = w1 at *
  rcases key with ⟨e1, e2⟩ | ⟨e1, e2, e3⟩
  · rw [e1, e2] at hP hR
    clear e1 e2 hH
    go_enter Try.func8, Try.ntmps8
    go_wp2_with fail
    refine (hP _).mono ?_
    rintro e w2 ⟨rfl, hb2⟩
    have X2 : Hid (Bx (w2.alloc (.cells #[.int .i64 0, .int .u8 0] 74)) w.heap.size [.int .i64 c, .int .u8 r]) := (HX.out.below hb2).below (below_new _ _)
    have Y2 : Hid (Bx (w2.alloc (.cells #[.int .i64 0, .int .u8 0] 74)) w2.heap.size [.int .i64 0, .int .u8 0]) := cap_box w2 _ _
    have B2 : Hid (Below w.heap.size w (w2.alloc (.cells #[.int .i64 0, .int .u8 0] 74))) := Below.onto (Below.onto B1.out hb2) (below_new _ _)
    clear hb2 hP x0 x1 xl hg
    obtain ⟨x0, x1⟩ := X2.out.two
    have xl := X2.out.lt
    go_wp2_with fail
    generalize w2.alloc (.cells #[.int .i64 0, .int .u8 0] 74) = w3 at *
    refine (hR _).mono ?_
    rintro e w4 ⟨rfl, hb4⟩
    have X4 := (X2.out.below hb4).below (below_new w4 (.cells #[.int .i64 0, .int .u8 0] 74))
    have Y4 := (Y2.out.below hb4).below (below_new w4 (.cells #[.int .i64 0, .int .u8 0] 74))
    have Z4 := cap_box w4 (.int .i64 0) (.int .u8 0)
    have B4 : Hid (Below w.heap.size w (w4.alloc (.cells #[.int .i64 0, .int .u8 0] 74))) := Below.onto (Below.onto B2.out hb4) (below_new _ _)
    clear hb4 hR x0 x1 xl
    obtain ⟨x0, x1⟩ := X4.two
    obtain ⟨y0, y1⟩ := Y4.two
    obtain ⟨z0, z1⟩ := Z4.two
    have xl := X4.lt
    have yl := Y4.lt
    have zl := Z4.lt
    clear X4 Y4 Z4
    go_wp2_with fail
    generalize w4.alloc (.cells #[.int .i64 0, .int .u8 0] 74) = w5 at *
    refine (hA _).mono ?_
    rintro e w6 ⟨rfl, hb6⟩
    clear x0 x1 xl y0 y1 yl z0 z1 zl
    go_wp2_with fail
    go_ret
    exact ⟨rfl, Below.onto B4.out hb6⟩
  · rw [e1, e2] at hP hR
    rw [e3] at hH
    clear e1 e2 e3
    go_enter Try.func8, Try.ntmps8
    go_wp2_with fail
    refine (hP _).mono ?_
    rintro e w2 ⟨rfl, hb2⟩
    have X2 : Hid (Bx (w2.alloc (.cells #[.int .i64 c, .int .u8 s] 74)) w.heap.size [.int .i64 c, .int .u8 r]) := (HX.out.below hb2).below (below_new _ _)
    have Y2 : Hid (Bx (w2.alloc (.cells #[.int .i64 c, .int .u8 s] 74)) w2.heap.size [.int .i64 c, .int .u8 s]) := cap_box w2 _ _
    have B2 : Hid (Below w.heap.size w (w2.alloc (.cells #[.int .i64 c, .int .u8 s] 74))) := Below.onto (Below.onto B1.out hb2) (below_new _ _)
    clear hb2 hP x0 x1 xl hg
    obtain ⟨x0, x1⟩ := X2.out.two
    have xl := X2.out.lt
    go_wp2_with fail
    generalize w2.alloc (.cells #[.int .i64 c, .int .u8 s] 74) = w3 at *
    refine (hR _).mono ?_
    rintro e w4 ⟨rfl, hb4⟩
    have X4 := (X2.out.below hb4).below (below_new w4 (.cells #[.int .i64 c, .int .u8 s] 74))
    have Y4 := (Y2.out.below hb4).below (below_new w4 (.cells #[.int .i64 c, .int .u8 s] 74))
    have Z4 := cap_box w4 (.int .i64 c) (.int .u8 s)
    have B4 : Hid (Below w.heap.size w (w4.alloc (.cells #[.int .i64 c, .int .u8 s] 74))) := Below.onto (Below.onto B2.out hb4) (below_new _ _)
    clear hb4 hR x0 x1 xl
    obtain ⟨x0, x1⟩ := X4.two
    obtain ⟨y0, y1⟩ := Y4.two
    obtain ⟨z0, z1⟩ := Z4.two
    have xl := X4.lt
    have yl := Y4.lt
    have zl := Z4.lt
    clear X4 Y4 Z4
    go_wp2_with fail
    generalize w4.alloc (.cells #[.int .i64 c, .int .u8 s] 74) = w5 at *
    refine (hH _).mono ?_
    rintro e w6 ⟨rfl, hw6⟩
    subst hw6
    go_wp2_with fail
    refine (hA _).mono ?_
    rintro e w7 ⟨rfl, hb7⟩
    clear x0 x1 xl y0 y1 yl z0 z1 zl
    go_wp2_with fail
    go_ret
    exact ⟨rfl, Below.onto B4.out hb7⟩
end Go.Proofs.Ytimmjhegeagofab
