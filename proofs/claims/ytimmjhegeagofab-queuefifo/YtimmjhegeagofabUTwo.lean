/- Two rows of one's own, one more in each, in whatever order: A: []S{x}, B: append(l, A...), C: []T{y}, D: append(t, C...). -/
import Derived.Test.YtimmjhegeagofabGRows
namespace Go.Proofs.Ytimmjhegeagofab
open Go.RowKit
set_option maxRecDepth 100000

/-- a row of another type is not touched -/
theorem gkeep {W W' : World} {B n m s1 s2 : Nat} {e1 e2 : TypeId} {v u : Value} {xs ys : List Value} (h : W.ownsRow B e2 s2 v n xs) (h1 : W.ownsRow B e1 s1 u m ys) (hne : e1 ≠ e2) (hg : W.grownBy W' u.ownBlock) : W'.ownsRow B e2 s2 v n xs := by
  refine h.kept hg ?_
  rcases h.2 with ⟨rfl, _⟩ | ⟨g, cap, cur, rfl, _, h2, _⟩
  · exact .inl rfl
  · right
    intro e
    rcases h1.2 with ⟨rfl, _⟩ | ⟨g', cap', cur', rfl, _, h2', _⟩
    · cases e
    · have : g = g' := by simpa [Value.ownBlock] using e
      subst this
      rw [h2] at h2'
      injection h2' with h3
      injection h3 with _ h4
      exact hne h4.symm
set_option maxHeartbeats 2000000 in
theorem gtail_two {t1 e1 t2 e2 : TypeId} {s1 b1 s2 b2 : Nat} {z1 z2 : Value} (E1 : Elt t1 e1 s1 b1 z1) (E2 : Elt t2 e2 s2 b2 z2) (hne : e1 ≠ e2) {ops : Array Oper} {Q : Exit → Act → World → Prop} {w0 w : World} {iA iB iC iD dA dB dC dD dl dt dx dy : Nat} {oA oB oC oD : Oper} {listed : Array Bool} {a : Act} {fuel n1 n2 : Nat} {xs1 ys1 xs2 ys2 : List Value} {v1 v2 X Y : Value}
    (eA : ops[iA]? = some oA) (eB : ops[iB]? = some oB) (eC : ops[iC]? = some oC) (eD : ops[iD]? = some oD)
    (gA : oA.guard = none) (gB : oB.guard = none) (gC : oC.guard = none) (gD : oD.guard = none)
    (bA : ∀ (a : Act) W, a.tmps[dx]? = some X → (execOp a.eval oA).run Try.prog W = .ok (.value (.slice (some ⟨W.heap.size, 0, none⟩) 1 1)) (W.alloc (.cells ys1.toArray e1)))
    (pB : oB.op = .call { callee := .builtin .append, args := #[.tmp dl, .tmp dA], argTypes := #[t1, t1] })
    (bC : ∀ (a : Act) W, a.tmps[dy]? = some Y → (execOp a.eval oC).run Try.prog W = .ok (.value (.slice (some ⟨W.heap.size, 0, none⟩) 1 1)) (W.alloc (.cells ys2.toArray e2)))
    (pD : oD.op = .call { callee := .builtin .append, args := #[.tmp dt, .tmp dC], argTypes := #[t2, t2] })
    (tA : oA.dst = some dA) (tB : oB.dst = some dB) (tC : oC.dst = some dC) (tD : oD.dst = some dD)
    (r00 : Region.ready .any ops listed = [iA, iC]) (r10 : Region.ready .any ops (listed.setIfInBounds iA true) = [iB, iC]) (r01 : Region.ready .any ops (listed.setIfInBounds iC true) = [iA, iD])
    (r20 : Region.ready .any ops ((listed.setIfInBounds iA true).setIfInBounds iB true) = [iC]) (r02 : Region.ready .any ops ((listed.setIfInBounds iC true).setIfInBounds iD true) = [iA]) (r11 : Region.ready .any ops ((listed.setIfInBounds iA true).setIfInBounds iC true) = [iB, iD])
    (r21 : Region.ready .any ops (((listed.setIfInBounds iA true).setIfInBounds iB true).setIfInBounds iC true) = [iD]) (r12 : Region.ready .any ops (((listed.setIfInBounds iA true).setIfInBounds iC true).setIfInBounds iD true) = [iB])
    (ni : iA ≠ iC ∧ iA ≠ iD ∧ iB ≠ iC ∧ iB ≠ iD) (nd : (dA ≠ dC ∧ dA ≠ dD ∧ dB ≠ dC ∧ dB ≠ dD) ∧ (dA ≠ dl ∧ dC ≠ dl ∧ dD ≠ dl) ∧ (dA ≠ dt ∧ dB ≠ dt ∧ dC ≠ dt) ∧ (dC ≠ dx ∧ dD ≠ dx) ∧ (dA ≠ dy ∧ dB ≠ dy)) (sz : dA < a.tmps.size ∧ dC < a.tmps.size)
    (hl : a.tmps[dl]? = some v1) (ht : a.tmps[dt]? = some v2) (hx : a.tmps[dx]? = some X) (hy : a.tmps[dy]? = some Y)
    (h1 : w.ownsRow w0.heap.size e1 s1 v1 n1 xs1) (h2 : w.ownsRow w0.heap.size e2 s2 v2 n2 xs2) (hyl1 : ys1.length = s1) (ho1 : ∀ y ∈ ys1, y.oneCell' = true) (hyl2 : ys2.length = s2) (ho2 : ∀ y ∈ ys2, y.oneCell' = true) (hn1 : n1 ≤ 900000) (hn2 : n2 ≤ 900000)
    (hS : Below w0.heap.size w0 w)
    (fin : ∀ (vA vB vC vD : Value) (W : World), Below w0.heap.size w0 W → W.ownsRow w0.heap.size e1 s1 vB (n1 + 1) (xs1 ++ ys1) → W.ownsRow w0.heap.size e2 s2 vD (n2 + 1) (xs2 ++ ys2) →
      wpAnyH Try.prog .any ops Q (fun W => Below w0.heap.size w0 W) fuel ((((listed.setIfInBounds iA true).setIfInBounds iB true).setIfInBounds iC true).setIfInBounds iD true) ((((a.put (some dA) vA).put (some dB) vB).put (some dC) vC).put (some dD) vD) W) :
    wpAnyH Try.prog .any ops Q (fun W => Below w0.heap.size w0 W) (fuel + 4) listed a w := by
  obtain ⟨i1, i2, i3, i4⟩ := ni
  obtain ⟨⟨c1, c2, c3, c4⟩, ⟨l1, l2, l3⟩, ⟨m1, m2, m3⟩, ⟨x1, x2⟩, ⟨y1, y2⟩⟩ := nd
  obtain ⟨z1, z2⟩ := sz
  have hy1 : ys1.length = 1 * s1 := by omega
  have hy2 : ys2.length = 1 * s2 := by omega
  have cm : ∀ (b : Act) (u v : Value) {d d' : Nat}, d ≠ d' → (b.put (some d) u).put (some d') v = (b.put (some d') v).put (some d) u := fun b u v d d' h => Act.put_comm _ _ _ (by intro k h1 h2; cases h1; cases h2; exact h rfl)
  have s21 : ∀ (W : World) (vA vB vC : Value), Below w0.heap.size w0 W → W.ownsRow w0.heap.size e1 s1 vB (n1 + 1) (xs1 ++ ys1) → W.ownsRow w0.heap.size e2 s2 v2 n2 xs2 → W.ownsRow w0.heap.size e2 s2 vC 1 ys2 →
      wpAnyH Try.prog .any ops Q (fun W => Below w0.heap.size w0 W) (fuel + 1) (((listed.setIfInBounds iA true).setIfInBounds iB true).setIfInBounds iC true) (((a.put (some dA) vA).put (some dB) vB).put (some dC) vC) W := by
    intro W vA vB vC hW hB hT hC
    refine wpAnyH_ready r21 (by simp) (AllReadyH.cons eD (fun K hK => ?_) AllReadyH.nil)
    refine gstep_append E2 gD (.tmp dt) (.tmp dC) pD w0.heap.size v2 vC n2 1 xs2 ys2 (geval (by rw [gput_ne m3, gput_ne m2, gput_ne m1]; exact ht)) (geval (gput_at (by rw [gput_sz, gput_sz]; exact z2))) hT (gsrc_own hC) hy2 ho2 (by omega) hW.size fun vD W' q1 q2 => ?_
    have hW' := gown_below hW hW.size hT q2
    refine hK.out _ _ hW' fun _ => ?_
    rw [tD]
    exact fin vA vB vC vD W' hW' (gkeep hB hT (Ne.symm hne) q2) q1
  have s12 : ∀ (W : World) (vA vC vD : Value), Below w0.heap.size w0 W → W.ownsRow w0.heap.size e1 s1 v1 n1 xs1 → W.ownsRow w0.heap.size e1 s1 vA 1 ys1 → W.ownsRow w0.heap.size e2 s2 vD (n2 + 1) (xs2 ++ ys2) →
      wpAnyH Try.prog .any ops Q (fun W => Below w0.heap.size w0 W) (fuel + 1) (((listed.setIfInBounds iA true).setIfInBounds iC true).setIfInBounds iD true) (((a.put (some dA) vA).put (some dC) vC).put (some dD) vD) W := by
    intro W vA vC vD hW hL hA hD
    refine wpAnyH_ready r12 (by simp) (AllReadyH.cons eB (fun K hK => ?_) AllReadyH.nil)
    refine gstep_append E1 gB (.tmp dl) (.tmp dA) pB w0.heap.size v1 vA n1 1 xs1 ys1 (geval (by rw [gput_ne l3, gput_ne l2, gput_ne l1]; exact hl)) (geval (by rw [gput_ne (Ne.symm c2), gput_ne (Ne.symm c1)]; exact gput_at z1)) hL (gsrc_own hA) hy1 ho1 (by omega) hW.size fun vB W' q1 q2 => ?_
    have hW' := gown_below hW hW.size hL q2
    refine hK.out _ _ hW' fun _ => ?_
    rw [tB, Array.setIfInBounds_comm _ _ (Ne.symm i4), Array.setIfInBounds_comm _ _ (Ne.symm i3), cm _ vD vB (Ne.symm c4), cm _ vC vB (Ne.symm c3)]
    exact fin vA vB vC vD W' hW' q1 (gkeep hD hL hne q2)
  have s11 : ∀ (W : World) (vA vC : Value), Below w0.heap.size w0 W → W.ownsRow w0.heap.size e1 s1 v1 n1 xs1 → W.ownsRow w0.heap.size e1 s1 vA 1 ys1 → W.ownsRow w0.heap.size e2 s2 v2 n2 xs2 → W.ownsRow w0.heap.size e2 s2 vC 1 ys2 →
      wpAnyH Try.prog .any ops Q (fun W => Below w0.heap.size w0 W) (fuel + 2) ((listed.setIfInBounds iA true).setIfInBounds iC true) ((a.put (some dA) vA).put (some dC) vC) W := by
    intro W vA vC hW hL hA hT hC
    refine wpAnyH_ready r11 (by simp) (AllReadyH.cons eB (fun K hK => ?_) (AllReadyH.cons eD (fun K hK => ?_) AllReadyH.nil))
    · refine gstep_append E1 gB (.tmp dl) (.tmp dA) pB w0.heap.size v1 vA n1 1 xs1 ys1 (geval (by rw [gput_ne l2, gput_ne l1]; exact hl)) (geval (by rw [gput_ne (Ne.symm c1)]; exact gput_at z1)) hL (gsrc_own hA) hy1 ho1 (by omega) hW.size fun vB W' q1 q2 => ?_
      have hW' := gown_below hW hW.size hL q2
      refine hK.out _ _ hW' fun _ => ?_
      rw [tB, Array.setIfInBounds_comm _ _ (Ne.symm i3), cm _ vC vB (Ne.symm c3)]
      exact s21 W' vA vB vC hW' q1 (gkeep hT hL hne q2) (gkeep hC hL hne q2)
    · refine gstep_append E2 gD (.tmp dt) (.tmp dC) pD w0.heap.size v2 vC n2 1 xs2 ys2 (geval (by rw [gput_ne m3, gput_ne m1]; exact ht)) (geval (gput_at (by rw [gput_sz]; exact z2))) hT (gsrc_own hC) hy2 ho2 (by omega) hW.size fun vD W' q1 q2 => ?_
      have hW' := gown_below hW hW.size hT q2
      refine hK.out _ _ hW' fun _ => ?_
      rw [tD]
      exact s12 W' vA vC vD hW' (gkeep hL hT (Ne.symm hne) q2) (gkeep hA hT (Ne.symm hne) q2) q1
  have s20 : ∀ (W : World) (vA vB : Value), Below w0.heap.size w0 W → W.ownsRow w0.heap.size e1 s1 vB (n1 + 1) (xs1 ++ ys1) → W.ownsRow w0.heap.size e2 s2 v2 n2 xs2 →
      wpAnyH Try.prog .any ops Q (fun W => Below w0.heap.size w0 W) (fuel + 2) ((listed.setIfInBounds iA true).setIfInBounds iB true) ((a.put (some dA) vA).put (some dB) vB) W := by
    intro W vA vB hW hB hT
    refine wpAnyH_ready r20 (by simp) (AllReadyH.cons eC (fun K hK => ?_) AllReadyH.nil)
    refine gstep_run gC (bC _ W (by rw [gput_ne y2, gput_ne y1]; exact hy)) ?_
    have hW' : Below w0.heap.size w0 (W.alloc (.cells ys2.toArray e2)) := hW.alloc hW.size _
    refine hK.out _ _ hW' fun _ => ?_
    rw [tC]
    exact s21 _ vA vB _ hW' (hB.alloc _) (hT.alloc _) (gown_1 W w0.heap.size e2 s2 ys2 hyl2 hW.size)
  have s02 : ∀ (W : World) (vC vD : Value), Below w0.heap.size w0 W → W.ownsRow w0.heap.size e1 s1 v1 n1 xs1 → W.ownsRow w0.heap.size e2 s2 vD (n2 + 1) (xs2 ++ ys2) →
      wpAnyH Try.prog .any ops Q (fun W => Below w0.heap.size w0 W) (fuel + 2) ((listed.setIfInBounds iC true).setIfInBounds iD true) ((a.put (some dC) vC).put (some dD) vD) W := by
    intro W vC vD hW hL hD
    refine wpAnyH_ready r02 (by simp) (AllReadyH.cons eA (fun K hK => ?_) AllReadyH.nil)
    refine gstep_run gA (bA _ W (by rw [gput_ne x2, gput_ne x1]; exact hx)) ?_
    have hW' : Below w0.heap.size w0 (W.alloc (.cells ys1.toArray e1)) := hW.alloc hW.size _
    refine hK.out _ _ hW' fun _ => ?_
    rw [tA, Array.setIfInBounds_comm _ _ (Ne.symm i2), Array.setIfInBounds_comm _ _ (Ne.symm i1), cm _ vD _ (Ne.symm c2), cm _ vC _ (Ne.symm c1)]
    exact s12 _ _ vC vD hW' (hL.alloc _) (gown_1 W w0.heap.size e1 s1 ys1 hyl1 hW.size) (hD.alloc _)
  have s10 : ∀ (W : World) (vA : Value), Below w0.heap.size w0 W → W.ownsRow w0.heap.size e1 s1 v1 n1 xs1 → W.ownsRow w0.heap.size e1 s1 vA 1 ys1 → W.ownsRow w0.heap.size e2 s2 v2 n2 xs2 →
      wpAnyH Try.prog .any ops Q (fun W => Below w0.heap.size w0 W) (fuel + 3) (listed.setIfInBounds iA true) (a.put (some dA) vA) W := by
    intro W vA hW hL hA hT
    refine wpAnyH_ready r10 (by simp) (AllReadyH.cons eB (fun K hK => ?_) (AllReadyH.cons eC (fun K hK => ?_) AllReadyH.nil))
    · refine gstep_append E1 gB (.tmp dl) (.tmp dA) pB w0.heap.size v1 vA n1 1 xs1 ys1 (geval (by rw [gput_ne l1]; exact hl)) (geval (gput_at z1)) hL (gsrc_own hA) hy1 ho1 (by omega) hW.size fun vB W' q1 q2 => ?_
      have hW' := gown_below hW hW.size hL q2
      refine hK.out _ _ hW' fun _ => ?_
      rw [tB]
      exact s20 W' vA vB hW' q1 (gkeep hT hL hne q2)
    · refine gstep_run gC (bC _ W (by rw [gput_ne y1]; exact hy)) ?_
      have hW' : Below w0.heap.size w0 (W.alloc (.cells ys2.toArray e2)) := hW.alloc hW.size _
      refine hK.out _ _ hW' fun _ => ?_
      rw [tC]
      exact s11 _ vA _ hW' (hL.alloc _) (hA.alloc _) (hT.alloc _) (gown_1 W w0.heap.size e2 s2 ys2 hyl2 hW.size)
  have s01 : ∀ (W : World) (vC : Value), Below w0.heap.size w0 W → W.ownsRow w0.heap.size e1 s1 v1 n1 xs1 → W.ownsRow w0.heap.size e2 s2 v2 n2 xs2 → W.ownsRow w0.heap.size e2 s2 vC 1 ys2 →
      wpAnyH Try.prog .any ops Q (fun W => Below w0.heap.size w0 W) (fuel + 3) (listed.setIfInBounds iC true) (a.put (some dC) vC) W := by
    intro W vC hW hL hT hC
    refine wpAnyH_ready r01 (by simp) (AllReadyH.cons eA (fun K hK => ?_) (AllReadyH.cons eD (fun K hK => ?_) AllReadyH.nil))
    · refine gstep_run gA (bA _ W (by rw [gput_ne x1]; exact hx)) ?_
      have hW' : Below w0.heap.size w0 (W.alloc (.cells ys1.toArray e1)) := hW.alloc hW.size _
      refine hK.out _ _ hW' fun _ => ?_
      rw [tA, Array.setIfInBounds_comm _ _ (Ne.symm i1), cm _ vC _ (Ne.symm c1)]
      exact s11 _ _ vC hW' (hL.alloc _) (gown_1 W w0.heap.size e1 s1 ys1 hyl1 hW.size) (hT.alloc _) (hC.alloc _)
    · refine gstep_append E2 gD (.tmp dt) (.tmp dC) pD w0.heap.size v2 vC n2 1 xs2 ys2 (geval (by rw [gput_ne m3]; exact ht)) (geval (gput_at z2)) hT (gsrc_own hC) hy2 ho2 (by omega) hW.size fun vD W' q1 q2 => ?_
      have hW' := gown_below hW hW.size hT q2
      refine hK.out _ _ hW' fun _ => ?_
      rw [tD]
      exact s02 W' vC vD hW' (gkeep hL hT (Ne.symm hne) q2) q1
  refine wpAnyH_ready r00 (by simp) (AllReadyH.cons eA (fun K hK => ?_) (AllReadyH.cons eC (fun K hK => ?_) AllReadyH.nil))
  · refine gstep_run gA (bA _ w hx) ?_
    have hW' : Below w0.heap.size w0 (w.alloc (.cells ys1.toArray e1)) := hS.alloc hS.size _
    refine hK.out _ _ hW' fun _ => ?_
    rw [tA]
    exact s10 _ _ hW' (h1.alloc _) (gown_1 w w0.heap.size e1 s1 ys1 hyl1 hS.size) (h2.alloc _)
  · refine gstep_run gC (bC _ w hy) ?_
    have hW' : Below w0.heap.size w0 (w.alloc (.cells ys2.toArray e2)) := hS.alloc hS.size _
    refine hK.out _ _ hW' fun _ => ?_
    rw [tC]
    exact s01 _ _ hW' (h1.alloc _) (h2.alloc _) (gown_1 w w0.heap.size e2 s2 ys2 hyl2 hS.size)
/-- the same, where the second append waits for the first -/
theorem gtail_twoL {t1 e1 t2 e2 : TypeId} {s1 b1 s2 b2 : Nat} {z1 z2 : Value} (E1 : Elt t1 e1 s1 b1 z1) (E2 : Elt t2 e2 s2 b2 z2) (hne : e1 ≠ e2) {ops : Array Oper} {Q : Exit → Act → World → Prop} {w0 w : World} {iA iB iC iD dA dB dC dD dl dt dx dy : Nat} {oA oB oC oD : Oper} {listed : Array Bool} {a : Act} {fuel n1 n2 : Nat} {xs1 ys1 xs2 ys2 : List Value} {v1 v2 X Y : Value}
    (eA : ops[iA]? = some oA) (eB : ops[iB]? = some oB) (eC : ops[iC]? = some oC) (eD : ops[iD]? = some oD)
    (gA : oA.guard = none) (gB : oB.guard = none) (gC : oC.guard = none) (gD : oD.guard = none)
    (bA : ∀ (a : Act) W, a.tmps[dx]? = some X → (execOp a.eval oA).run Try.prog W = .ok (.value (.slice (some ⟨W.heap.size, 0, none⟩) 1 1)) (W.alloc (.cells ys1.toArray e1)))
    (pB : oB.op = .call { callee := .builtin .append, args := #[.tmp dl, .tmp dA], argTypes := #[t1, t1] })
    (bC : ∀ (a : Act) W, a.tmps[dy]? = some Y → (execOp a.eval oC).run Try.prog W = .ok (.value (.slice (some ⟨W.heap.size, 0, none⟩) 1 1)) (W.alloc (.cells ys2.toArray e2)))
    (pD : oD.op = .call { callee := .builtin .append, args := #[.tmp dt, .tmp dC], argTypes := #[t2, t2] })
    (tA : oA.dst = some dA) (tB : oB.dst = some dB) (tC : oC.dst = some dC) (tD : oD.dst = some dD)
    (r00 : Region.ready .any ops listed = [iA, iC]) (r10 : Region.ready .any ops (listed.setIfInBounds iA true) = [iB, iC]) (r01 : Region.ready .any ops (listed.setIfInBounds iC true) = [iA])
    (r20 : Region.ready .any ops ((listed.setIfInBounds iA true).setIfInBounds iB true) = [iC]) (r11 : Region.ready .any ops ((listed.setIfInBounds iA true).setIfInBounds iC true) = [iB])
    (r21 : Region.ready .any ops (((listed.setIfInBounds iA true).setIfInBounds iB true).setIfInBounds iC true) = [iD])
    (ni : iA ≠ iC ∧ iB ≠ iC) (nd : (dA ≠ dC ∧ dA ≠ dD ∧ dB ≠ dC ∧ dB ≠ dD) ∧ (dA ≠ dl ∧ dC ≠ dl ∧ dD ≠ dl) ∧ (dA ≠ dt ∧ dB ≠ dt ∧ dC ≠ dt) ∧ (dC ≠ dx ∧ dD ≠ dx) ∧ (dA ≠ dy ∧ dB ≠ dy)) (sz : dA < a.tmps.size ∧ dC < a.tmps.size)
    (hl : a.tmps[dl]? = some v1) (ht : a.tmps[dt]? = some v2) (hx : a.tmps[dx]? = some X) (hy : a.tmps[dy]? = some Y)
    (h1 : w.ownsRow w0.heap.size e1 s1 v1 n1 xs1) (h2 : w.ownsRow w0.heap.size e2 s2 v2 n2 xs2) (hyl1 : ys1.length = s1) (ho1 : ∀ y ∈ ys1, y.oneCell' = true) (hyl2 : ys2.length = s2) (ho2 : ∀ y ∈ ys2, y.oneCell' = true) (hn1 : n1 ≤ 900000) (hn2 : n2 ≤ 900000)
    (hS : Below w0.heap.size w0 w)
    (fin : ∀ (vA vB vC vD : Value) (W : World), Below w0.heap.size w0 W → W.ownsRow w0.heap.size e1 s1 vB (n1 + 1) (xs1 ++ ys1) → W.ownsRow w0.heap.size e2 s2 vD (n2 + 1) (xs2 ++ ys2) →
      wpAnyH Try.prog .any ops Q (fun W => Below w0.heap.size w0 W) fuel ((((listed.setIfInBounds iA true).setIfInBounds iB true).setIfInBounds iC true).setIfInBounds iD true) ((((a.put (some dA) vA).put (some dB) vB).put (some dC) vC).put (some dD) vD) W) :
    wpAnyH Try.prog .any ops Q (fun W => Below w0.heap.size w0 W) (fuel + 4) listed a w := by
  obtain ⟨i1, i3⟩ := ni
  obtain ⟨⟨c1, c2, c3, c4⟩, ⟨l1, l2, l3⟩, ⟨m1, m2, m3⟩, ⟨x1, x2⟩, ⟨y1, y2⟩⟩ := nd
  obtain ⟨z1, z2⟩ := sz
  have hy1 : ys1.length = 1 * s1 := by omega
  have hy2 : ys2.length = 1 * s2 := by omega
  have cm : ∀ (b : Act) (u v : Value) {d d' : Nat}, d ≠ d' → (b.put (some d) u).put (some d') v = (b.put (some d') v).put (some d) u := fun b u v d d' h => Act.put_comm _ _ _ (by intro k h1 h2; cases h1; cases h2; exact h rfl)
  have s21 : ∀ (W : World) (vA vB vC : Value), Below w0.heap.size w0 W → W.ownsRow w0.heap.size e1 s1 vB (n1 + 1) (xs1 ++ ys1) → W.ownsRow w0.heap.size e2 s2 v2 n2 xs2 → W.ownsRow w0.heap.size e2 s2 vC 1 ys2 →
      wpAnyH Try.prog .any ops Q (fun W => Below w0.heap.size w0 W) (fuel + 1) (((listed.setIfInBounds iA true).setIfInBounds iB true).setIfInBounds iC true) (((a.put (some dA) vA).put (some dB) vB).put (some dC) vC) W := by
    intro W vA vB vC hW hB hT hC
    refine wpAnyH_ready r21 (by simp) (AllReadyH.cons eD (fun K hK => ?_) AllReadyH.nil)
    refine gstep_append E2 gD (.tmp dt) (.tmp dC) pD w0.heap.size v2 vC n2 1 xs2 ys2 (geval (by rw [gput_ne m3, gput_ne m2, gput_ne m1]; exact ht)) (geval (gput_at (by rw [gput_sz, gput_sz]; exact z2))) hT (gsrc_own hC) hy2 ho2 (by omega) hW.size fun vD W' q1 q2 => ?_
    have hW' := gown_below hW hW.size hT q2
    refine hK.out _ _ hW' fun _ => ?_
    rw [tD]
    exact fin vA vB vC vD W' hW' (gkeep hB hT (Ne.symm hne) q2) q1
  have s11 : ∀ (W : World) (vA vC : Value), Below w0.heap.size w0 W → W.ownsRow w0.heap.size e1 s1 v1 n1 xs1 → W.ownsRow w0.heap.size e1 s1 vA 1 ys1 → W.ownsRow w0.heap.size e2 s2 v2 n2 xs2 → W.ownsRow w0.heap.size e2 s2 vC 1 ys2 →
      wpAnyH Try.prog .any ops Q (fun W => Below w0.heap.size w0 W) (fuel + 2) ((listed.setIfInBounds iA true).setIfInBounds iC true) ((a.put (some dA) vA).put (some dC) vC) W := by
    intro W vA vC hW hL hA hT hC
    refine wpAnyH_ready r11 (by simp) (AllReadyH.cons eB (fun K hK => ?_) AllReadyH.nil)
    refine gstep_append E1 gB (.tmp dl) (.tmp dA) pB w0.heap.size v1 vA n1 1 xs1 ys1 (geval (by rw [gput_ne l2, gput_ne l1]; exact hl)) (geval (by rw [gput_ne (Ne.symm c1)]; exact gput_at z1)) hL (gsrc_own hA) hy1 ho1 (by omega) hW.size fun vB W' q1 q2 => ?_
    have hW' := gown_below hW hW.size hL q2
    refine hK.out _ _ hW' fun _ => ?_
    rw [tB, Array.setIfInBounds_comm _ _ (Ne.symm i3), cm _ vC vB (Ne.symm c3)]
    exact s21 W' vA vB vC hW' q1 (gkeep hT hL hne q2) (gkeep hC hL hne q2)
  have s20 : ∀ (W : World) (vA vB : Value), Below w0.heap.size w0 W → W.ownsRow w0.heap.size e1 s1 vB (n1 + 1) (xs1 ++ ys1) → W.ownsRow w0.heap.size e2 s2 v2 n2 xs2 →
      wpAnyH Try.prog .any ops Q (fun W => Below w0.heap.size w0 W) (fuel + 2) ((listed.setIfInBounds iA true).setIfInBounds iB true) ((a.put (some dA) vA).put (some dB) vB) W := by
    intro W vA vB hW hB hT
    refine wpAnyH_ready r20 (by simp) (AllReadyH.cons eC (fun K hK => ?_) AllReadyH.nil)
    refine gstep_run gC (bC _ W (by rw [gput_ne y2, gput_ne y1]; exact hy)) ?_
    have hW' : Below w0.heap.size w0 (W.alloc (.cells ys2.toArray e2)) := hW.alloc hW.size _
    refine hK.out _ _ hW' fun _ => ?_
    rw [tC]
    exact s21 _ vA vB _ hW' (hB.alloc _) (hT.alloc _) (gown_1 W w0.heap.size e2 s2 ys2 hyl2 hW.size)
  have s10 : ∀ (W : World) (vA : Value), Below w0.heap.size w0 W → W.ownsRow w0.heap.size e1 s1 v1 n1 xs1 → W.ownsRow w0.heap.size e1 s1 vA 1 ys1 → W.ownsRow w0.heap.size e2 s2 v2 n2 xs2 →
      wpAnyH Try.prog .any ops Q (fun W => Below w0.heap.size w0 W) (fuel + 3) (listed.setIfInBounds iA true) (a.put (some dA) vA) W := by
    intro W vA hW hL hA hT
    refine wpAnyH_ready r10 (by simp) (AllReadyH.cons eB (fun K hK => ?_) (AllReadyH.cons eC (fun K hK => ?_) AllReadyH.nil))
    · refine gstep_append E1 gB (.tmp dl) (.tmp dA) pB w0.heap.size v1 vA n1 1 xs1 ys1 (geval (by rw [gput_ne l1]; exact hl)) (geval (gput_at z1)) hL (gsrc_own hA) hy1 ho1 (by omega) hW.size fun vB W' q1 q2 => ?_
      have hW' := gown_below hW hW.size hL q2
      refine hK.out _ _ hW' fun _ => ?_
      rw [tB]
      exact s20 W' vA vB hW' q1 (gkeep hT hL hne q2)
    · refine gstep_run gC (bC _ W (by rw [gput_ne y1]; exact hy)) ?_
      have hW' : Below w0.heap.size w0 (W.alloc (.cells ys2.toArray e2)) := hW.alloc hW.size _
      refine hK.out _ _ hW' fun _ => ?_
      rw [tC]
      exact s11 _ vA _ hW' (hL.alloc _) (hA.alloc _) (hT.alloc _) (gown_1 W w0.heap.size e2 s2 ys2 hyl2 hW.size)
  have s01 : ∀ (W : World) (vC : Value), Below w0.heap.size w0 W → W.ownsRow w0.heap.size e1 s1 v1 n1 xs1 → W.ownsRow w0.heap.size e2 s2 v2 n2 xs2 → W.ownsRow w0.heap.size e2 s2 vC 1 ys2 →
      wpAnyH Try.prog .any ops Q (fun W => Below w0.heap.size w0 W) (fuel + 3) (listed.setIfInBounds iC true) (a.put (some dC) vC) W := by
    intro W vC hW hL hT hC
    refine wpAnyH_ready r01 (by simp) (AllReadyH.cons eA (fun K hK => ?_) AllReadyH.nil)
    refine gstep_run gA (bA _ W (by rw [gput_ne x1]; exact hx)) ?_
    have hW' : Below w0.heap.size w0 (W.alloc (.cells ys1.toArray e1)) := hW.alloc hW.size _
    refine hK.out _ _ hW' fun _ => ?_
    rw [tA, Array.setIfInBounds_comm _ _ (Ne.symm i1), cm _ vC _ (Ne.symm c1)]
    exact s11 _ _ vC hW' (hL.alloc _) (gown_1 W w0.heap.size e1 s1 ys1 hyl1 hW.size) (hT.alloc _) (hC.alloc _)
  refine wpAnyH_ready r00 (by simp) (AllReadyH.cons eA (fun K hK => ?_) (AllReadyH.cons eC (fun K hK => ?_) AllReadyH.nil))
  · refine gstep_run gA (bA _ w hx) ?_
    have hW' : Below w0.heap.size w0 (w.alloc (.cells ys1.toArray e1)) := hS.alloc hS.size _
    refine hK.out _ _ hW' fun _ => ?_
    rw [tA]
    exact s10 _ _ hW' (h1.alloc _) (gown_1 w w0.heap.size e1 s1 ys1 hyl1 hS.size) (h2.alloc _)
  · refine gstep_run gC (bC _ w hy) ?_
    have hW' : Below w0.heap.size w0 (w.alloc (.cells ys2.toArray e2)) := hS.alloc hS.size _
    refine hK.out _ _ hW' fun _ => ?_
    rw [tC]
    exact s01 _ _ hW' (h1.alloc _) (h2.alloc _) (gown_1 w w0.heap.size e2 s2 ys2 hyl2 hS.size)
end Go.Proofs.Ytimmjhegeagofab
