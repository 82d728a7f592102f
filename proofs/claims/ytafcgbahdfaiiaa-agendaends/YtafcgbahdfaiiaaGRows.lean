/- Rows of one's own, whatever their elements' type, in statements whose order is left open: []T{}, append(.., u...), append(.., x). -/
import Derived.Test.YtafcgbahdfaiiaaKTakes
import Derived.Maps.AppendAt
namespace Go.Proofs.Ytafcgbahdfaiiaa
open Go.RowKit
set_option maxRecDepth 100000

/-- what is known of a slice's type t with elements of type e -/
structure Elt (t e : TypeId) (size bytes : Nat) (z : Value) : Prop where
  ht : Try.prog.underlying t = some (.slice e)
  hi : (Try.prog.info? e).map (fun i => (i.zero, i.size, i.bytes)) = some (some z, size, bytes)
  hz : z.cells.size = size
  hs : 0 < size
  hb : bytes ≤ 4096
/-- what is appended: the cells ys of m elements -/
def Src (w : World) (u : Value) (m : Nat) (ys : List Value) : Prop :=
  (u = .slice none 0 0 ∧ m = 0) ∨ ∃ g off c, u = .slice (some ⟨g, off, none⟩) m c ∧ ∀ j y, ys[j]? = some y → w.cell? ⟨g, off + j, none⟩ = some y
theorem gcell_lt {w : World} {b o : Nat} {v : Value} (h : w.cell? ⟨b, o, none⟩ = some v) : b < w.heap.size := by
  by_cases hb : b < w.heap.size
  · exact hb
  · exfalso
    have : w.heap[b]? = none := by simp; omega
    simp [World.cell?, this] at h
theorem Src.below {w w' : World} {u : Value} {m : Nat} {ys : List Value} (h : Src w u m ys) (hb : Below w.heap.size w w') : Src w' u m ys := by
  rcases h with h | ⟨g, off, c, e, h⟩
  · exact .inl h
  · exact .inr ⟨g, off, c, e, fun j y hj => (hb.cell (p := ⟨g, off + j, none⟩) (gcell_lt (h j y hj))).trans (h j y hj)⟩

theorem gstep_append {t e : TypeId} {size bytes : Nat} {z : Value} (E0 : Elt t e size bytes z) {ops : Array Oper} {o : Oper} {a : Act} {w : World} {K : Act → World → Prop} {Q : Exit → Act → World → Prop} {E : Prop} (hgd : o.guard = none) (s x : Operand)
    (hop : o.op = .call { callee := .builtin .append, args := #[s, x], argTypes := #[t, t] }) (base : Nat) (v u : Value) (n m : Nat) (xs ys : List Value)
    (hs : a.eval s = v) (hx : a.eval x = u) (hown : w.ownsRow base e size v n xs) (hu : Src w u m ys) (hl2 : ys.length = m * size) (h1 : ∀ y ∈ ys, y.oneCell' = true) (hl : n + m ≤ 1000000) (hbase : base ≤ w.heap.size)
    (hK : ∀ v' w', w'.ownsRow base e size v' (n + m) (xs ++ ys) → w.grownBy w' v.ownBlock → K (a.put o.dst v') w') :
    if Region.wanted o (yielded ops a.tmps) = true then Oper.wp Try.prog o a w K Q else E := by
  obtain ⟨i0, hi, hz0, hz1, hz2⟩ := info_parts E0.hi
  rw [if_pos (by simp [Region.wanted, hgd])]
  rcases hu with ⟨rfl, rfl⟩ | ⟨g, off, c, rfl, hc⟩
  · have hys : ys = [] := List.length_eq_zero_iff.1 (by rw [hl2, Nat.zero_mul])
    subst hys
    have hrun := run_append_owned_none (P := Try.prog) (w := w) base t o.type e i0 size E0.ht hi v n xs hown
    unfold Oper.wp
    simp [execOp, hop, resolve, invoke, builtin, hs, hx, hrun, Result.andThen]
    exact hK v w (by simpa using hown) (World.grownBy.refl w _)
  · have h64 : (n + m) * bytes ≤ 140737488355328 := by
      have := Nat.mul_le_mul hl E0.hb
      omega
    refine wp_append_own w s x t hop base e i0 z size bytes E0.ht hi hz0 hz1 hz2 E0.hz E0.hs v n xs hs hown ⟨g, off, none⟩ m c ys hx hl2 ?_ h1 (by unfold maxLen; omega) h64 hbase ?_
    · intro j y hj
      rw [Go.WideShapes.add_plain]
      exact hc j y hj
    · intro v' w' h1 h2 _
      exact hK v' w' h1 h2
/-- an operation that makes a block -/
theorem gstep_run {ops : Array Oper} {o : Oper} {a : Act} {w w' : World} {v : Value} {K : Act → World → Prop} {Q : Exit → Act → World → Prop} {E : Prop} (hgd : o.guard = none) (hrun : (execOp a.eval o).run Try.prog w = .ok (.value v) w') (h : K (a.put o.dst v) w') :
    if Region.wanted o (yielded ops a.tmps) = true then Oper.wp Try.prog o a w K Q else E := by
  rw [if_pos (by simp [Region.wanted, hgd])]
  unfold Oper.wp
  rw [hrun]
  exact h
theorem gheap_new (w : World) (o : Obj) : (w.alloc o).heap[w.heap.size]? = some o := by
  show (w.heap.push o)[w.heap.size]? = _
  simp
theorem gown_0 (w : World) (base : Nat) (e : TypeId) (size : Nat) (hb : base ≤ w.heap.size) : (w.alloc (.cells #[] e)).ownsRow base e size (.slice (some ⟨w.heap.size, 0, none⟩) 0 0) 0 [] :=
  ⟨by simp, .inr ⟨w.heap.size, 0, _, rfl, hb, gheap_new w _, Nat.le_refl _, by decide, by simp, by simp⟩⟩
theorem gown_1 (w : World) (base : Nat) (e : TypeId) (size : Nat) (ys : List Value) (hl : ys.length = size) (hb : base ≤ w.heap.size) : (w.alloc (.cells ys.toArray e)).ownsRow base e size (.slice (some ⟨w.heap.size, 0, none⟩) 1 1) 1 ys :=
  ⟨by omega, .inr ⟨w.heap.size, 1, _, rfl, hb, gheap_new w _, Nat.le_refl _, by decide, by simp [hl], by subst hl; simp⟩⟩
theorem gsrc_own {w : World} {base : Nat} {e : TypeId} {size : Nat} {v : Value} {n : Nat} {xs : List Value} (h : w.ownsRow base e size v n xs) : Src w v n xs := by
  rcases h.2 with ⟨rfl, hn⟩ | ⟨g, cap, cur, rfl, hrest⟩
  · exact .inl ⟨rfl, hn⟩
  · refine .inr ⟨g, 0, cap, rfl, fun j y hj => ?_⟩
    have hjl := (List.getElem?_eq_some_iff.1 hj).1
    rw [h.1] at hjl
    rw [Nat.zero_add, h.cellAt j hjl]
    exact hj
theorem gown_below {w W W' : World} {base : Nat} {e : TypeId} {size : Nat} {u : Value} {k : Nat} {ys : List Value} (hW : Below base w W) (hb : base ≤ W.heap.size) (hu : W.ownsRow base e size u k ys) (hg : W.grownBy W' u.ownBlock) : Below base w W' := hW.grown hg hb (fun q e => (hu.lt q e).1)

theorem gput_at {a : Act} {d : Nat} {v : Value} (h : d < a.tmps.size) : (a.put (some d) v).tmps[d]? = some v := by
  show (a.tmps.setIfInBounds d v)[d]? = _
  rw [Array.getElem?_setIfInBounds, if_pos rfl, if_pos h]
theorem gput_ne {a : Act} {d e : Nat} {v : Value} (h : d ≠ e) : (a.put (some d) v).tmps[e]? = a.tmps[e]? := by
  show (a.tmps.setIfInBounds d v)[e]? = _
  rw [Array.getElem?_setIfInBounds, if_neg h]
theorem gput_sz {a : Act} {d : Nat} {v : Value} : (a.put (some d) v).tmps.size = a.tmps.size := by
  show (a.tmps.setIfInBounds d v).size = _
  simp
theorem geval {a : Act} {d : Nat} {v : Value} (h : a.tmps[d]? = some v) : a.eval (.tmp d) = v := by
  show a.tmps.getD d undef = v
  simp only [Array.getD_eq_getD_getElem?, h]; rfl
theorem ggetD {a : Act} {d : Nat} {v : Value} (h : a.tmps[d]? = some v) : a.tmps.getD d undef = v := by
  simp only [Array.getD_eq_getD_getElem?, h]; rfl

/-- []T{}, then append: A, B -/
theorem gtail_row {t e : TypeId} {size bytes : Nat} {z : Value} (E0 : Elt t e size bytes z) {ops : Array Oper} {Q : Exit → Act → World → Prop} {w0 w : World} {iA iB dA dB dv : Nat} {oA oB : Oper} {listed : Array Bool} {a : Act} {fuel m : Nat} {xs : List Value} {u : Value}
    (eA : ops[iA]? = some oA) (eB : ops[iB]? = some oB) (gA : oA.guard = none) (gB : oB.guard = none)
    (bA : ∀ (a : Act) W, (execOp a.eval oA).run Try.prog W = .ok (.value (.slice (some ⟨W.heap.size, 0, none⟩) 0 0)) (W.alloc (.cells #[] e)))
    (pB : oB.op = .call { callee := .builtin .append, args := #[.tmp dA, .tmp dv], argTypes := #[t, t] }) (tA : oA.dst = some dA) (tB : oB.dst = some dB)
    (r0 : Region.ready .any ops listed = [iA]) (rA : Region.ready .any ops (listed.setIfInBounds iA true) = [iB])
    (nd : dA ≠ dv) (sz : dA < a.tmps.size)
    (hv : a.tmps[dv]? = some u) (hsrc : Src w0 u m xs) (hxl : xs.length = m * size) (h1 : ∀ y ∈ xs, y.oneCell' = true) (hl : m ≤ 900000)
    (hS : Below w0.heap.size w0 w)
    (fin : ∀ (vA vB : Value) (W : World), Below w0.heap.size w0 W → W.ownsRow w0.heap.size e size vB m xs →
      wpAnyH Try.prog .any ops Q (fun W => Below w0.heap.size w0 W) fuel ((listed.setIfInBounds iA true).setIfInBounds iB true) ((a.put (some dA) vA).put (some dB) vB) W) :
    wpAnyH Try.prog .any ops Q (fun W => Below w0.heap.size w0 W) (fuel + 2) listed a w := by
  refine wpAnyH_ready r0 (by simp) (AllReadyH.cons eA (fun K hK => ?_) AllReadyH.nil)
  refine gstep_run gA (bA a w) ?_
  have hWA : Below w0.heap.size w0 (w.alloc (.cells #[] e)) := hS.alloc hS.size _
  have hA := gown_0 w w0.heap.size e size hS.size
  refine hK.out _ _ hWA fun _ => ?_
  rw [tA]
  have zA : (a.put (some dA) (.slice (some ⟨w.heap.size, 0, none⟩) 0 0)).tmps[dA]? = some (.slice (some ⟨w.heap.size, 0, none⟩) 0 0) := gput_at sz
  have zv : (a.put (some dA) (.slice (some ⟨w.heap.size, 0, none⟩) 0 0)).tmps[dv]? = some u := (gput_ne nd).trans hv
  refine wpAnyH_ready rA (by simp) (AllReadyH.cons eB (fun K hK => ?_) AllReadyH.nil)
  refine gstep_append E0 gB (.tmp dA) (.tmp dv) pB w0.heap.size _ u 0 m [] xs (geval zA) (geval zv) hA (hsrc.below hWA) hxl h1 (by omega) hWA.size fun vB W2 h1 h2 => ?_
  have hW2 := gown_below hWA hWA.size hA h2
  rw [List.nil_append, Nat.zero_add] at h1
  refine hK.out _ _ hW2 fun _ => ?_
  rw [tB]
  exact fin _ vB W2 hW2 h1
/-- one append more to a row of one's own -/
theorem gtail_more {t e : TypeId} {size bytes : Nat} {z : Value} (E0 : Elt t e size bytes z) {ops : Array Oper} {Q : Exit → Act → World → Prop} {w0 w : World} {iB dA dB dv : Nat} {oB : Oper} {listed : Array Bool} {a : Act} {fuel n m : Nat} {xs ys : List Value} {v u : Value}
    (eB : ops[iB]? = some oB) (gB : oB.guard = none)
    (pB : oB.op = .call { callee := .builtin .append, args := #[.tmp dA, .tmp dv], argTypes := #[t, t] }) (tB : oB.dst = some dB)
    (r0 : Region.ready .any ops listed = [iB])
    (hA : a.tmps[dA]? = some v) (hv : a.tmps[dv]? = some u) (hown : w.ownsRow w0.heap.size e size v n xs) (hsrc : Src w0 u m ys) (hyl : ys.length = m * size) (h1 : ∀ y ∈ ys, y.oneCell' = true) (hl : n + m ≤ 1000000)
    (hS : Below w0.heap.size w0 w)
    (fin : ∀ (vB : Value) (W : World), Below w0.heap.size w0 W → W.ownsRow w0.heap.size e size vB (n + m) (xs ++ ys) →
      wpAnyH Try.prog .any ops Q (fun W => Below w0.heap.size w0 W) fuel (listed.setIfInBounds iB true) (a.put (some dB) vB) W) :
    wpAnyH Try.prog .any ops Q (fun W => Below w0.heap.size w0 W) (fuel + 1) listed a w := by
  refine wpAnyH_ready r0 (by simp) (AllReadyH.cons eB (fun K hK => ?_) AllReadyH.nil)
  refine gstep_append E0 gB (.tmp dA) (.tmp dv) pB w0.heap.size v u n m xs ys (geval hA) (geval hv) hown (hsrc.below hS) hyl h1 hl hS.size fun vB W2 h1 h2 => ?_
  have hW2 := gown_below hS hS.size hown h2
  refine hK.out _ _ hW2 fun _ => ?_
  rw [tB]
  exact fin vB W2 hW2 h1

/-- a row and one more, in whatever order: A: []T{}, B: append(A, u...), C: []T{x}, D: append(B, C...) -/
theorem gtail_snoc {t e : TypeId} {size bytes : Nat} {z : Value} (E0 : Elt t e size bytes z) {ops : Array Oper} {Q : Exit → Act → World → Prop} {w0 w : World} {iA iB iC iD dA dB dC dD dv dx : Nat} {oA oB oC oD : Oper} {listed : Array Bool} {a : Act} {fuel m : Nat} {xs ys : List Value} {u X : Value}
    (eA : ops[iA]? = some oA) (eB : ops[iB]? = some oB) (eC : ops[iC]? = some oC) (eD : ops[iD]? = some oD)
    (gA : oA.guard = none) (gB : oB.guard = none) (gC : oC.guard = none) (gD : oD.guard = none)
    (bA : ∀ (a : Act) W, (execOp a.eval oA).run Try.prog W = .ok (.value (.slice (some ⟨W.heap.size, 0, none⟩) 0 0)) (W.alloc (.cells #[] e)))
    (pB : oB.op = .call { callee := .builtin .append, args := #[.tmp dA, .tmp dv], argTypes := #[t, t] })
    (bC : ∀ (a : Act) W, a.tmps[dx]? = some X → (execOp a.eval oC).run Try.prog W = .ok (.value (.slice (some ⟨W.heap.size, 0, none⟩) 1 1)) (W.alloc (.cells ys.toArray e)))
    (pD : oD.op = .call { callee := .builtin .append, args := #[.tmp dB, .tmp dC], argTypes := #[t, t] })
    (tA : oA.dst = some dA) (tB : oB.dst = some dB) (tC : oC.dst = some dC) (tD : oD.dst = some dD)
    (r0 : Region.ready .any ops listed = [iA, iC]) (rA : Region.ready .any ops (listed.setIfInBounds iA true) = [iB, iC]) (rC : Region.ready .any ops (listed.setIfInBounds iC true) = [iA])
    (rAB : Region.ready .any ops ((listed.setIfInBounds iA true).setIfInBounds iB true) = [iC]) (rAC : Region.ready .any ops ((listed.setIfInBounds iA true).setIfInBounds iC true) = [iB]) (rCA : Region.ready .any ops ((listed.setIfInBounds iC true).setIfInBounds iA true) = [iB])
    (rABC : Region.ready .any ops (((listed.setIfInBounds iA true).setIfInBounds iB true).setIfInBounds iC true) = [iD])
    (ne : iA ≠ iB ∧ iA ≠ iC ∧ iB ≠ iC) (nd : dA ≠ dB ∧ dA ≠ dC ∧ dB ≠ dC ∧ dA ≠ dv ∧ dC ≠ dv ∧ dA ≠ dx ∧ dB ≠ dx) (sz : dA < a.tmps.size ∧ dB < a.tmps.size ∧ dC < a.tmps.size)
    (hv : a.tmps[dv]? = some u) (hx : a.tmps[dx]? = some X) (hsrc : Src w0 u m xs) (hxl : xs.length = m * size) (h1x : ∀ y ∈ xs, y.oneCell' = true) (hyl : ys.length = size) (h1y : ∀ y ∈ ys, y.oneCell' = true) (hl : m ≤ 900000)
    (hS : Below w0.heap.size w0 w)
    (fin : ∀ (vA vB vC vD : Value) (W : World), Below w0.heap.size w0 W → W.ownsRow w0.heap.size e size vD (m + 1) (xs ++ ys) →
      wpAnyH Try.prog .any ops Q (fun W => Below w0.heap.size w0 W) fuel ((((listed.setIfInBounds iA true).setIfInBounds iB true).setIfInBounds iC true).setIfInBounds iD true) ((((a.put (some dA) vA).put (some dB) vB).put (some dC) vC).put (some dD) vD) W) :
    wpAnyH Try.prog .any ops Q (fun W => Below w0.heap.size w0 W) (fuel + 4) listed a w := by
  obtain ⟨n1, n2, n3⟩ := ne
  obtain ⟨m1, m2, m3, m4, m5, m6, m7⟩ := nd
  obtain ⟨s1, s2, s3⟩ := sz
  have hyl1 : ys.length = 1 * size := by omega
  have stepD : ∀ (b1 : Act) (W : World) (vA vB vC : Value), b1 = ((a.put (some dA) vA).put (some dB) vB).put (some dC) vC → Below w0.heap.size w0 W → W.ownsRow w0.heap.size e size vB m xs → W.ownsRow w0.heap.size e size vC 1 ys →
      wpAnyH Try.prog .any ops Q (fun W => Below w0.heap.size w0 W) (fuel + 1) (((listed.setIfInBounds iA true).setIfInBounds iB true).setIfInBounds iC true) b1 W := by
    intro b1 W vA vB vC hb hW hB hC
    refine wpAnyH_ready rABC (by simp) (AllReadyH.cons eD (fun K hK => ?_) AllReadyH.nil)
    have z1 : b1.tmps[dB]? = some vB := by rw [hb, gput_ne (Ne.symm m3), gput_at (by rw [gput_sz]; exact s2)]
    have z2 : b1.tmps[dC]? = some vC := by rw [hb, gput_at (by rw [gput_sz, gput_sz]; exact s3)]
    refine gstep_append E0 gD (.tmp dB) (.tmp dC) pD w0.heap.size vB vC m 1 xs ys (geval z1) (geval z2) hB (gsrc_own hC) hyl1 h1y (by omega) hW.size fun vD W' h1 h2 => ?_
    have hW' := gown_below hW hW.size hB h2
    refine hK.out _ _ hW' fun _ => ?_
    rw [tD, hb]
    exact fin vA vB vC vD W' hW' h1
  refine wpAnyH_ready r0 (by simp) (AllReadyH.cons eA (fun K hK => ?_) (AllReadyH.cons eC (fun K hK => ?_) AllReadyH.nil))
  · refine gstep_run gA (bA a w) ?_
    have hWA : Below w0.heap.size w0 (w.alloc (.cells #[] e)) := hS.alloc hS.size _
    have hA := gown_0 w w0.heap.size e size hS.size
    refine hK.out _ _ hWA fun _ => ?_
    rw [tA]
    have zA : (a.put (some dA) (.slice (some ⟨w.heap.size, 0, none⟩) 0 0)).tmps[dA]? = some (.slice (some ⟨w.heap.size, 0, none⟩) 0 0) := gput_at s1
    have zv : (a.put (some dA) (.slice (some ⟨w.heap.size, 0, none⟩) 0 0)).tmps[dv]? = some u := (gput_ne m4).trans hv
    have zx : (a.put (some dA) (.slice (some ⟨w.heap.size, 0, none⟩) 0 0)).tmps[dx]? = some X := (gput_ne m6).trans hx
    have szA : w.heap.size < (w.alloc (.cells #[] e)).heap.size := by simp
    have hgA : (Value.slice (some ⟨w.heap.size, 0, none⟩) 0 0).ownBlock = some w.heap.size := rfl
    generalize (w.alloc (.cells #[] e)) = W1 at *
    generalize hvA : Value.slice (some ⟨w.heap.size, 0, none⟩) 0 0 = vA at *
    refine wpAnyH_ready rA (by simp) (AllReadyH.cons eB (fun K hK => ?_) (AllReadyH.cons eC (fun K hK => ?_) AllReadyH.nil))
    · refine gstep_append E0 gB (.tmp dA) (.tmp dv) pB w0.heap.size vA u 0 m [] xs (geval zA) (geval zv) hA (hsrc.below hWA) hxl h1x (by omega) hWA.size fun vB W2 h1 h2 => ?_
      have hW2 := gown_below hWA hWA.size hA h2
      rw [List.nil_append, Nat.zero_add] at h1
      refine hK.out _ _ hW2 fun _ => ?_
      rw [tB]
      refine wpAnyH_ready rAB (by simp) (AllReadyH.cons eC (fun K hK => ?_) AllReadyH.nil)
      refine gstep_run gC (bC _ W2 ((gput_ne m7).trans zx)) ?_
      have hW3 : Below w0.heap.size w0 (W2.alloc (.cells ys.toArray e)) := hW2.alloc hW2.size _
      refine hK.out _ _ hW3 fun _ => ?_
      rw [tC]
      exact stepD _ _ vA vB _ rfl hW3 (h1.alloc _) (gown_1 W2 w0.heap.size e size ys hyl hW2.size)
    · refine gstep_run gC (bC _ W1 zx) ?_
      have hW2 : Below w0.heap.size w0 (W1.alloc (.cells ys.toArray e)) := hWA.alloc hWA.size _
      refine hK.out _ _ hW2 fun _ => ?_
      rw [tC]
      have hC := gown_1 W1 w0.heap.size e size ys hyl hWA.size
      have hA2 : (W1.alloc (.cells ys.toArray e)).ownsRow w0.heap.size e size vA 0 [] := hA.alloc _
      refine wpAnyH_ready rAC (by simp) (AllReadyH.cons eB (fun K hK => ?_) AllReadyH.nil)
      refine gstep_append E0 gB (.tmp dA) (.tmp dv) pB w0.heap.size vA u 0 m [] xs (geval ((gput_ne (Ne.symm m2)).trans zA)) (geval ((gput_ne m5).trans zv)) hA2 (hsrc.below hW2) hxl h1x (by omega) hW2.size fun vB W3 h1 h2 => ?_
      have hW3 := gown_below hW2 hW2.size hA2 h2
      rw [List.nil_append, Nat.zero_add] at h1
      refine hK.out _ _ hW3 fun _ => ?_
      rw [tB, Array.setIfInBounds_comm _ _ n3.symm]
      refine stepD _ _ vA vB _ ?_ hW3 h1 (hC.kept h2 (.inr ?_))
      · exact Act.put_comm _ _ _ (by intro d h1 h2; cases h1; cases h2; exact m3 rfl)
      · rw [hgA]; intro e; have := Option.some.inj e; simp only at this; omega
  · refine gstep_run gC (bC a w hx) ?_
    have hW1 : Below w0.heap.size w0 (w.alloc (.cells ys.toArray e)) := hS.alloc hS.size _
    refine hK.out _ _ hW1 fun _ => ?_
    rw [tC]
    have hC := gown_1 w w0.heap.size e size ys hyl hS.size
    have zv : (a.put (some dC) (.slice (some ⟨w.heap.size, 0, none⟩) 1 1)).tmps[dv]? = some u := (gput_ne m5).trans hv
    have szC : w.heap.size < (w.alloc (.cells ys.toArray e)).heap.size := by simp
    have hgC : (Value.slice (some ⟨w.heap.size, 0, none⟩) 1 1).ownBlock = some w.heap.size := rfl
    have szc2 : (a.put (some dC) (.slice (some ⟨w.heap.size, 0, none⟩) 1 1)).tmps.size = a.tmps.size := gput_sz
    generalize (w.alloc (.cells ys.toArray e)) = W1 at *
    generalize Value.slice (some ⟨w.heap.size, 0, none⟩) 1 1 = vC at *
    refine wpAnyH_ready rC (by simp) (AllReadyH.cons eA (fun K hK => ?_) AllReadyH.nil)
    refine gstep_run gA (bA _ W1) ?_
    have hW2 : Below w0.heap.size w0 (W1.alloc (.cells #[] e)) := hW1.alloc hW1.size _
    refine hK.out _ _ hW2 fun _ => ?_
    rw [tA]
    have hA := gown_0 W1 w0.heap.size e size hW1.size
    have hC2 := hC.alloc (.cells #[] e)
    have zA : ((a.put (some dC) vC).put (some dA) (.slice (some ⟨W1.heap.size, 0, none⟩) 0 0)).tmps[dA]? = some (.slice (some ⟨W1.heap.size, 0, none⟩) 0 0) := gput_at (by rw [szc2]; exact s1)
    have zv2 : ((a.put (some dC) vC).put (some dA) (.slice (some ⟨W1.heap.size, 0, none⟩) 0 0)).tmps[dv]? = some u := (gput_ne m4).trans zv
    refine wpAnyH_ready rCA (by simp) (AllReadyH.cons eB (fun K hK => ?_) AllReadyH.nil)
    refine gstep_append E0 gB (.tmp dA) (.tmp dv) pB w0.heap.size _ u 0 m [] xs (geval zA) (geval zv2) hA (hsrc.below hW2) hxl h1x (by omega) hW2.size fun vB W3 h1 h2 => ?_
    have hW3 := gown_below hW2 hW2.size hA h2
    rw [List.nil_append, Nat.zero_add] at h1
    refine hK.out _ _ hW3 fun _ => ?_
    rw [tB, Array.setIfInBounds_comm _ _ n2.symm, Array.setIfInBounds_comm _ _ n3.symm]
    refine stepD _ _ (.slice (some ⟨W1.heap.size, 0, none⟩) 0 0) vB vC ?_ hW3 h1 (hC2.kept h2 (.inr ?_))
    · rw [Act.put_comm a vC _ (by intro d h1 h2; cases h1; cases h2; exact m2 rfl)]
      exact Act.put_comm _ _ _ (by intro d h1 h2; cases h1; cases h2; exact m3 rfl)
    · rw [hgC]; intro e; have := Option.some.inj e; simp only at this; omega

/-- all are done: the last one sets a slot -/
theorem gfin_assign {ops : Array Oper} {Q : Exit → Act → World → Prop} {S : World → Prop} {oL : Oper} {d r fuel : Nat} {listed : Array Bool} {a : Act} {W : World} {v : Value}
    (rE : Region.ready .any ops listed = []) (pL : oL.op = .assign (.tmp d)) (tL : oL.dst = some r) (hD : a.tmps[d]? = some v) (h : Q .normal (a.put (some r) v) W) :
    wpAnyH Try.prog .any ops (lastQ Try.prog oL Q) S fuel listed a W := by
  refine wpAnyH_done rE ?_ _
  show oL.wp Try.prog _ W (fun a' w' => Q .normal a' w') Q
  have hrun : (execOp a.eval oL).run Try.prog W = .ok (.value v) W := by simp [execOp, pL, geval hD]
  unfold Oper.wp
  rw [hrun]
  show Q .normal (a.put oL.dst v) _
  rw [tL]
  exact h

end Go.Proofs.Ytafcgbahdfaiiaa
