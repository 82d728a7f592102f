/- The document's lists are changed: an append, and a store. -/
import Derived.Test.YtiaacjollcccaaaKRef
import Derived.Test.YtiaacjollcccaaaKTakes
import Derived.Laws.OwnMore
namespace Go.Proofs.Ytiaacjollcccaaa
open Go.RowKit

theorem Rx.set {w W : World} {p b B n m : Nat} {R : Nat → List Nat} (h : Rx w p b B n m R) (hW : Below w.heap.size w W) {k : Nat} (hk : k < m) {v : Value} {r : List Nat} (hown : W.ownsRow w.heap.size 3 1 v r.length (encL r)) (hl : r.length ≤ 65536) :
    Rx (W.setCell ⟨b, k, none⟩ v) p b B n m (upd R k r) ∧ But (fun x => x = b) w (W.setCell ⟨b, k, none⟩ v) := by
  have h2 := h.below hW
  obtain ⟨l1, l2, l3⟩ := h.lt
  have hown' : W.ownsRow B 3 1 v r.length (encL r) := own_mono hown l3
  have stay : ∀ {v' : Value} {n' : Nat} {xs : List Value}, W.ownsRow B 3 1 v' n' xs → (W.setCell ⟨b, k, none⟩ v).ownsRow B 3 1 v' n' xs := fun ho => ownsRow_setCell_below ho l2 _
  refine ⟨⟨?_, ?_, fun j hj => ?_, fun j => ?_, h.ne, ⟨l1, l2, ?_⟩, h.bd, fun j hj => ?_⟩, (But.of (S := fun x => x = b) hW).setCell (p := ⟨b, k, none⟩) rfl _⟩
  · rw [cell_set_ne (.inl h.ne)]; exact h2.c0
  · rw [cell_set_ne (.inl h.ne)]; exact h2.c1
  · by_cases e : j = k
    · subst e
      obtain ⟨u, hu, _⟩ := h2.row j hj
      refine ⟨v, cell_set_eq hu, ?_⟩
      rw [upd_at]; exact stay hown'
    · obtain ⟨u, hu, ho⟩ := h2.row j hj
      refine ⟨u, ?_, ?_⟩
      · rw [cell_set_ne (.inr e)]; exact hu
      · rw [upd_ne e]; exact stay ho
  · rw [fz_set]; exact h2.fz j
  · rw [hs_set]; exact h2.lt.2.2
  · by_cases e : j = k
    · subst e; rw [upd_at]; exact hl
    · rw [upd_ne e]; exact h.len j hj

theorem encL_app (xs ys : List Nat) : encL (xs ++ ys) = encL xs ++ encL ys := by simp [encL]
theorem encL_len (xs : List Nat) : (encL xs).length = xs.length := by simp [encL]
theorem encL_one (xs : List Nat) : ∀ u ∈ encL xs, u.oneCell' = true := by
  intro u hu
  simp only [encL, List.mem_map] at hu
  obtain ⟨j, _, rfl⟩ := hu
  rfl
/-- append of a row to a row of one's own, as a step of a region that draws its order -/
theorem step_append_row {ops : Array Oper} {o : Oper} {a : Act} {w : World} {K : Act → World → Prop} {Q : Exit → Act → World → Prop} {E : Prop} (hgd : o.guard = none) (s x : Operand)
    (hop : o.op = .call { callee := .builtin .append, args := #[s, x], argTypes := #[36, 36] }) (base b2 : Nat) (v u : Value) (xs ys : List Nat)
    (hs : a.eval s = v) (hx : a.eval x = u) (hown : w.ownsRow base 3 1 v xs.length (encL xs)) (hu : w.ownsRow b2 3 1 u ys.length (encL ys)) (hl : xs.length + ys.length ≤ 200000) (hbase : base ≤ w.heap.size)
    (hK : ∀ v' w', w'.ownsRow base 3 1 v' (xs ++ ys).length (encL (xs ++ ys)) → w.grownBy w' v.ownBlock → K (a.put o.dst v') w') :
    if Region.wanted o (yielded ops a.tmps) = true then Oper.wp Try.prog o a w K Q else E := by
  obtain ⟨i0, hi, hz0, hz1, hz2⟩ := info_parts Try.info3
  rw [if_pos (by simp [Region.wanted, hgd])]
  rcases hu.2 with ⟨rfl, hn⟩ | ⟨g, cap, cur, rfl, hrest⟩
  · have hys : ys = [] := List.length_eq_zero_iff.1 hn
    subst hys
    have hrun := run_append_owned_none (P := Try.prog) (w := w) base 36 o.type 3 i0 1 Try.underlying36 hi v xs.length (encL xs) hown
    unfold Oper.wp
    simp [execOp, hop, resolve, invoke, builtin, hs, hx, hrun, Result.andThen]
    exact hK v w (by simpa using hown) (World.grownBy.refl w _)
  · refine wp_append_own w s x 36 hop base 3 i0 (.int .i64 0) 1 8 Try.underlying36 hi hz0 hz1 hz2 rfl (by decide) v xs.length (encL xs) hs hown ⟨g, 0, none⟩ ys.length cap (encL ys) hx (by rw [encL_len]; omega) ?_ (encL_one ys) (by unfold maxLen; omega) (by omega) hbase ?_
    · intro j y hj
      have hjl := (List.getElem?_eq_some_iff.1 hj).1
      rw [encL_len] at hjl
      have e : (⟨g, 0, none⟩ : Addr).add j = ⟨g, j, none⟩ := by rw [Go.WideShapes.add_plain]; simp
      rw [e, hu.cellAt j (by omega)]
      exact hj
    · intro v' w' h1 h2 _
      exact hK v' w' (by rw [encL_app, List.length_append]; exact h1) h2

theorem step_build0 {ops : Array Oper} {o : Oper} {a : Act} {w : World} {K : Act → World → Prop} {Q : Exit → Act → World → Prop} {E : Prop} (hgd : o.guard = none) (hop : o.op = .buildSlice 36 0 #[])
    (h : K (a.put o.dst (.slice (some ⟨w.heap.size, 0, none⟩) 0 0)) (w.alloc (.cells #[] 3))) : if Region.wanted o (yielded ops a.tmps) = true then Oper.wp Try.prog o a w K Q else E := by
  rw [if_pos (by simp [Region.wanted, hgd])]
  have hrun : (execOp a.eval o).run Try.prog w = .ok (.value (.slice (some ⟨w.heap.size, 0, none⟩) 0 0)) (w.alloc (.cells #[] 3)) := by
    obtain ⟨d, op, ty, pos, aft, g⟩ := o
    simp only at hop
    subst hop
    go_simp
  unfold Oper.wp
  rw [hrun]
  exact h
theorem step_build1 {ops : Array Oper} {o : Oper} {a : Act} {w : World} {K : Act → World → Prop} {Q : Exit → Act → World → Prop} {E : Prop} (hgd : o.guard = none) (t : Nat) (y : Int) (hop : o.op = .buildSlice 36 1 #[(0, .tmp t)]) (hx : a.tmps[t]? = some (.int .i64 y))
    (h : K (a.put o.dst (.slice (some ⟨w.heap.size, 0, none⟩) 1 1)) (w.alloc (.cells #[.int .i64 y] 3))) : if Region.wanted o (yielded ops a.tmps) = true then Oper.wp Try.prog o a w K Q else E := by
  rw [if_pos (by simp [Region.wanted, hgd])]
  have hrun : (execOp a.eval o).run Try.prog w = .ok (.value (.slice (some ⟨w.heap.size, 0, none⟩) 1 1)) (w.alloc (.cells #[.int .i64 y] 3)) := by
    obtain ⟨d, op, ty, pos, aft, g⟩ := o
    simp only at hop
    subst hop
    go_simp
  unfold Oper.wp
  rw [hrun]
  exact h
theorem own_build0 (w : World) (base : Nat) (hb : base ≤ w.heap.size) : (w.alloc (.cells #[] 3)).ownsRow base 3 1 (.slice (some ⟨w.heap.size, 0, none⟩) 0 0) 0 [] :=
  ⟨by simp, .inr ⟨w.heap.size, 0, _, rfl, hb, World.alloc_heap_new w _, Nat.le_refl _, by decide, rfl, rfl⟩⟩
theorem own_build1 (w : World) (base x : Nat) (hb : base ≤ w.heap.size) : (w.alloc (.cells #[.int .i64 (x : Int)] 3)).ownsRow base 3 1 (.slice (some ⟨w.heap.size, 0, none⟩) 1 1) 1 (encL [x]) :=
  ⟨by simp [encL], .inr ⟨w.heap.size, 1, _, rfl, hb, World.alloc_heap_new w _, Nat.le_refl _, by decide, rfl, rfl⟩⟩

theorem put_at {a : Act} {d : Nat} {v : Value} (h : d < a.tmps.size) : (a.put (some d) v).tmps[d]? = some v := by
  show (a.tmps.setIfInBounds d v)[d]? = _
  rw [Array.getElem?_setIfInBounds, if_pos rfl, if_pos h]
theorem put_ne {a : Act} {d e : Nat} {v : Value} (h : d ≠ e) : (a.put (some d) v).tmps[e]? = a.tmps[e]? := by
  show (a.tmps.setIfInBounds d v)[e]? = _
  rw [Array.getElem?_setIfInBounds, if_neg h]
theorem put_sz {a : Act} {d : Nat} {v : Value} : (a.put (some d) v).tmps.size = a.tmps.size := by
  show (a.tmps.setIfInBounds d v).size = _
  simp
theorem eval_tmp {a : Act} {d : Nat} {v : Value} (h : a.tmps[d]? = some v) : a.eval (.tmp d) = v := by
  show a.tmps.getD d undef = v
  simp only [Array.getD_eq_getD_getElem?, h]; rfl

/-- the four that make a row of a row and one more, in whatever order: []int{}, append, []int{x}, append -/
theorem tail_snoc {ops : Array Oper} {Q : Exit → Act → World → Prop} {w0 w : World} {iA iB iC iD dA dB dC dD dv dx : Nat} {oA oB oC oD : Oper} {listed : Array Bool} {a : Act} {fuel B x : Nat} {r : List Nat} {v : Value}
    (eA : ops[iA]? = some oA) (eB : ops[iB]? = some oB) (eC : ops[iC]? = some oC) (eD : ops[iD]? = some oD)
    (gA : oA.guard = none) (gB : oB.guard = none) (gC : oC.guard = none) (gD : oD.guard = none)
    (pA : oA.op = .buildSlice 36 0 #[]) (pB : oB.op = .call { callee := .builtin .append, args := #[.tmp dA, .tmp dv], argTypes := #[36, 36] })
    (pC : oC.op = .buildSlice 36 1 #[(0, .tmp dx)]) (pD : oD.op = .call { callee := .builtin .append, args := #[.tmp dB, .tmp dC], argTypes := #[36, 36] })
    (tA : oA.dst = some dA) (tB : oB.dst = some dB) (tC : oC.dst = some dC) (tD : oD.dst = some dD)
    (r0 : Region.ready .any ops listed = [iA, iC]) (rA : Region.ready .any ops (listed.setIfInBounds iA true) = [iB, iC]) (rC : Region.ready .any ops (listed.setIfInBounds iC true) = [iA])
    (rAB : Region.ready .any ops ((listed.setIfInBounds iA true).setIfInBounds iB true) = [iC]) (rAC : Region.ready .any ops ((listed.setIfInBounds iA true).setIfInBounds iC true) = [iB]) (rCA : Region.ready .any ops ((listed.setIfInBounds iC true).setIfInBounds iA true) = [iB])
    (rABC : Region.ready .any ops (((listed.setIfInBounds iA true).setIfInBounds iB true).setIfInBounds iC true) = [iD])
    (ne : iA ≠ iB ∧ iA ≠ iC ∧ iB ≠ iC) (nd : dA ≠ dB ∧ dA ≠ dC ∧ dB ≠ dC ∧ dA ≠ dv ∧ dC ≠ dv ∧ dA ≠ dx ∧ dB ≠ dx) (sz : dA < a.tmps.size ∧ dB < a.tmps.size ∧ dC < a.tmps.size)
    (hv : a.tmps[dv]? = some v) (hx : a.tmps[dx]? = some (.int .i64 (x : Int))) (hown : w0.ownsRow B 3 1 v r.length (encL r)) (hl : r.length ≤ 70000)
    (hS : Below w0.heap.size w0 w)
    (fin : ∀ (vA vB vC vD : Value) (W : World), Below w0.heap.size w0 W → W.ownsRow w0.heap.size 3 1 vD (r ++ [x]).length (encL (r ++ [x])) →
      wpAnyH Try.prog .any ops Q (fun W => Below w0.heap.size w0 W) fuel ((((listed.setIfInBounds iA true).setIfInBounds iB true).setIfInBounds iC true).setIfInBounds iD true) ((((a.put (some dA) vA).put (some dB) vB).put (some dC) vC).put (some dD) vD) W) :
    wpAnyH Try.prog .any ops Q (fun W => Below w0.heap.size w0 W) (fuel + 4) listed a w := by
  obtain ⟨n1, n2, n3⟩ := ne
  obtain ⟨m1, m2, m3, m4, m5, m6, m7⟩ := nd
  obtain ⟨s1, s2, s3⟩ := sz
  have low : ∀ {W : World}, Below w0.heap.size w0 W → W.ownsRow B 3 1 v r.length (encL r) := fun hW => own_but (S := fun _ => False) hown (But.of hW) (fun _ h => h.elim)
  have grow : ∀ {W W' : World} {u : Value} {k : Nat} {ys : List Value}, Below w0.heap.size w0 W → W.ownsRow w0.heap.size 3 1 u k ys → W.grownBy W' u.ownBlock → Below w0.heap.size w0 W' := fun hW hu hg => hW.grown hg hW.size (own_ge hu)
  /- the last append -/
  have stepD : ∀ (b1 : Act) (W : World) (vA vB vC : Value), b1 = ((a.put (some dA) vA).put (some dB) vB).put (some dC) vC → Below w0.heap.size w0 W → W.ownsRow w0.heap.size 3 1 vB r.length (encL r) → W.ownsRow w0.heap.size 3 1 vC 1 (encL [x]) →
      wpAnyH Try.prog .any ops Q (fun W => Below w0.heap.size w0 W) (fuel + 1) (((listed.setIfInBounds iA true).setIfInBounds iB true).setIfInBounds iC true) b1 W := by
    intro b1 W vA vB vC hb hW hB hC
    refine wpAnyH_ready rABC (by simp) (AllReadyH.cons eD (fun K hK => ?_) AllReadyH.nil)
    have z1 : b1.tmps[dB]? = some vB := by rw [hb, put_ne (Ne.symm m3), put_at (by rw [put_sz]; exact s2)]
    have z2 : b1.tmps[dC]? = some vC := by rw [hb, put_at (by rw [put_sz, put_sz]; exact s3)]
    refine step_append_row gD (.tmp dB) (.tmp dC) pD w0.heap.size w0.heap.size vB vC r [x] (eval_tmp z1) (eval_tmp z2) hB hC (by simp; omega) hW.size fun vD W' h1 h2 => ?_
    have hW' := grow hW hB h2
    refine hK.out _ _ hW' fun _ => ?_
    rw [tD, hb]
    exact fin vA vB vC vD W' hW' h1
  refine wpAnyH_ready r0 (by simp) (AllReadyH.cons eA (fun K hK => ?_) (AllReadyH.cons eC (fun K hK => ?_) AllReadyH.nil))
  · refine step_build0 gA pA ?_
    have hWA : Below w0.heap.size w0 (w.alloc (.cells #[] 3)) := hS.alloc hS.size _
    have hA := own_build0 w w0.heap.size hS.size
    refine hK.out _ _ hWA fun _ => ?_
    rw [tA]
    have zA : (a.put (some dA) (.slice (some ⟨w.heap.size, 0, none⟩) 0 0)).tmps[dA]? = some (.slice (some ⟨w.heap.size, 0, none⟩) 0 0) := put_at s1
    have zv : (a.put (some dA) (.slice (some ⟨w.heap.size, 0, none⟩) 0 0)).tmps[dv]? = some v := (put_ne m4).trans hv
    have zx : (a.put (some dA) (.slice (some ⟨w.heap.size, 0, none⟩) 0 0)).tmps[dx]? = some (.int .i64 (x : Int)) := (put_ne m6).trans hx
    have szA : w.heap.size < (w.alloc (.cells #[] 3)).heap.size := by simp
    have hgA : (Value.slice (some ⟨w.heap.size, 0, none⟩) 0 0).ownBlock = some w.heap.size := rfl
    generalize (w.alloc (.cells #[] 3)) = W1 at *
    generalize hvA : Value.slice (some ⟨w.heap.size, 0, none⟩) 0 0 = vA at *
    refine wpAnyH_ready rA (by simp) (AllReadyH.cons eB (fun K hK => ?_) (AllReadyH.cons eC (fun K hK => ?_) AllReadyH.nil))
    · refine step_append_row gB (.tmp dA) (.tmp dv) pB w0.heap.size B vA v [] r (eval_tmp zA) (eval_tmp zv) hA (low hWA) (by simp; omega) hWA.size fun vB W2 h1 h2 => ?_
      have hW2 := grow hWA hA h2
      rw [List.nil_append] at h1
      refine hK.out _ _ hW2 fun _ => ?_
      rw [tB]
      refine wpAnyH_ready rAB (by simp) (AllReadyH.cons eC (fun K hK => ?_) AllReadyH.nil)
      refine step_build1 gC dx (x : Int) pC ((put_ne m7).trans zx) ?_
      have hW3 : Below w0.heap.size w0 (W2.alloc (.cells #[.int .i64 (x : Int)] 3)) := hW2.alloc hW2.size _
      refine hK.out _ _ hW3 fun _ => ?_
      rw [tC]
      exact stepD _ _ vA vB _ rfl hW3 (h1.alloc _) (own_build1 W2 w0.heap.size x hW2.size)
    · refine step_build1 gC dx (x : Int) pC zx ?_
      have hW2 : Below w0.heap.size w0 (W1.alloc (.cells #[.int .i64 (x : Int)] 3)) := hWA.alloc hWA.size _
      refine hK.out _ _ hW2 fun _ => ?_
      rw [tC]
      have hC := own_build1 W1 w0.heap.size x hWA.size
      have hA2 : (W1.alloc (.cells #[.int .i64 (x : Int)] 3)).ownsRow w0.heap.size 3 1 vA 0 [] := hA.alloc _
      refine wpAnyH_ready rAC (by simp) (AllReadyH.cons eB (fun K hK => ?_) AllReadyH.nil)
      refine step_append_row gB (.tmp dA) (.tmp dv) pB w0.heap.size B vA v [] r (eval_tmp ((put_ne (Ne.symm m2)).trans zA)) (eval_tmp ((put_ne m5).trans zv)) hA2 (low hW2) (by simp; omega) hW2.size fun vB W3 h1 h2 => ?_
      have hW3 := grow hW2 hA2 h2
      rw [List.nil_append] at h1
      refine hK.out _ _ hW3 fun _ => ?_
      rw [tB, Array.setIfInBounds_comm _ _ n3.symm]
      refine stepD _ _ vA vB _ ?_ hW3 h1 (hC.kept h2 (.inr ?_))
      · exact Act.put_comm _ _ _ (by intro d h1 h2; cases h1; cases h2; exact m3 rfl)
      · rw [hgA]; intro e; have := Option.some.inj e; simp only at this; omega
  · refine step_build1 gC dx (x : Int) pC hx ?_
    have hW1 : Below w0.heap.size w0 (w.alloc (.cells #[.int .i64 (x : Int)] 3)) := hS.alloc hS.size _
    refine hK.out _ _ hW1 fun _ => ?_
    rw [tC]
    have hC := own_build1 w w0.heap.size x hS.size
    have zv : (a.put (some dC) (.slice (some ⟨w.heap.size, 0, none⟩) 1 1)).tmps[dv]? = some v := (put_ne m5).trans hv
    have szC : w.heap.size < (w.alloc (.cells #[.int .i64 (x : Int)] 3)).heap.size := by simp
    have hgC : (Value.slice (some ⟨w.heap.size, 0, none⟩) 1 1).ownBlock = some w.heap.size := rfl
    have szc2 : (a.put (some dC) (.slice (some ⟨w.heap.size, 0, none⟩) 1 1)).tmps.size = a.tmps.size := put_sz
    generalize (w.alloc (.cells #[.int .i64 (x : Int)] 3)) = W1 at *
    generalize Value.slice (some ⟨w.heap.size, 0, none⟩) 1 1 = vC at *
    refine wpAnyH_ready rC (by simp) (AllReadyH.cons eA (fun K hK => ?_) AllReadyH.nil)
    refine step_build0 gA pA ?_
    have hW2 : Below w0.heap.size w0 (W1.alloc (.cells #[] 3)) := hW1.alloc hW1.size _
    refine hK.out _ _ hW2 fun _ => ?_
    rw [tA]
    have hA := own_build0 W1 w0.heap.size hW1.size
    have hC2 := hC.alloc (.cells #[] 3)
    have zA : ((a.put (some dC) vC).put (some dA) (.slice (some ⟨W1.heap.size, 0, none⟩) 0 0)).tmps[dA]? = some (.slice (some ⟨W1.heap.size, 0, none⟩) 0 0) := put_at (by rw [szc2]; exact s1)
    have zv2 : ((a.put (some dC) vC).put (some dA) (.slice (some ⟨W1.heap.size, 0, none⟩) 0 0)).tmps[dv]? = some v := (put_ne m4).trans zv
    refine wpAnyH_ready rCA (by simp) (AllReadyH.cons eB (fun K hK => ?_) AllReadyH.nil)
    refine step_append_row gB (.tmp dA) (.tmp dv) pB w0.heap.size B _ v [] r (eval_tmp zA) (eval_tmp zv2) hA (low hW2) (by simp; omega) hW2.size fun vB W3 h1 h2 => ?_
    have hW3 := grow hW2 hA h2
    rw [List.nil_append] at h1
    refine hK.out _ _ hW3 fun _ => ?_
    rw [tB, Array.setIfInBounds_comm _ _ n2.symm, Array.setIfInBounds_comm _ _ n3.symm]
    refine stepD _ _ (.slice (some ⟨W1.heap.size, 0, none⟩) 0 0) vB vC ?_ hW3 h1 (hC2.kept h2 (.inr ?_))
    · rw [Act.put_comm a vC _ (by intro d h1 h2; cases h1; cases h2; exact m2 rfl)]
      exact Act.put_comm _ _ _ (by intro d h1 h2; cases h1; cases h2; exact m3 rfl)
    · rw [hgC]; intro e; have := Option.some.inj e; simp only at this; omega

theorem own_form {w : World} {base e size n : Nat} {v : Value} {xs : List Value} (h : w.ownsRow base e size v n xs) : ∃ ad l c, v = .slice ad l c := by
  rcases h.2 with ⟨rfl, _⟩ | ⟨g, cap, cur, rfl, _⟩
  · exact ⟨_, _, _, rfl⟩
  · exact ⟨_, _, _, rfl⟩
/-- where the row is laid down: its address, then the store -/
theorem fin_store {ops : Array Oper} {Q : Exit → Act → World → Prop} {S : World → Prop} {oM oL : Oper} {iM dl dk dM dD b m k fuel : Nat} {listed : Array Bool} {a : Act} {W : World} {ad : Option Addr} {l c : Nat} {u : Value}
    (eM : ops[iM]? = some oM) (rM : Region.ready .any ops listed = [iM]) (rE : Region.ready .any ops (listed.setIfInBounds iM true) = []) (gM : oM.guard = none)
    (pM : oM.op = .indexAddr 63 (.tmp dl) (.tmp dk)) (tM : oM.dst = some dM) (pL : oL.op = .store 36 (.tmp dM) (.tmp dD)) (tL : oL.dst = none)
    (hl : a.tmps[dl]? = some (.slice (some ⟨b, 0, none⟩) m m)) (hk : a.tmps[dk]? = some (.int .i64 (k : Int))) (hkm : k < m) (hD : a.tmps[dD]? = some (.slice ad l c)) (hcell : W.cell? ⟨b, k, none⟩ = some u) (hfz : W.frozen? ⟨b, k, none⟩ = false)
    (hne : dM ≠ dD) (sz : dM < a.tmps.size) (hS : S W) (h : Q .normal (a.put (some dM) (.pointer (some ⟨b, k, none⟩))) (W.setCell ⟨b, k, none⟩ (.slice ad l c))) :
    wpAnyH Try.prog .any ops (lastQ Try.prog oL Q) S (fuel + 1) listed a W := by
  refine wpAnyH_ready rM (by simp) (AllReadyH.cons eM (fun K hK => ?_) AllReadyH.nil)
  rw [if_pos (by simp [Region.wanted, gM])]
  have hrun : (execOp a.eval oM).run Try.prog W = .ok (.value (.pointer (some ⟨b, k, none⟩))) W := by
    obtain ⟨d, op, ty, pos, aft, g⟩ := oM
    simp only at pM
    subst pM
    have i3 : (0 : Int) ≤ (k : Int) := by omega
    have i4 : (k : Int) < (m : Int) := by omega
    clear hK hD hcell hfz h
    go_simp
  unfold Oper.wp
  rw [hrun]
  refine hK.out _ _ hS fun _ => wpAnyH_done rE ?_ _
  rw [tM]
  show oL.wp Try.prog _ W (fun a' w' => Q .normal a' w') Q
  have z1 : (a.put (some dM) (.pointer (some ⟨b, k, none⟩))).tmps[dM]? = some (.pointer (some ⟨b, k, none⟩)) := put_at sz
  have z2 : (a.put (some dM) (.pointer (some ⟨b, k, none⟩))).tmps[dD]? = some (.slice ad l c) := (put_ne hne).trans hD
  generalize a.put (some dM) (.pointer (some ⟨b, k, none⟩)) = a2 at *
  have hrun2 : (execOp a2.eval oL).run Try.prog W = .ok .skip (W.setCell ⟨b, k, none⟩ (.slice ad l c)) := by
    obtain ⟨d, op, ty, pos, aft, g⟩ := oL
    simp only at pL
    subst pL
    clear hK hD hl hk hrun h
    go_simp
  unfold Oper.wp
  rw [hrun2]
  show Q .normal (a2.put oL.dst undef) _
  rw [tL]
  exact h

end Go.Proofs.Ytiaacjollcccaaa
