/- A row without one of its names: 'alive = append(append([]api.Slot{}, alive[:k]...), alive[k+1:]...)', in whatever order its operations come. -/
import Derived.Test.YtobpignlamekmaaKTakes
import Derived.Test.YtobpignlamekmaaAHeld
import Derived.Maps.AppendAt
namespace Go.Proofs.Ytobpignlamekmaa
open Go.RowKit Go.Shelf
set_option maxRecDepth 100000

theorem pstep_build0 {ops : Array Oper} {o : Oper} {a : Act} {w : World} {K : Act → World → Prop} {Q : Exit → Act → World → Prop} {E : Prop} (hgd : o.guard = none) (hop : o.op = .buildSlice 45 0 #[])
    (h : K (a.put o.dst (.slice (some ⟨w.heap.size, 0, none⟩) 0 0)) (w.alloc (.cells #[] 36))) : if Region.wanted o (yielded ops a.tmps) = true then Oper.wp Try.prog o a w K Q else E := by
  rw [if_pos (by simp [Region.wanted, hgd])]
  have hrun : (execOp a.eval o).run Try.prog w = .ok (.value (.slice (some ⟨w.heap.size, 0, none⟩) 0 0)) (w.alloc (.cells #[] 36)) := by
    obtain ⟨d, op, ty, pos, aft, g⟩ := o
    simp only at hop
    subst hop
    go_simp
  unfold Oper.wp
  rw [hrun]
  exact h
theorem pstep_append {ops : Array Oper} {o : Oper} {a : Act} {w : World} {K : Act → World → Prop} {Q : Exit → Act → World → Prop} {E : Prop} (hgd : o.guard = none) (s x : Operand)
    (hop : o.op = .call { callee := .builtin .append, args := #[s, x], argTypes := #[45, 45] }) (base : Nat) (v : Value) (xs ys : List (Nat × Int)) (g off c : Nat)
    (hs : a.eval s = v) (hx : a.eval x = .slice (some ⟨g, off, none⟩) ys.length c) (hown : w.ownsRow base 36 2 v xs.length (encP xs))
    (hy : ∀ j u, (encP ys)[j]? = some u → w.cell? ⟨g, off + j, none⟩ = some u) (hl : xs.length + ys.length ≤ 200000) (hbase : base ≤ w.heap.size)
    (hK : ∀ v' w', w'.ownsRow base 36 2 v' (xs ++ ys).length (encP (xs ++ ys)) → w.grownBy w' v.ownBlock → K (a.put o.dst v') w') :
    if Region.wanted o (yielded ops a.tmps) = true then Oper.wp Try.prog o a w K Q else E := by
  obtain ⟨i0, hi, hz0, hz1, hz2⟩ := info_parts Try.infoApiSlot
  rw [if_pos (by simp [Region.wanted, hgd])]
  refine wp_append_own w s x 45 hop base 36 i0 (.agg #[.int .i64 0, .int .u64 0]) 2 16 Try.underlying45 hi hz0 hz1 hz2 rfl (by decide) v xs.length (encP xs) hs hown ⟨g, off, none⟩ ys.length c (encP ys) hx (by rw [encP_len]) ?_ ?_ (by unfold maxLen; omega) (by omega) hbase ?_
  · intro j u hj
    rw [Go.WideShapes.add_plain]
    exact hy j u hj
  · intro u hu
    have : ∀ l : List (Nat × Int), ∀ u ∈ encP l, u.oneCell' = true := by
      intro l
      induction l with
      | nil => intro u hu; simp [encP] at hu
      | cons x l ih =>
        intro u hu
        simp only [encP, List.mem_cons] at hu
        rcases hu with rfl | rfl | hu
        · rfl
        · rfl
        · exact ih u hu
    exact this ys u hu
  · intro v' w' h1 h2 _
    exact hK v' w' (by rw [encP_app, List.length_append]; exact h1) h2
theorem encP_take (l : List (Nat × Int)) (k : Nat) : encP (l.take k) = (encP l).take (k * 2) := by
  induction l generalizing k with
  | nil => simp [encP]
  | cons x l ih =>
    cases k with
    | zero => simp [encP]
    | succ k => rw [List.take_succ_cons, show (k + 1) * 2 = k * 2 + 1 + 1 by omega]; simp [encP, ih]
theorem encP_drop (l : List (Nat × Int)) (k : Nat) : encP (l.drop k) = (encP l).drop (k * 2) := by
  induction l generalizing k with
  | nil => simp [encP]
  | cons x l ih =>
    cases k with
    | zero => simp
    | succ k => rw [List.drop_succ_cons, show (k + 1) * 2 = k * 2 + 1 + 1 by omega]; simp [encP, ih]

theorem tput_at {a : Act} {d : Nat} {v : Value} (h : d < a.tmps.size) : (a.put (some d) v).tmps[d]? = some v := by
  show (a.tmps.setIfInBounds d v)[d]? = _
  rw [Array.getElem?_setIfInBounds, if_pos rfl, if_pos h]
theorem tput_ne {a : Act} {d e : Nat} {v : Value} (h : d ≠ e) : (a.put (some d) v).tmps[e]? = a.tmps[e]? := by
  show (a.tmps.setIfInBounds d v)[e]? = _
  rw [Array.getElem?_setIfInBounds, if_neg h]
theorem tput_sz {a : Act} {d : Nat} {v : Value} : (a.put (some d) v).tmps.size = a.tmps.size := by
  show (a.tmps.setIfInBounds d v).size = _
  simp
theorem teval {a : Act} {d : Nat} {v : Value} (h : a.tmps[d]? = some v) : a.eval (.tmp d) = v := by
  show a.tmps.getD d undef = v
  simp only [Array.getD_eq_getD_getElem?, h]; rfl
theorem tgetD {a : Act} {d : Nat} {v : Value} (h : a.tmps[d]? = some v) : a.tmps.getD d undef = v := by
  simp only [Array.getD_eq_getD_getElem?, h]; rfl

/-- the frame when all that only reads has been read -/
def cutAf (a : Act) (A : Value) (k : Nat) (S1 S2 : Value) : Act :=
  (((((((a.put (some 110) A).put (some 111) (.int .i64 (k : Int))).put (some 112) S1).put (some 114) A).put (some 115) (.int .i64 (k : Int))).put (some 116) (.int .i64 ((k : Int) + 1))).put (some 117) S2)

set_option maxHeartbeats 4000000 in
theorem cut_rows {id : Nat} {Q : Exit → Act → World → Prop} {a : Act} {w : World} {l1 : List Oper} {o0 o1 o2 o3 o4 o5 o6 o7 o8 o9 o10 : Oper} {g n cap k : Nat} {L : List (Nat × Int)} (hne : l1 ≠ []) (hl1 : l1.dropLast = [o0, o1, o2, o3, o4, o5, o6, o7, o8, o9]) (hlast : l1.getLast hne = o10)
    (hok : lastOk l1.dropLast (l1.getLast hne) = true) (hns : Region.noSelect [o0, o1, o2, o3, o4, o5, o6, o7, o8, o9].toArray = true)
    (htk : takesOk [o0, o1, o2, o3, o4, o5, o6, o7, o8, o9].toArray [1, 2, 3, 5, 6, 7, 8] (Array.replicate 10 false) = true)
    (p0 : o0.op = .buildSlice 45 0 #[]) (p1 : o1.op = .move (.tmp 7)) (p2 : o2.op = .move (.tmp 14)) (p3 : o3.op = .slice 45 (.tmp 110) none (some (.tmp 111)) none)
    (p4 : o4.op = .call { callee := .builtin .append, args := #[.tmp 109, .tmp 112], argTypes := #[45, 45] }) (p5 : o5.op = .move (.tmp 7)) (p6 : o6.op = .move (.tmp 14)) (p7 : o7.op = .binOp BinOp.add 3 (.tmp 115) (.const (.int .i64 1)) 3)
    (p8 : o8.op = .slice 45 (.tmp 114) (some (.tmp 116)) none none) (p9 : o9.op = .call { callee := .builtin .append, args := #[.tmp 113, .tmp 117], argTypes := #[45, 45] }) (p10 : o10.op = .assign (.tmp 118))
    (g0 : o0.guard = none) (g4 : o4.guard = none) (g9 : o9.guard = none)
    (t0 : o0.dst = some 109) (t1 : o1.dst = some 110) (t2 : o2.dst = some 111) (t3 : o3.dst = some 112) (t4 : o4.dst = some 113) (t5 : o5.dst = some 114) (t6 : o6.dst = some 115) (t7 : o7.dst = some 116) (t8 : o8.dst = some 117) (t9 : o9.dst = some 118) (t10 : o10.dst = some 7)
    (r0 : Region.ready .any [o0, o1, o2, o3, o4, o5, o6, o7, o8, o9].toArray #[false, true, true, true, false, true, true, true, true, false] = [0]) (r4 : Region.ready .any [o0, o1, o2, o3, o4, o5, o6, o7, o8, o9].toArray #[true, true, true, true, false, true, true, true, true, false] = [4])
    (r9 : Region.ready .any [o0, o1, o2, o3, o4, o5, o6, o7, o8, o9].toArray #[true, true, true, true, true, true, true, true, true, false] = [9]) (rE : Region.ready .any [o0, o1, o2, o3, o4, o5, o6, o7, o8, o9].toArray #[true, true, true, true, true, true, true, true, true, true] = [])
    (hsz : a.tmps.size = 136) (hA : a.tmps[7]? = some (.slice (some ⟨g, 0, none⟩) n cap)) (hkk : a.tmps[14]? = some (.int .i64 (k : Int))) (hn : L.length = n) (hkn : k < n) (hnc : n ≤ cap) (hbd : n ≤ 1000)
    (hc : ∀ j u, (encP L)[j]? = some u → w.cell? ⟨g, j, none⟩ = some u)
    (hQ : ∀ c a d v w, Q (.panic c) (Act.put a d v) w → Q (.panic c) a w)
    (fin : ∀ (off2 : Nat) vB vC v' W', W'.ownsRow w.heap.size 36 2 v' (L.take k ++ L.drop (k + 1)).length (encP (L.take k ++ L.drop (k + 1))) → Below w.heap.size w W' →
      Q .normal (((((cutAf a (.slice (some ⟨g, 0, none⟩) n cap) k (.slice (some ⟨g, 0, none⟩) k cap) (.slice (some ⟨g, off2, none⟩) (n - (k + 1)) (cap - (k + 1)))).put (some 109) vB).put (some 113) vC).put (some 118) v').put (some 7) v') W') :
    (Code.region id l1.toArray true).wp Try.prog Q a w := by
  obtain ⟨A, hAe⟩ : ∃ A, A = Value.slice (some ⟨g, 0, none⟩) n cap := ⟨_, rfl⟩
  obtain ⟨S1, hS1⟩ : ∃ S1, S1 = Value.slice (some ⟨g, 0, none⟩) k cap := ⟨_, rfl⟩
  obtain ⟨off2, ho1, ho2⟩ : ∃ off2 : Nat, (cap = k + 1 → off2 = 0) ∧ (¬ cap = k + 1 → off2 = (k + 1) * 2) := by
    by_cases e : cap = k + 1
    · exact ⟨0, fun _ => rfl, fun h => absurd e h⟩
    · exact ⟨(k + 1) * 2, fun h => absurd h e, fun _ => rfl⟩
  replace fin := fin off2
  obtain ⟨S2, hS2⟩ : ∃ S2, S2 = Value.slice (some ⟨g, off2, none⟩) (n - (k + 1)) (cap - (k + 1)) := ⟨_, rfl⟩
  rw [← hAe] at hA
  rw [← hAe, ← hS1, ← hS2] at fin
  obtain ⟨af, haf⟩ : ∃ af, af = cutAf a A k S1 S2 := ⟨_, rfl⟩
  rw [← haf] at fin
  have fsz : af.tmps.size = 136 := by rw [haf]; unfold cutAf; simp only [tput_sz]; exact hsz
  have f7 : af.tmps[7]? = some A := by rw [haf]; unfold cutAf; rw [tput_ne (by decide), tput_ne (by decide), tput_ne (by decide), tput_ne (by decide), tput_ne (by decide), tput_ne (by decide), tput_ne (by decide)]; exact hA
  have f14 : af.tmps[14]? = some (.int .i64 (k : Int)) := by rw [haf]; unfold cutAf; rw [tput_ne (by decide), tput_ne (by decide), tput_ne (by decide), tput_ne (by decide), tput_ne (by decide), tput_ne (by decide), tput_ne (by decide)]; exact hkk
  have f110 : af.tmps[110]? = some A := by rw [haf]; unfold cutAf; rw [tput_ne (by decide), tput_ne (by decide), tput_ne (by decide), tput_ne (by decide), tput_ne (by decide), tput_ne (by decide), tput_at (by rw [hsz]; decide)]
  have f111 : af.tmps[111]? = some (.int .i64 (k : Int)) := by rw [haf]; unfold cutAf; rw [tput_ne (by decide), tput_ne (by decide), tput_ne (by decide), tput_ne (by decide), tput_ne (by decide), tput_at (by simp only [tput_sz]; rw [hsz]; decide)]
  have f112 : af.tmps[112]? = some S1 := by rw [haf]; unfold cutAf; rw [tput_ne (by decide), tput_ne (by decide), tput_ne (by decide), tput_ne (by decide), tput_at (by simp only [tput_sz]; rw [hsz]; decide)]
  have f114 : af.tmps[114]? = some A := by rw [haf]; unfold cutAf; rw [tput_ne (by decide), tput_ne (by decide), tput_ne (by decide), tput_at (by simp only [tput_sz]; rw [hsz]; decide)]
  have f115 : af.tmps[115]? = some (.int .i64 (k : Int)) := by rw [haf]; unfold cutAf; rw [tput_ne (by decide), tput_ne (by decide), tput_at (by simp only [tput_sz]; rw [hsz]; decide)]
  have f116 : af.tmps[116]? = some (.int .i64 ((k : Int) + 1)) := by rw [haf]; unfold cutAf; rw [tput_ne (by decide), tput_at (by simp only [tput_sz]; rw [hsz]; decide)]
  have f117 : af.tmps[117]? = some S2 := by rw [haf]; unfold cutAf; rw [tput_at (by simp only [tput_sz]; rw [hsz]; decide)]
  have HS : Below w.heap.size w w.drew := (Below.refl _ _).drew
  refine wp_region_last2 hne (fun W => Below w.heap.size w W) (by kernel_rfl) hok ?_
  rw [hl1, hlast]
  have hput : putIdx af [o0, o1, o2, o3, o4, o5, o6, o7, o8, o9].toArray [1, 2, 3, 5, 6, 7, 8] a = af := by
    have e : putIdx af [o0, o1, o2, o3, o4, o5, o6, o7, o8, o9].toArray [1, 2, 3, 5, 6, 7, 8] a = cutAf a A k S1 S2 := by
      simp only [putIdx, List.getElem?_toArray, List.getElem?_cons_succ, List.getElem?_cons_zero, Option.bind_some, t1, t2, t3, t5, t6, t7, t8, tgetD f110, tgetD f111, tgetD f112, tgetD f114, tgetD f115, tgetD f116, tgetD f117]
      rfl
    rw [e, haf]
  refine takes (P := Try.prog) (Q := lastQ Try.prog o10 Q) (S := fun W => Below w.heap.size w W) (idx := [1, 2, 3, 5, 6, 7, 8]) (af := af) (fuel := 3) hns (fun c a d v w h => hQ c a d v w h) HS _ _ htk hput ?_ ?_
  · refine ⟨⟨o1, 110, A, rfl, t1, f110, ?_⟩, ⟨o2, 111, _, rfl, t2, f111, ?_⟩, ⟨o3, 112, S1, rfl, t3, f112, ?_⟩, ⟨o5, 114, A, rfl, t5, f114, ?_⟩, ⟨o6, 115, _, rfl, t6, f115, ?_⟩, ⟨o7, 116, _, rfl, t7, f116, ?_⟩, ⟨o8, 117, S2, rfl, t8, f117, ?_⟩, trivial⟩
    · intro W _
      simp [execOp, p1, teval f7]
    · intro W _
      simp [execOp, p2, teval f14]
    · intro W _
      rw [hAe] at f110
      rw [hS1]
      have j1 : (0 : Int) ≤ (k : Int) := by omega
      have j2 : (k : Int) ≤ (cap : Int) := by omega
      clear fin haf hput htk hns hok r0 r4 r9 rE f7 f112 f114 f117 hA fsz hsz
      obtain ⟨d, op, ty, pos, aft, gd⟩ := o3
      simp only at p3
      subst p3
      go_simp
    · intro W _
      simp [execOp, p5, teval f7]
    · intro W _
      simp [execOp, p6, teval f14]
    · intro W _
      clear fin haf hput htk hns hok r0 r4 r9 rE f7 f112 f114 f117 hA fsz hsz
      have j1 : (k : Int) + 1 ≤ 1001 := by omega
      obtain ⟨d, op, ty, pos, aft, gd⟩ := o7
      simp only at p7
      subst p7
      go_simp
      rw [IntKind.wrap_i64]; omega
    · intro W _
      rw [hAe] at f114
      rw [hS2]
      have j1 : (0 : Int) ≤ (k : Int) + 1 := by omega
      have j2 : (k : Int) + 1 ≤ (n : Int) := by omega
      clear fin haf hput htk hns hok r0 r4 r9 rE f7 f112 f110 f117 hA fsz hsz
      obtain ⟨d, op, ty, pos, aft, gd⟩ := o8
      simp only at p8
      subst p8
      by_cases e : cap = k + 1
      · rw [ho1 e]
        clear ho1 ho2
        go_simp
      · rw [ho2 e]
        clear ho1 ho2
        go_simp
  have em : markIdx [1, 2, 3, 5, 6, 7, 8] (Array.replicate [o0, o1, o2, o3, o4, o5, o6, o7, o8, o9].length false) = #[false, true, true, true, false, true, true, true, true, false] := by rfl
  rw [em]
  have hA1 : (w.drew.alloc (.cells #[] 36)).ownsRow w.heap.size 36 2 (.slice (some ⟨w.heap.size, 0, none⟩) 0 0) 0 [] :=
    ⟨by simp, .inr ⟨w.heap.size, 0, _, rfl, Nat.le_refl _, World.alloc_heap_new w.drew _, Nat.le_refl _, by decide, rfl, rfl⟩⟩
  have hcell : ∀ W, Below w.heap.size w W → ∀ j u, (encP L)[j]? = some u → W.cell? ⟨g, j, none⟩ = some u := fun W hW j u hj => (hW.cell (p := ⟨g, j, none⟩) (cell_lt (hc j u hj))).trans (hc j u hj)
  refine wpAnyH_ready r0 (by simp) (AllReadyH.cons (o := o0) rfl (fun K hK => ?_) AllReadyH.nil)
  refine pstep_build0 g0 p0 ?_
  have hW1 : Below w.heap.size w (w.drew.alloc (.cells #[] 36)) := HS.alloc (Nat.le_refl _) _
  refine hK.out _ _ hW1 fun _ => ?_
  rw [t0]
  have k109 : (af.put (some 109) (.slice (some ⟨w.drew.heap.size, 0, none⟩) 0 0)).tmps[109]? = some (.slice (some ⟨w.heap.size, 0, none⟩) 0 0) := tput_at (by rw [fsz]; decide)
  have k112 : (af.put (some 109) (.slice (some ⟨w.drew.heap.size, 0, none⟩) 0 0)).tmps[112]? = some S1 := (tput_ne (by decide)).trans f112
  have k117 : (af.put (some 109) (.slice (some ⟨w.drew.heap.size, 0, none⟩) 0 0)).tmps[117]? = some S2 := (tput_ne (by decide)).trans f117
  have ksz : (af.put (some 109) (.slice (some ⟨w.drew.heap.size, 0, none⟩) 0 0)).tmps.size = 136 := tput_sz.trans fsz
  have fin2 := fin (.slice (some ⟨w.drew.heap.size, 0, none⟩) 0 0)
  generalize af.put (some 109) (.slice (some ⟨w.drew.heap.size, 0, none⟩) 0 0) = b at *
  refine wpAnyH_ready r4 (by simp) (AllReadyH.cons (o := o4) rfl (fun K hK => ?_) AllReadyH.nil)
  refine pstep_append g4 (.tmp 109) (.tmp 112) p4 w.heap.size _ [] (L.take k) g 0 cap (teval k109) (by rw [teval k112, hS1, List.length_take, show min k L.length = k by omega]) hA1 ?_ (by simp; omega) hW1.size ?_
  · intro j u hj
    rw [Nat.zero_add]
    refine hcell _ hW1 j u ?_
    rw [encP_take] at hj
    have hjl := (List.getElem?_eq_some_iff.1 hj).1
    rw [List.length_take] at hjl
    rwa [List.getElem?_take_of_lt (by omega)] at hj
  intro vC W2 hrow2 hgr2
  rw [List.nil_append] at hrow2
  have hW2 : Below w.heap.size w W2 := hW1.grown hgr2 hW1.size (fun q e => (hA1.lt q e).1)
  refine hK.out _ _ hW2 fun _ => ?_
  rw [t4]
  have m113 : (b.put (some 113) vC).tmps[113]? = some vC := tput_at (by rw [ksz]; decide)
  have m117 : (b.put (some 113) vC).tmps[117]? = some S2 := (tput_ne (by decide)).trans k117
  have msz : (b.put (some 113) vC).tmps.size = 136 := tput_sz.trans ksz
  have fin3 := fin2 vC
  generalize b.put (some 113) vC = b2 at *
  refine wpAnyH_ready r9 (by simp) (AllReadyH.cons (o := o9) rfl (fun K hK => ?_) AllReadyH.nil)
  refine pstep_append g9 (.tmp 113) (.tmp 117) p9 w.heap.size _ (L.take k) (L.drop (k + 1)) g off2 (cap - (k + 1)) (teval m113) (by rw [teval m117, hS2, List.length_drop, hn]) hrow2 ?_ (by simp; omega) hW2.size ?_
  · intro j u hj
    refine hcell _ hW2 _ u ?_
    by_cases e : cap = k + 1
    · have : L.drop (k + 1) = [] := List.drop_of_length_le (by omega)
      rw [this] at hj
      simp [encP] at hj
    · rw [encP_drop, List.getElem?_drop] at hj
      rw [ho2 e]
      exact hj
  intro v' W3 hrow3 hgr3
  have hW3 : Below w.heap.size w W3 := hW2.grown hgr3 hW2.size (fun q e => (hrow2.lt q e).1)
  refine hK.out _ _ hW3 fun _ => ?_
  rw [t9]
  refine wpAnyH_done rE ?_ _
  show o10.wp Try.prog _ W3 (fun a' w' => Q .normal a' w') Q
  have n118 : (b2.put (some 118) v').tmps[118]? = some v' := tput_at (by rw [msz]; decide)
  have hrun : (execOp (b2.put (some 118) v').eval o10).run Try.prog W3 = .ok (.value v') W3 := by simp [execOp, p10, teval n118]
  unfold Oper.wp
  rw [hrun]
  show Q .normal ((b2.put (some 118) v').put o10.dst v') W3
  rw [t10]
  exact fin3 v' W3 hrow3 hW3
end Go.Proofs.Ytobpignlamekmaa
