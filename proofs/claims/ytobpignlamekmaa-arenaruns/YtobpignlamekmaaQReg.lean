/- The document's arena: a new row of free slots is laid down, in whatever order the operations come. -/
import Derived.Test.YtobpignlamekmaaQWr
import Derived.Test.YtobpignlamekmaaADeadR
namespace Go.Proofs.Ytobpignlamekmaa
open Go.RowKit Go.Shelf
set_option maxRecDepth 100000

/-- append of numbers that lie anywhere -/
theorem istep_append {ops : Array Oper} {o : Oper} {a : Act} {w : World} {K : Act → World → Prop} {Q : Exit → Act → World → Prop} {E : Prop} (hgd : o.guard = none) (s x : Operand)
    (hop : o.op = .call { callee := .builtin .append, args := #[s, x], argTypes := #[22, 22] }) (base : Nat) (v : Value) (xs ys : List Nat) (g off c : Nat)
    (hs : a.eval s = v) (hx : a.eval x = .slice (some ⟨g, off, none⟩) ys.length c) (hown : w.ownsRow base 3 1 v xs.length (encL xs))
    (hy : ∀ j u, (encL ys)[j]? = some u → w.cell? ⟨g, off + j, none⟩ = some u) (hl : xs.length + ys.length ≤ 200000) (hbase : base ≤ w.heap.size)
    (hK : ∀ v' w', w'.ownsRow base 3 1 v' (xs ++ ys).length (encL (xs ++ ys)) → w.grownBy w' v.ownBlock → K (a.put o.dst v') w') :
    if Region.wanted o (yielded ops a.tmps) = true then Oper.wp Try.prog o a w K Q else E := by
  obtain ⟨i0, hi, hz0, hz1, hz2⟩ := info_parts Try.info3
  rw [if_pos (by simp [Region.wanted, hgd])]
  refine wp_append_own w s x 22 hop base 3 i0 (.int .i64 0) 1 8 Try.underlying22 hi hz0 hz1 hz2 rfl (by decide) v xs.length (encL xs) hs hown ⟨g, off, none⟩ ys.length c (encL ys) hx (by rw [encL_len]; omega) ?_ (encL_one ys) (by unfold maxLen; omega) (by omega) hbase ?_
  · intro j u hj
    rw [Go.WideShapes.add_plain]
    exact hy j u hj
  · intro v' w' h1 h2 _
    exact hK v' w' (by rw [encL_app, List.length_append]; exact h1) h2
/-- where the row is laid down: its address, then the store -/
theorem qfin_store {ops : Array Oper} {Q : Exit → Act → World → Prop} {S : World → Prop} {oM oL : Oper} {iM dl dk dM dD b m cM k fuel : Nat} {listed : Array Bool} {a : Act} {W : World} {ad : Option Addr} {l c : Nat} {u : Value}
    (eM : ops[iM]? = some oM) (rM : Region.ready .any ops listed = [iM]) (rE : Region.ready .any ops (listed.setIfInBounds iM true) = []) (gM : oM.guard = none)
    (pM : oM.op = .indexAddr 77 (.tmp dl) (.tmp dk)) (tM : oM.dst = some dM) (pL : oL.op = .store 22 (.tmp dM) (.tmp dD)) (tL : oL.dst = none)
    (hl : a.tmps[dl]? = some (.slice (some ⟨b, 0, none⟩) m cM)) (hk : a.tmps[dk]? = some (.int .i64 (k : Int))) (hkm : k < m) (hD : a.tmps[dD]? = some (.slice ad l c)) (hcell : W.cell? ⟨b, k, none⟩ = some u) (hfz : W.frozen? ⟨b, k, none⟩ = false)
    (hne : dM ≠ dD) (sz : dM < a.tmps.size) (hS : S W) (h : Q .normal (a.put (some dM) (.pointer (some ⟨b, k, none⟩))) (W.setCell ⟨b, k, none⟩ (.slice ad l c))) :
    wpAnyH Try.prog .any ops (lastQ Try.prog oL Q) S (fuel + 1) listed a W := by
  refine wpAnyH_ready rM (by simp) (AllReadyH.cons eM (fun K hK => ?_) AllReadyH.nil)
  rw [if_pos (by simp [Region.wanted, gM])]
  have hrun : (execOp a.eval oM).run Try.prog W = .ok (.value (.pointer (some ⟨b, k, none⟩))) W := by
    obtain ⟨d, op, ty, pos, aft, g⟩ := oM
    simp only at pM
    subst pM
    have i3 : (0 : Int) ≤ (k : Int) := by omega
    have i4 : (k : Int) < (m : Int) := by omega
    clear hK hD hcell hfz h
    go_simp
  unfold Oper.wp
  rw [hrun]
  refine hK.out _ _ hS fun _ => wpAnyH_done rE ?_ _
  rw [tM]
  show oL.wp Try.prog _ W (fun a' w' => Q .normal a' w') Q
  have z1 : (a.put (some dM) (.pointer (some ⟨b, k, none⟩))).tmps[dM]? = some (.pointer (some ⟨b, k, none⟩)) := tput_at sz
  have z2 : (a.put (some dM) (.pointer (some ⟨b, k, none⟩))).tmps[dD]? = some (.slice ad l c) := (tput_ne hne).trans hD
  generalize a.put (some dM) (.pointer (some ⟨b, k, none⟩)) = a2 at *
  have hrun2 : (execOp a2.eval oL).run Try.prog W = .ok .skip (W.setCell ⟨b, k, none⟩ (.slice ad l c)) := by
    obtain ⟨d, op, ty, pos, aft, g⟩ := oL
    simp only at pL
    subst pL
    clear hK hD hl hk hrun h
    go_simp
  unfold Oper.wp
  rw [hrun2]
  show Q .normal (a2.put oL.dst undef) _
  rw [tL]
  exact h

set_option maxHeartbeats 1000000 in
theorem al_region {id : Nat} {Q : Exit → Act → World → Prop} {a : Act} {w : World} {l1 : List Oper} {o0 o1 o2 o3 o4 o5 o6 o7 o8 o9 o10 o11 o12 o13 o14 o15 o16 : Oper} {p bf m fc k g cap off2 x : Nat} {l : List Nat} (hne : l1 ≠ []) (hl1 : l1.dropLast = [o0, o1, o2, o3, o4, o5, o6, o7, o8, o9, o10, o11, o12, o13, o14, o15]) (hlast : l1.getLast hne = o16)
    (hok : lastOk l1.dropLast (l1.getLast hne) = true) (hns : Region.noSelect [o0, o1, o2, o3, o4, o5, o6, o7, o8, o9, o10, o11, o12, o13, o14, o15].toArray = true) (htk : takesOk [o0, o1, o2, o3, o4, o5, o6, o7, o8, o9, o10, o11, o12, o13, o14, o15].toArray [0, 1, 2, 3, 4, 6, 7, 8, 9, 10, 11, 12, 13] (Array.replicate 16 false) = true)
    (p0 : o0.op = .move (.tmp 0)) (p1 : o1.op = .nilCheck (.tmp 31)) (p2 : o2.op = .fieldAddr 79 (.tmp 32) 2) (p3 : o3.op = .load 77 (.tmp 33)) (p4 : o4.op = .move (.tmp 1)) (p5 : o5.op = .buildSlice 22 0 #[]) (p6 : o6.op = .move (.tmp 0)) (p7 : o7.op = .nilCheck (.tmp 37)) (p8 : o8.op = .fieldAddr 79 (.tmp 38) 2) (p9 : o9.op = .load 77 (.tmp 39)) (p10 : o10.op = .move (.tmp 1)) (p11 : o11.op = .indexAddr 77 (.tmp 40) (.tmp 41)) (p12 : o12.op = .load 22 (.tmp 42)) (p13 : o13.op = .slice 22 (.tmp 43) (some (.const (.int .i64 1))) none none) (p14 : o14.op = .call { callee := .builtin .append, args := #[.tmp 36, .tmp 44], argTypes := #[22, 22] }) (p15 : o15.op = .indexAddr 77 (.tmp 34) (.tmp 35)) (p16 : o16.op = .store 22 (.tmp 46) (.tmp 45))
    (g5 : o5.guard = none) (g14 : o14.guard = none) (g15 : o15.guard = none)
    (t0 : o0.dst = some 31) (t1 : o1.dst = some 32) (t2 : o2.dst = some 33) (t3 : o3.dst = some 34) (t4 : o4.dst = some 35) (t5 : o5.dst = some 36) (t6 : o6.dst = some 37) (t7 : o7.dst = some 38) (t8 : o8.dst = some 39) (t9 : o9.dst = some 40) (t10 : o10.dst = some 41) (t11 : o11.dst = some 42) (t12 : o12.dst = some 43) (t13 : o13.dst = some 44) (t14 : o14.dst = some 45) (t15 : o15.dst = some 46) (t16 : o16.dst = none)
    (hsz : a.tmps.size = 64) (h0 : a.tmps[0]? = some (.pointer (some ⟨p, 0, none⟩))) (h1 : a.tmps[1]? = some (.int .i64 (k : Int))) (hkm : k < m) (hcap : l.length + 1 ≤ cap) (hl : l.length ≤ 5000) (ho1 : cap = 1 → off2 = 0) (ho2 : ¬ cap = 1 → off2 = 1)
    (cp : w.cell? ⟨p, 2, none⟩ = some (.slice (some ⟨bf, 0, none⟩) m fc)) (cv : w.cell? ⟨bf, k, none⟩ = some (.slice (some ⟨g, 0, none⟩) (l.length + 1) cap)) (hfz : ∀ W, Below w.heap.size w W → W.frozen? ⟨bf, k, none⟩ = false) (hc : ∀ j u, (encL (x :: l))[j]? = some u → w.cell? ⟨g, j, none⟩ = some u)
    (r5 : Region.ready .any [o0, o1, o2, o3, o4, o5, o6, o7, o8, o9, o10, o11, o12, o13, o14, o15].toArray #[true, true, true, true, true, false, true, true, true, true, true, true, true, true, false, false] = [5])
    (r14 : Region.ready .any [o0, o1, o2, o3, o4, o5, o6, o7, o8, o9, o10, o11, o12, o13, o14, o15].toArray #[true, true, true, true, true, true, true, true, true, true, true, true, true, true, false, false] = [14])
    (r15 : Region.ready .any [o0, o1, o2, o3, o4, o5, o6, o7, o8, o9, o10, o11, o12, o13, o14, o15].toArray #[true, true, true, true, true, true, true, true, true, true, true, true, true, true, true, false] = [15])
    (rE : Region.ready .any [o0, o1, o2, o3, o4, o5, o6, o7, o8, o9, o10, o11, o12, o13, o14, o15].toArray #[true, true, true, true, true, true, true, true, true, true, true, true, true, true, true, true] = [])
    (hQ : ∀ c a d v w, Q (.panic c) (Act.put a d v) w → Q (.panic c) a w)
    (fin : ∀ vB v' W', W'.ownsRow w.heap.size 3 1 v' l.length (encL l) → Below w.heap.size w W' → Q .normal ((((((((((((((((a.put (some 31) (.pointer (some ⟨p, 0, none⟩))).put (some 32) (.pointer (some ⟨p, 0, none⟩))).put (some 33) (.pointer (some ⟨p, 2, none⟩))).put (some 34) (.slice (some ⟨bf, 0, none⟩) m fc)).put (some 35) (.int .i64 (k : Int))).put (some 37) (.pointer (some ⟨p, 0, none⟩))).put (some 38) (.pointer (some ⟨p, 0, none⟩))).put (some 39) (.pointer (some ⟨p, 2, none⟩))).put (some 40) (.slice (some ⟨bf, 0, none⟩) m fc)).put (some 41) (.int .i64 (k : Int))).put (some 42) (.pointer (some ⟨bf, k, none⟩))).put (some 43) (.slice (some ⟨g, 0, none⟩) (l.length + 1) cap)).put (some 44) (.slice (some ⟨g, off2, none⟩) l.length (cap - 1))).put (some 36) vB).put (some 45) v').put (some 46) (.pointer (some ⟨bf, k, none⟩))) (W'.setCell ⟨bf, k, none⟩ v')) :
    (Code.region id l1.toArray true).wp Try.prog Q a w := by
  obtain ⟨af, haf⟩ : ∃ af, af = (((((((((((((a.put (some 31) (.pointer (some ⟨p, 0, none⟩))).put (some 32) (.pointer (some ⟨p, 0, none⟩))).put (some 33) (.pointer (some ⟨p, 2, none⟩))).put (some 34) (.slice (some ⟨bf, 0, none⟩) m fc)).put (some 35) (.int .i64 (k : Int))).put (some 37) (.pointer (some ⟨p, 0, none⟩))).put (some 38) (.pointer (some ⟨p, 0, none⟩))).put (some 39) (.pointer (some ⟨p, 2, none⟩))).put (some 40) (.slice (some ⟨bf, 0, none⟩) m fc)).put (some 41) (.int .i64 (k : Int))).put (some 42) (.pointer (some ⟨bf, k, none⟩))).put (some 43) (.slice (some ⟨g, 0, none⟩) (l.length + 1) cap)).put (some 44) (.slice (some ⟨g, off2, none⟩) l.length (cap - 1))) := ⟨_, rfl⟩
  rw [← haf] at fin
  have fsz : af.tmps.size = 64 := by rw [haf]; simp only [tput_sz]; exact hsz
  have f0 : af.tmps[0]? = some (.pointer (some ⟨p, 0, none⟩)) := by rw [haf]; rw [tput_ne (by decide), tput_ne (by decide), tput_ne (by decide), tput_ne (by decide), tput_ne (by decide), tput_ne (by decide), tput_ne (by decide), tput_ne (by decide), tput_ne (by decide), tput_ne (by decide), tput_ne (by decide), tput_ne (by decide), tput_ne (by decide)]; exact h0
  have f1 : af.tmps[1]? = some (.int .i64 (k : Int)) := by rw [haf]; rw [tput_ne (by decide), tput_ne (by decide), tput_ne (by decide), tput_ne (by decide), tput_ne (by decide), tput_ne (by decide), tput_ne (by decide), tput_ne (by decide), tput_ne (by decide), tput_ne (by decide), tput_ne (by decide), tput_ne (by decide), tput_ne (by decide)]; exact h1
  have f31 : af.tmps[31]? = some (.pointer (some ⟨p, 0, none⟩)) := by rw [haf]; rw [tput_ne (by decide), tput_ne (by decide), tput_ne (by decide), tput_ne (by decide), tput_ne (by decide), tput_ne (by decide), tput_ne (by decide), tput_ne (by decide), tput_ne (by decide), tput_ne (by decide), tput_ne (by decide), tput_ne (by decide), tput_at (by first | (rw [hsz]; decide) | (simp only [tput_sz]; rw [hsz]; decide))]
  have f32 : af.tmps[32]? = some (.pointer (some ⟨p, 0, none⟩)) := by rw [haf]; rw [tput_ne (by decide), tput_ne (by decide), tput_ne (by decide), tput_ne (by decide), tput_ne (by decide), tput_ne (by decide), tput_ne (by decide), tput_ne (by decide), tput_ne (by decide), tput_ne (by decide), tput_ne (by decide), tput_at (by first | (rw [hsz]; decide) | (simp only [tput_sz]; rw [hsz]; decide))]
  have f33 : af.tmps[33]? = some (.pointer (some ⟨p, 2, none⟩)) := by rw [haf]; rw [tput_ne (by decide), tput_ne (by decide), tput_ne (by decide), tput_ne (by decide), tput_ne (by decide), tput_ne (by decide), tput_ne (by decide), tput_ne (by decide), tput_ne (by decide), tput_ne (by decide), tput_at (by first | (rw [hsz]; decide) | (simp only [tput_sz]; rw [hsz]; decide))]
  have f34 : af.tmps[34]? = some (.slice (some ⟨bf, 0, none⟩) m fc) := by rw [haf]; rw [tput_ne (by decide), tput_ne (by decide), tput_ne (by decide), tput_ne (by decide), tput_ne (by decide), tput_ne (by decide), tput_ne (by decide), tput_ne (by decide), tput_ne (by decide), tput_at (by first | (rw [hsz]; decide) | (simp only [tput_sz]; rw [hsz]; decide))]
  have f35 : af.tmps[35]? = some (.int .i64 (k : Int)) := by rw [haf]; rw [tput_ne (by decide), tput_ne (by decide), tput_ne (by decide), tput_ne (by decide), tput_ne (by decide), tput_ne (by decide), tput_ne (by decide), tput_ne (by decide), tput_at (by first | (rw [hsz]; decide) | (simp only [tput_sz]; rw [hsz]; decide))]
  have f37 : af.tmps[37]? = some (.pointer (some ⟨p, 0, none⟩)) := by rw [haf]; rw [tput_ne (by decide), tput_ne (by decide), tput_ne (by decide), tput_ne (by decide), tput_ne (by decide), tput_ne (by decide), tput_ne (by decide), tput_at (by first | (rw [hsz]; decide) | (simp only [tput_sz]; rw [hsz]; decide))]
  have f38 : af.tmps[38]? = some (.pointer (some ⟨p, 0, none⟩)) := by rw [haf]; rw [tput_ne (by decide), tput_ne (by decide), tput_ne (by decide), tput_ne (by decide), tput_ne (by decide), tput_ne (by decide), tput_at (by first | (rw [hsz]; decide) | (simp only [tput_sz]; rw [hsz]; decide))]
  have f39 : af.tmps[39]? = some (.pointer (some ⟨p, 2, none⟩)) := by rw [haf]; rw [tput_ne (by decide), tput_ne (by decide), tput_ne (by decide), tput_ne (by decide), tput_ne (by decide), tput_at (by first | (rw [hsz]; decide) | (simp only [tput_sz]; rw [hsz]; decide))]
  have f40 : af.tmps[40]? = some (.slice (some ⟨bf, 0, none⟩) m fc) := by rw [haf]; rw [tput_ne (by decide), tput_ne (by decide), tput_ne (by decide), tput_ne (by decide), tput_at (by first | (rw [hsz]; decide) | (simp only [tput_sz]; rw [hsz]; decide))]
  have f41 : af.tmps[41]? = some (.int .i64 (k : Int)) := by rw [haf]; rw [tput_ne (by decide), tput_ne (by decide), tput_ne (by decide), tput_at (by first | (rw [hsz]; decide) | (simp only [tput_sz]; rw [hsz]; decide))]
  have f42 : af.tmps[42]? = some (.pointer (some ⟨bf, k, none⟩)) := by rw [haf]; rw [tput_ne (by decide), tput_ne (by decide), tput_at (by first | (rw [hsz]; decide) | (simp only [tput_sz]; rw [hsz]; decide))]
  have f43 : af.tmps[43]? = some (.slice (some ⟨g, 0, none⟩) (l.length + 1) cap) := by rw [haf]; rw [tput_ne (by decide), tput_at (by first | (rw [hsz]; decide) | (simp only [tput_sz]; rw [hsz]; decide))]
  have f44 : af.tmps[44]? = some (.slice (some ⟨g, off2, none⟩) l.length (cap - 1)) := by rw [haf]; rw [tput_at (by first | (rw [hsz]; decide) | (simp only [tput_sz]; rw [hsz]; decide))]
  have HS : Below w.heap.size w w.drew := (Below.refl _ _).drew
  refine wp_region_last2 hne (fun W => Below w.heap.size w W) (by kernel_rfl) hok ?_
  rw [hl1, hlast]
  have hput : putIdx af [o0, o1, o2, o3, o4, o5, o6, o7, o8, o9, o10, o11, o12, o13, o14, o15].toArray [0, 1, 2, 3, 4, 6, 7, 8, 9, 10, 11, 12, 13] a = af := by
    have e : putIdx af [o0, o1, o2, o3, o4, o5, o6, o7, o8, o9, o10, o11, o12, o13, o14, o15].toArray [0, 1, 2, 3, 4, 6, 7, 8, 9, 10, 11, 12, 13] a = (((((((((((((a.put (some 31) (.pointer (some ⟨p, 0, none⟩))).put (some 32) (.pointer (some ⟨p, 0, none⟩))).put (some 33) (.pointer (some ⟨p, 2, none⟩))).put (some 34) (.slice (some ⟨bf, 0, none⟩) m fc)).put (some 35) (.int .i64 (k : Int))).put (some 37) (.pointer (some ⟨p, 0, none⟩))).put (some 38) (.pointer (some ⟨p, 0, none⟩))).put (some 39) (.pointer (some ⟨p, 2, none⟩))).put (some 40) (.slice (some ⟨bf, 0, none⟩) m fc)).put (some 41) (.int .i64 (k : Int))).put (some 42) (.pointer (some ⟨bf, k, none⟩))).put (some 43) (.slice (some ⟨g, 0, none⟩) (l.length + 1) cap)).put (some 44) (.slice (some ⟨g, off2, none⟩) l.length (cap - 1))) := by
      simp only [putIdx, List.getElem?_toArray, List.getElem?_cons_succ, List.getElem?_cons_zero, Option.bind_some, t0, t1, t2, t3, t4, t6, t7, t8, t9, t10, t11, t12, t13, tgetD f31, tgetD f32, tgetD f33, tgetD f34, tgetD f35, tgetD f37, tgetD f38, tgetD f39, tgetD f40, tgetD f41, tgetD f42, tgetD f43, tgetD f44]
    rw [e, haf]
  refine takes (P := Try.prog) (Q := lastQ Try.prog o16 Q) (S := fun W => Below w.heap.size w W) (idx := [0, 1, 2, 3, 4, 6, 7, 8, 9, 10, 11, 12, 13]) (af := af) (fuel := 3) hns (fun c a d v w h => hQ c a d v w h) HS _ _ htk hput ?_ ?_
  · refine ⟨⟨o0, 31, _, rfl, t0, f31, ?_⟩, ⟨o1, 32, _, rfl, t1, f32, ?_⟩, ⟨o2, 33, _, rfl, t2, f33, ?_⟩, ⟨o3, 34, _, rfl, t3, f34, ?_⟩, ⟨o4, 35, _, rfl, t4, f35, ?_⟩, ⟨o6, 37, _, rfl, t6, f37, ?_⟩, ⟨o7, 38, _, rfl, t7, f38, ?_⟩, ⟨o8, 39, _, rfl, t8, f39, ?_⟩, ⟨o9, 40, _, rfl, t9, f40, ?_⟩, ⟨o10, 41, _, rfl, t10, f41, ?_⟩, ⟨o11, 42, _, rfl, t11, f42, ?_⟩, ⟨o12, 43, _, rfl, t12, f43, ?_⟩, ⟨o13, 44, _, rfl, t13, f44, ?_⟩, trivial⟩
    · intro W hW
      have i3 : (0 : Int) ≤ (k : Int) := by omega
      have i4 : (k : Int) < (m : Int) := by omega
      have cp2 := (hW.cell (p := ⟨p, 2, none⟩) (cell_lt cp)).trans cp
      have cv2 := (hW.cell (p := ⟨bf, k, none⟩) (cell_lt cv)).trans cv
      have i5 : (1 : Int) ≤ (l.length : Int) + 1 := by omega
      have i6 : (1 : Int) ≤ (cap : Int) := by omega
      clear fin haf hput htk hns hok fsz hsz hQ r5 r14 r15 rE hfz hc h0 h1 cp cv HS
      obtain ⟨d, op, ty, pos, aft, gd⟩ := o0
      simp only at p0
      subst p0
      go_simp
    · intro W hW
      have i3 : (0 : Int) ≤ (k : Int) := by omega
      have i4 : (k : Int) < (m : Int) := by omega
      have cp2 := (hW.cell (p := ⟨p, 2, none⟩) (cell_lt cp)).trans cp
      have cv2 := (hW.cell (p := ⟨bf, k, none⟩) (cell_lt cv)).trans cv
      have i5 : (1 : Int) ≤ (l.length : Int) + 1 := by omega
      have i6 : (1 : Int) ≤ (cap : Int) := by omega
      clear fin haf hput htk hns hok fsz hsz hQ r5 r14 r15 rE hfz hc h0 h1 cp cv HS
      obtain ⟨d, op, ty, pos, aft, gd⟩ := o1
      simp only at p1
      subst p1
      go_simp
    · intro W hW
      have i3 : (0 : Int) ≤ (k : Int) := by omega
      have i4 : (k : Int) < (m : Int) := by omega
      have cp2 := (hW.cell (p := ⟨p, 2, none⟩) (cell_lt cp)).trans cp
      have cv2 := (hW.cell (p := ⟨bf, k, none⟩) (cell_lt cv)).trans cv
      have i5 : (1 : Int) ≤ (l.length : Int) + 1 := by omega
      have i6 : (1 : Int) ≤ (cap : Int) := by omega
      clear fin haf hput htk hns hok fsz hsz hQ r5 r14 r15 rE hfz hc h0 h1 cp cv HS
      obtain ⟨d, op, ty, pos, aft, gd⟩ := o2
      simp only at p2
      subst p2
      go_simp
    · intro W hW
      have i3 : (0 : Int) ≤ (k : Int) := by omega
      have i4 : (k : Int) < (m : Int) := by omega
      have cp2 := (hW.cell (p := ⟨p, 2, none⟩) (cell_lt cp)).trans cp
      have cv2 := (hW.cell (p := ⟨bf, k, none⟩) (cell_lt cv)).trans cv
      have i5 : (1 : Int) ≤ (l.length : Int) + 1 := by omega
      have i6 : (1 : Int) ≤ (cap : Int) := by omega
      clear fin haf hput htk hns hok fsz hsz hQ r5 r14 r15 rE hfz hc h0 h1 cp cv HS
      obtain ⟨d, op, ty, pos, aft, gd⟩ := o3
      simp only at p3
      subst p3
      go_simp
    · intro W hW
      have i3 : (0 : Int) ≤ (k : Int) := by omega
      have i4 : (k : Int) < (m : Int) := by omega
      have cp2 := (hW.cell (p := ⟨p, 2, none⟩) (cell_lt cp)).trans cp
      have cv2 := (hW.cell (p := ⟨bf, k, none⟩) (cell_lt cv)).trans cv
      have i5 : (1 : Int) ≤ (l.length : Int) + 1 := by omega
      have i6 : (1 : Int) ≤ (cap : Int) := by omega
      clear fin haf hput htk hns hok fsz hsz hQ r5 r14 r15 rE hfz hc h0 h1 cp cv HS
      obtain ⟨d, op, ty, pos, aft, gd⟩ := o4
      simp only at p4
      subst p4
      go_simp
    · intro W hW
      have i3 : (0 : Int) ≤ (k : Int) := by omega
      have i4 : (k : Int) < (m : Int) := by omega
      have cp2 := (hW.cell (p := ⟨p, 2, none⟩) (cell_lt cp)).trans cp
      have cv2 := (hW.cell (p := ⟨bf, k, none⟩) (cell_lt cv)).trans cv
      have i5 : (1 : Int) ≤ (l.length : Int) + 1 := by omega
      have i6 : (1 : Int) ≤ (cap : Int) := by omega
      clear fin haf hput htk hns hok fsz hsz hQ r5 r14 r15 rE hfz hc h0 h1 cp cv HS
      obtain ⟨d, op, ty, pos, aft, gd⟩ := o6
      simp only at p6
      subst p6
      go_simp
    · intro W hW
      have i3 : (0 : Int) ≤ (k : Int) := by omega
      have i4 : (k : Int) < (m : Int) := by omega
      have cp2 := (hW.cell (p := ⟨p, 2, none⟩) (cell_lt cp)).trans cp
      have cv2 := (hW.cell (p := ⟨bf, k, none⟩) (cell_lt cv)).trans cv
      have i5 : (1 : Int) ≤ (l.length : Int) + 1 := by omega
      have i6 : (1 : Int) ≤ (cap : Int) := by omega
      clear fin haf hput htk hns hok fsz hsz hQ r5 r14 r15 rE hfz hc h0 h1 cp cv HS
      obtain ⟨d, op, ty, pos, aft, gd⟩ := o7
      simp only at p7
      subst p7
      go_simp
    · intro W hW
      have i3 : (0 : Int) ≤ (k : Int) := by omega
      have i4 : (k : Int) < (m : Int) := by omega
      have cp2 := (hW.cell (p := ⟨p, 2, none⟩) (cell_lt cp)).trans cp
      have cv2 := (hW.cell (p := ⟨bf, k, none⟩) (cell_lt cv)).trans cv
      have i5 : (1 : Int) ≤ (l.length : Int) + 1 := by omega
      have i6 : (1 : Int) ≤ (cap : Int) := by omega
      clear fin haf hput htk hns hok fsz hsz hQ r5 r14 r15 rE hfz hc h0 h1 cp cv HS
      obtain ⟨d, op, ty, pos, aft, gd⟩ := o8
      simp only at p8
      subst p8
      go_simp
    · intro W hW
      have i3 : (0 : Int) ≤ (k : Int) := by omega
      have i4 : (k : Int) < (m : Int) := by omega
      have cp2 := (hW.cell (p := ⟨p, 2, none⟩) (cell_lt cp)).trans cp
      have cv2 := (hW.cell (p := ⟨bf, k, none⟩) (cell_lt cv)).trans cv
      have i5 : (1 : Int) ≤ (l.length : Int) + 1 := by omega
      have i6 : (1 : Int) ≤ (cap : Int) := by omega
      clear fin haf hput htk hns hok fsz hsz hQ r5 r14 r15 rE hfz hc h0 h1 cp cv HS
      obtain ⟨d, op, ty, pos, aft, gd⟩ := o9
      simp only at p9
      subst p9
      go_simp
    · intro W hW
      have i3 : (0 : Int) ≤ (k : Int) := by omega
      have i4 : (k : Int) < (m : Int) := by omega
      have cp2 := (hW.cell (p := ⟨p, 2, none⟩) (cell_lt cp)).trans cp
      have cv2 := (hW.cell (p := ⟨bf, k, none⟩) (cell_lt cv)).trans cv
      have i5 : (1 : Int) ≤ (l.length : Int) + 1 := by omega
      have i6 : (1 : Int) ≤ (cap : Int) := by omega
      clear fin haf hput htk hns hok fsz hsz hQ r5 r14 r15 rE hfz hc h0 h1 cp cv HS
      obtain ⟨d, op, ty, pos, aft, gd⟩ := o10
      simp only at p10
      subst p10
      go_simp
    · intro W hW
      have i3 : (0 : Int) ≤ (k : Int) := by omega
      have i4 : (k : Int) < (m : Int) := by omega
      have cp2 := (hW.cell (p := ⟨p, 2, none⟩) (cell_lt cp)).trans cp
      have cv2 := (hW.cell (p := ⟨bf, k, none⟩) (cell_lt cv)).trans cv
      have i5 : (1 : Int) ≤ (l.length : Int) + 1 := by omega
      have i6 : (1 : Int) ≤ (cap : Int) := by omega
      clear fin haf hput htk hns hok fsz hsz hQ r5 r14 r15 rE hfz hc h0 h1 cp cv HS
      obtain ⟨d, op, ty, pos, aft, gd⟩ := o11
      simp only at p11
      subst p11
      go_simp
    · intro W hW
      have i3 : (0 : Int) ≤ (k : Int) := by omega
      have i4 : (k : Int) < (m : Int) := by omega
      have cp2 := (hW.cell (p := ⟨p, 2, none⟩) (cell_lt cp)).trans cp
      have cv2 := (hW.cell (p := ⟨bf, k, none⟩) (cell_lt cv)).trans cv
      have i5 : (1 : Int) ≤ (l.length : Int) + 1 := by omega
      have i6 : (1 : Int) ≤ (cap : Int) := by omega
      clear fin haf hput htk hns hok fsz hsz hQ r5 r14 r15 rE hfz hc h0 h1 cp cv HS
      obtain ⟨d, op, ty, pos, aft, gd⟩ := o12
      simp only at p12
      subst p12
      go_simp
    · intro W hW
      have i3 : (0 : Int) ≤ (k : Int) := by omega
      have i4 : (k : Int) < (m : Int) := by omega
      have cp2 := (hW.cell (p := ⟨p, 2, none⟩) (cell_lt cp)).trans cp
      have cv2 := (hW.cell (p := ⟨bf, k, none⟩) (cell_lt cv)).trans cv
      have i5 : (1 : Int) ≤ (l.length : Int) + 1 := by omega
      have i6 : (1 : Int) ≤ (cap : Int) := by omega
      clear fin haf hput htk hns hok fsz hsz hQ r5 r14 r15 rE hfz hc h0 h1 cp cv HS
      obtain ⟨d, op, ty, pos, aft, gd⟩ := o13
      simp only at p13
      subst p13
      by_cases e : cap = 1
      · rw [ho1 e]
        clear ho1 ho2
        go_simp
      · rw [ho2 e]
        clear ho1 ho2
        go_simp
  have em : markIdx [0, 1, 2, 3, 4, 6, 7, 8, 9, 10, 11, 12, 13] (Array.replicate [o0, o1, o2, o3, o4, o5, o6, o7, o8, o9, o10, o11, o12, o13, o14, o15].length false) = #[true, true, true, true, true, false, true, true, true, true, true, true, true, true, false, false] := by kernel_rfl
  rw [em]
  have hA1 : (w.drew.alloc (.cells #[] 3)).ownsRow w.heap.size 3 1 (.slice (some ⟨w.heap.size, 0, none⟩) 0 0) 0 [] := own_build0 w.drew w.heap.size (Nat.le_refl _)
  refine wpAnyH_ready r5 (by simp) (AllReadyH.cons (o := o5) rfl (fun K hK => ?_) AllReadyH.nil)
  refine step_build0 g5 p5 ?_
  have hW1 : Below w.heap.size w (w.drew.alloc (.cells #[] 3)) := HS.alloc (Nat.le_refl _) _
  refine hK.out _ _ hW1 fun _ => ?_
  rw [t5]
  have k36 : (af.put (some 36) (.slice (some ⟨w.drew.heap.size, 0, none⟩) 0 0)).tmps[36]? = some (.slice (some ⟨w.heap.size, 0, none⟩) 0 0) := tput_at (by rw [fsz]; decide)
  have k44 : (af.put (some 36) (.slice (some ⟨w.drew.heap.size, 0, none⟩) 0 0)).tmps[44]? = some (.slice (some ⟨g, off2, none⟩) l.length (cap - 1)) := (tput_ne (by decide)).trans f44
  have k34 : (af.put (some 36) (.slice (some ⟨w.drew.heap.size, 0, none⟩) 0 0)).tmps[34]? = some (.slice (some ⟨bf, 0, none⟩) m fc) := (tput_ne (by decide)).trans f34
  have k35 : (af.put (some 36) (.slice (some ⟨w.drew.heap.size, 0, none⟩) 0 0)).tmps[35]? = some (.int .i64 (k : Int)) := (tput_ne (by decide)).trans f35
  have ksz : (af.put (some 36) (.slice (some ⟨w.drew.heap.size, 0, none⟩) 0 0)).tmps.size = 64 := tput_sz.trans fsz
  have fin2 := fin (.slice (some ⟨w.drew.heap.size, 0, none⟩) 0 0)
  generalize af.put (some 36) (.slice (some ⟨w.drew.heap.size, 0, none⟩) 0 0) = b at *
  refine wpAnyH_ready r14 (by simp) (AllReadyH.cons (o := o14) rfl (fun K hK => ?_) AllReadyH.nil)
  refine istep_append g14 (.tmp 36) (.tmp 44) p14 w.heap.size _ [] l g off2 (cap - 1) (teval k36) (teval k44) hA1 ?_ (by simp; omega) hW1.size ?_
  · intro j u hj
    by_cases e : cap = 1
    · have : l = [] := List.length_eq_zero_iff.1 (by omega)
      rw [this] at hj
      simp [encL] at hj
    · rw [ho2 e]
      have hj2 : (encL (x :: l))[1 + j]? = some u := by rw [Nat.add_comm]; exact hj
      exact (hW1.cell (p := ⟨g, 1 + j, none⟩) (cell_lt (hc _ u hj2))).trans (hc _ u hj2)
  intro v' W2 hrow2 hgr2
  rw [List.nil_append] at hrow2
  have hW2 : Below w.heap.size w W2 := hW1.grown hgr2 hW1.size (fun q e => (hA1.lt q e).1)
  refine hK.out _ _ hW2 fun _ => ?_
  rw [t14]
  obtain ⟨va, vc, rfl⟩ := own_len hrow2
  have em2 : Array.setIfInBounds (Array.setIfInBounds #[true, true, true, true, true, false, true, true, true, true, true, true, true, true, false, false] 5 true) 14 true = #[true, true, true, true, true, true, true, true, true, true, true, true, true, true, true, false] := by kernel_rfl
  rw [em2]
  have rE2 : Region.ready .any [o0, o1, o2, o3, o4, o5, o6, o7, o8, o9, o10, o11, o12, o13, o14, o15].toArray (Array.setIfInBounds #[true, true, true, true, true, true, true, true, true, true, true, true, true, true, true, false] 15 true) = [] := by
    have em3 : Array.setIfInBounds #[true, true, true, true, true, true, true, true, true, true, true, true, true, true, true, false] 15 true = #[true, true, true, true, true, true, true, true, true, true, true, true, true, true, true, true] := by kernel_rfl
    rw [em3]; exact rE
  have n34 : (b.put (some 45) (.slice va l.length vc)).tmps[34]? = some (.slice (some ⟨bf, 0, none⟩) m fc) := (tput_ne (by decide)).trans k34
  have n35 : (b.put (some 45) (.slice va l.length vc)).tmps[35]? = some (.int .i64 (k : Int)) := (tput_ne (by decide)).trans k35
  have n45 : (b.put (some 45) (.slice va l.length vc)).tmps[45]? = some (.slice va l.length vc) := tput_at (by rw [ksz]; decide)
  have nsz : (b.put (some 45) (.slice va l.length vc)).tmps.size = 64 := tput_sz.trans ksz
  have fin3 := fin2 (.slice va l.length vc) W2 hrow2 hW2
  generalize b.put (some 45) (.slice va l.length vc) = b3 at *
  refine qfin_store (iM := 15) (dl := 34) (dk := 35) (dM := 46) (dD := 45) (b := bf) (m := m) (cM := fc) (k := k) (oM := o15) (oL := o16) (ad := va) (l := l.length) (c := vc) (fuel := 0) rfl r15 rE2 g15 p15 t15 p16 t16 n34 n35 hkm n45 ((hW2.cell (p := ⟨bf, k, none⟩) (cell_lt cv)).trans cv) (hfz W2 hW2) (by decide) (by rw [nsz]; decide) hW2 ?_
  exact fin3

set_option maxHeartbeats 1000000 in
theorem drop_region {id : Nat} {Q : Exit → Act → World → Prop} {a : Act} {w : World} {l1 : List Oper} {o0 o1 o2 o3 o4 o5 o6 o7 o8 o9 o10 o11 o12 o13 o14 o15 o16 o17 o18 o19 : Oper} {p bf m fc k bx x vc B : Nat} {va : Option Addr} {r : List Nat} (hne : l1 ≠ []) (hl1 : l1.dropLast = [o0, o1, o2, o3, o4, o5, o6, o7, o8, o9, o10, o11, o12, o13, o14, o15, o16, o17, o18]) (hlast : l1.getLast hne = o19)
    (hok : lastOk l1.dropLast (l1.getLast hne) = true) (hns : Region.noSelect [o0, o1, o2, o3, o4, o5, o6, o7, o8, o9, o10, o11, o12, o13, o14, o15, o16, o17, o18].toArray = true) (htk : takesOk [o0, o1, o2, o3, o4, o5, o6, o7, o8, o9, o10, o11, o12, o13, o14, o15, o16, o17, o18].toArray [0, 1, 2, 3, 4, 6, 7, 8, 9, 10, 11, 12, 14, 15] (Array.replicate 19 false) = true)
    (p0 : o0.op = .move (.tmp 0)) (p1 : o1.op = .nilCheck (.tmp 29)) (p2 : o2.op = .fieldAddr 79 (.tmp 30) 2) (p3 : o3.op = .load 77 (.tmp 31)) (p4 : o4.op = .move (.tmp 5)) (p5 : o5.op = .buildSlice 22 0 #[]) (p6 : o6.op = .move (.tmp 0)) (p7 : o7.op = .nilCheck (.tmp 35)) (p8 : o8.op = .fieldAddr 79 (.tmp 36) 2) (p9 : o9.op = .load 77 (.tmp 37)) (p10 : o10.op = .move (.tmp 5)) (p11 : o11.op = .indexAddr 77 (.tmp 38) (.tmp 39)) (p12 : o12.op = .load 22 (.tmp 40)) (p13 : o13.op = .call { callee := .builtin .append, args := #[.tmp 34, .tmp 41], argTypes := #[22, 22] }) (p14 : o14.op = .fieldAddr 36 (.tmp 3) 0) (p15 : o15.op = .load 3 (.tmp 43)) (p16 : o16.op = .buildSlice 22 1 #[(0, .tmp 44)]) (p17 : o17.op = .call { callee := .builtin .append, args := #[.tmp 42, .tmp 45], argTypes := #[22, 22] }) (p18 : o18.op = .indexAddr 77 (.tmp 32) (.tmp 33)) (p19 : o19.op = .store 22 (.tmp 47) (.tmp 46))
    (g5 : o5.guard = none) (g13 : o13.guard = none) (g16 : o16.guard = none) (g17 : o17.guard = none) (g18 : o18.guard = none)
    (t0 : o0.dst = some 29) (t1 : o1.dst = some 30) (t2 : o2.dst = some 31) (t3 : o3.dst = some 32) (t4 : o4.dst = some 33) (t5 : o5.dst = some 34) (t6 : o6.dst = some 35) (t7 : o7.dst = some 36) (t8 : o8.dst = some 37) (t9 : o9.dst = some 38) (t10 : o10.dst = some 39) (t11 : o11.dst = some 40) (t12 : o12.dst = some 41) (t13 : o13.dst = some 42) (t14 : o14.dst = some 43) (t15 : o15.dst = some 44) (t16 : o16.dst = some 45) (t17 : o17.dst = some 46) (t18 : o18.dst = some 47) (t19 : o19.dst = none)
    (hsz : a.tmps.size = 48) (h0 : a.tmps[0]? = some (.pointer (some ⟨p, 0, none⟩))) (h5 : a.tmps[5]? = some (.int .i64 (k : Int))) (h3 : a.tmps[3]? = some (.pointer (some ⟨bx, 0, none⟩))) (hkm : k < m) (hl : r.length ≤ 5000)
    (cp : w.cell? ⟨p, 2, none⟩ = some (.slice (some ⟨bf, 0, none⟩) m fc)) (cv : w.cell? ⟨bf, k, none⟩ = some (Value.slice va r.length vc)) (cb : w.cell? ⟨bx, 0, none⟩ = some (.int .i64 (x : Int))) (hfz : ∀ W, Below w.heap.size w W → W.frozen? ⟨bf, k, none⟩ = false) (hown : w.ownsRow B 3 1 (Value.slice va r.length vc) r.length (encL r))
    (rn : Region.ready .any [o0, o1, o2, o3, o4, o5, o6, o7, o8, o9, o10, o11, o12, o13, o14, o15, o16, o17, o18].toArray (#[true, true, true, true, true, false, true, true, true, true, true, true, true, false, true, true, false, false, false] : Array Bool) = [5, 16]) (rA : Region.ready .any [o0, o1, o2, o3, o4, o5, o6, o7, o8, o9, o10, o11, o12, o13, o14, o15, o16, o17, o18].toArray ((#[true, true, true, true, true, false, true, true, true, true, true, true, true, false, true, true, false, false, false] : Array Bool).setIfInBounds 5 true) = [13, 16]) (rC : Region.ready .any [o0, o1, o2, o3, o4, o5, o6, o7, o8, o9, o10, o11, o12, o13, o14, o15, o16, o17, o18].toArray ((#[true, true, true, true, true, false, true, true, true, true, true, true, true, false, true, true, false, false, false] : Array Bool).setIfInBounds 16 true) = [5]) (rAB : Region.ready .any [o0, o1, o2, o3, o4, o5, o6, o7, o8, o9, o10, o11, o12, o13, o14, o15, o16, o17, o18].toArray (((#[true, true, true, true, true, false, true, true, true, true, true, true, true, false, true, true, false, false, false] : Array Bool).setIfInBounds 5 true).setIfInBounds 13 true) = [16]) (rAC : Region.ready .any [o0, o1, o2, o3, o4, o5, o6, o7, o8, o9, o10, o11, o12, o13, o14, o15, o16, o17, o18].toArray (((#[true, true, true, true, true, false, true, true, true, true, true, true, true, false, true, true, false, false, false] : Array Bool).setIfInBounds 5 true).setIfInBounds 16 true) = [13]) (rCA : Region.ready .any [o0, o1, o2, o3, o4, o5, o6, o7, o8, o9, o10, o11, o12, o13, o14, o15, o16, o17, o18].toArray (((#[true, true, true, true, true, false, true, true, true, true, true, true, true, false, true, true, false, false, false] : Array Bool).setIfInBounds 16 true).setIfInBounds 5 true) = [13]) (rABC : Region.ready .any [o0, o1, o2, o3, o4, o5, o6, o7, o8, o9, o10, o11, o12, o13, o14, o15, o16, o17, o18].toArray ((((#[true, true, true, true, true, false, true, true, true, true, true, true, true, false, true, true, false, false, false] : Array Bool).setIfInBounds 5 true).setIfInBounds 13 true).setIfInBounds 16 true) = [17]) (rM : Region.ready .any [o0, o1, o2, o3, o4, o5, o6, o7, o8, o9, o10, o11, o12, o13, o14, o15, o16, o17, o18].toArray (((((#[true, true, true, true, true, false, true, true, true, true, true, true, true, false, true, true, false, false, false] : Array Bool).setIfInBounds 5 true).setIfInBounds 13 true).setIfInBounds 16 true).setIfInBounds 17 true) = [18]) (rE : Region.ready .any [o0, o1, o2, o3, o4, o5, o6, o7, o8, o9, o10, o11, o12, o13, o14, o15, o16, o17, o18].toArray ((((((#[true, true, true, true, true, false, true, true, true, true, true, true, true, false, true, true, false, false, false] : Array Bool).setIfInBounds 5 true).setIfInBounds 13 true).setIfInBounds 16 true).setIfInBounds 17 true).setIfInBounds 18 true) = [])
    (hQ : ∀ c a d v w, Q (.panic c) (Act.put a d v) w → Q (.panic c) a w)
    (fin : ∀ vA vB vC v' W', W'.ownsRow w.heap.size 3 1 v' (r ++ [x]).length (encL (r ++ [x])) → Below w.heap.size w W' → Q .normal (((((((((((((((((((a.put (some 29) (.pointer (some ⟨p, 0, none⟩))).put (some 30) (.pointer (some ⟨p, 0, none⟩))).put (some 31) (.pointer (some ⟨p, 2, none⟩))).put (some 32) (.slice (some ⟨bf, 0, none⟩) m fc)).put (some 33) (.int .i64 (k : Int))).put (some 35) (.pointer (some ⟨p, 0, none⟩))).put (some 36) (.pointer (some ⟨p, 0, none⟩))).put (some 37) (.pointer (some ⟨p, 2, none⟩))).put (some 38) (.slice (some ⟨bf, 0, none⟩) m fc)).put (some 39) (.int .i64 (k : Int))).put (some 40) (.pointer (some ⟨bf, k, none⟩))).put (some 41) (Value.slice va r.length vc)).put (some 43) (.pointer (some ⟨bx, 0, none⟩))).put (some 44) (.int .i64 (x : Int))).put (some 34) vA).put (some 42) vB).put (some 45) vC).put (some 46) v').put (some 47) (.pointer (some ⟨bf, k, none⟩))) (W'.setCell ⟨bf, k, none⟩ v')) :
    (Code.region id l1.toArray true).wp Try.prog Q a w := by
  obtain ⟨af, haf⟩ : ∃ af, af = ((((((((((((((a.put (some 29) (.pointer (some ⟨p, 0, none⟩))).put (some 30) (.pointer (some ⟨p, 0, none⟩))).put (some 31) (.pointer (some ⟨p, 2, none⟩))).put (some 32) (.slice (some ⟨bf, 0, none⟩) m fc)).put (some 33) (.int .i64 (k : Int))).put (some 35) (.pointer (some ⟨p, 0, none⟩))).put (some 36) (.pointer (some ⟨p, 0, none⟩))).put (some 37) (.pointer (some ⟨p, 2, none⟩))).put (some 38) (.slice (some ⟨bf, 0, none⟩) m fc)).put (some 39) (.int .i64 (k : Int))).put (some 40) (.pointer (some ⟨bf, k, none⟩))).put (some 41) (Value.slice va r.length vc)).put (some 43) (.pointer (some ⟨bx, 0, none⟩))).put (some 44) (.int .i64 (x : Int))) := ⟨_, rfl⟩
  rw [← haf] at fin
  have fsz : af.tmps.size = 48 := by rw [haf]; simp only [tput_sz]; exact hsz
  have f0 : af.tmps[0]? = some (.pointer (some ⟨p, 0, none⟩)) := by rw [haf]; rw [tput_ne (by decide), tput_ne (by decide), tput_ne (by decide), tput_ne (by decide), tput_ne (by decide), tput_ne (by decide), tput_ne (by decide), tput_ne (by decide), tput_ne (by decide), tput_ne (by decide), tput_ne (by decide), tput_ne (by decide), tput_ne (by decide), tput_ne (by decide)]; exact h0
  have f5 : af.tmps[5]? = some (.int .i64 (k : Int)) := by rw [haf]; rw [tput_ne (by decide), tput_ne (by decide), tput_ne (by decide), tput_ne (by decide), tput_ne (by decide), tput_ne (by decide), tput_ne (by decide), tput_ne (by decide), tput_ne (by decide), tput_ne (by decide), tput_ne (by decide), tput_ne (by decide), tput_ne (by decide), tput_ne (by decide)]; exact h5
  have f3 : af.tmps[3]? = some (.pointer (some ⟨bx, 0, none⟩)) := by rw [haf]; rw [tput_ne (by decide), tput_ne (by decide), tput_ne (by decide), tput_ne (by decide), tput_ne (by decide), tput_ne (by decide), tput_ne (by decide), tput_ne (by decide), tput_ne (by decide), tput_ne (by decide), tput_ne (by decide), tput_ne (by decide), tput_ne (by decide), tput_ne (by decide)]; exact h3
  have f29 : af.tmps[29]? = some (.pointer (some ⟨p, 0, none⟩)) := by rw [haf]; rw [tput_ne (by decide), tput_ne (by decide), tput_ne (by decide), tput_ne (by decide), tput_ne (by decide), tput_ne (by decide), tput_ne (by decide), tput_ne (by decide), tput_ne (by decide), tput_ne (by decide), tput_ne (by decide), tput_ne (by decide), tput_ne (by decide), tput_at (by first | (rw [hsz]; decide) | (simp only [tput_sz]; rw [hsz]; decide))]
  have f30 : af.tmps[30]? = some (.pointer (some ⟨p, 0, none⟩)) := by rw [haf]; rw [tput_ne (by decide), tput_ne (by decide), tput_ne (by decide), tput_ne (by decide), tput_ne (by decide), tput_ne (by decide), tput_ne (by decide), tput_ne (by decide), tput_ne (by decide), tput_ne (by decide), tput_ne (by decide), tput_ne (by decide), tput_at (by first | (rw [hsz]; decide) | (simp only [tput_sz]; rw [hsz]; decide))]
  have f31 : af.tmps[31]? = some (.pointer (some ⟨p, 2, none⟩)) := by rw [haf]; rw [tput_ne (by decide), tput_ne (by decide), tput_ne (by decide), tput_ne (by decide), tput_ne (by decide), tput_ne (by decide), tput_ne (by decide), tput_ne (by decide), tput_ne (by decide), tput_ne (by decide), tput_ne (by decide), tput_at (by first | (rw [hsz]; decide) | (simp only [tput_sz]; rw [hsz]; decide))]
  have f32 : af.tmps[32]? = some (.slice (some ⟨bf, 0, none⟩) m fc) := by rw [haf]; rw [tput_ne (by decide), tput_ne (by decide), tput_ne (by decide), tput_ne (by decide), tput_ne (by decide), tput_ne (by decide), tput_ne (by decide), tput_ne (by decide), tput_ne (by decide), tput_ne (by decide), tput_at (by first | (rw [hsz]; decide) | (simp only [tput_sz]; rw [hsz]; decide))]
  have f33 : af.tmps[33]? = some (.int .i64 (k : Int)) := by rw [haf]; rw [tput_ne (by decide), tput_ne (by decide), tput_ne (by decide), tput_ne (by decide), tput_ne (by decide), tput_ne (by decide), tput_ne (by decide), tput_ne (by decide), tput_ne (by decide), tput_at (by first | (rw [hsz]; decide) | (simp only [tput_sz]; rw [hsz]; decide))]
  have f35 : af.tmps[35]? = some (.pointer (some ⟨p, 0, none⟩)) := by rw [haf]; rw [tput_ne (by decide), tput_ne (by decide), tput_ne (by decide), tput_ne (by decide), tput_ne (by decide), tput_ne (by decide), tput_ne (by decide), tput_ne (by decide), tput_at (by first | (rw [hsz]; decide) | (simp only [tput_sz]; rw [hsz]; decide))]
  have f36 : af.tmps[36]? = some (.pointer (some ⟨p, 0, none⟩)) := by rw [haf]; rw [tput_ne (by decide), tput_ne (by decide), tput_ne (by decide), tput_ne (by decide), tput_ne (by decide), tput_ne (by decide), tput_ne (by decide), tput_at (by first | (rw [hsz]; decide) | (simp only [tput_sz]; rw [hsz]; decide))]
  have f37 : af.tmps[37]? = some (.pointer (some ⟨p, 2, none⟩)) := by rw [haf]; rw [tput_ne (by decide), tput_ne (by decide), tput_ne (by decide), tput_ne (by decide), tput_ne (by decide), tput_ne (by decide), tput_at (by first | (rw [hsz]; decide) | (simp only [tput_sz]; rw [hsz]; decide))]
  have f38 : af.tmps[38]? = some (.slice (some ⟨bf, 0, none⟩) m fc) := by rw [haf]; rw [tput_ne (by decide), tput_ne (by decide), tput_ne (by decide), tput_ne (by decide), tput_ne (by decide), tput_at (by first | (rw [hsz]; decide) | (simp only [tput_sz]; rw [hsz]; decide))]
  have f39 : af.tmps[39]? = some (.int .i64 (k : Int)) := by rw [haf]; rw [tput_ne (by decide), tput_ne (by decide), tput_ne (by decide), tput_ne (by decide), tput_at (by first | (rw [hsz]; decide) | (simp only [tput_sz]; rw [hsz]; decide))]
  have f40 : af.tmps[40]? = some (.pointer (some ⟨bf, k, none⟩)) := by rw [haf]; rw [tput_ne (by decide), tput_ne (by decide), tput_ne (by decide), tput_at (by first | (rw [hsz]; decide) | (simp only [tput_sz]; rw [hsz]; decide))]
  have f41 : af.tmps[41]? = some (Value.slice va r.length vc) := by rw [haf]; rw [tput_ne (by decide), tput_ne (by decide), tput_at (by first | (rw [hsz]; decide) | (simp only [tput_sz]; rw [hsz]; decide))]
  have f43 : af.tmps[43]? = some (.pointer (some ⟨bx, 0, none⟩)) := by rw [haf]; rw [tput_ne (by decide), tput_at (by first | (rw [hsz]; decide) | (simp only [tput_sz]; rw [hsz]; decide))]
  have f44 : af.tmps[44]? = some (.int .i64 (x : Int)) := by rw [haf]; rw [tput_at (by first | (rw [hsz]; decide) | (simp only [tput_sz]; rw [hsz]; decide))]
  have HS : Below w.heap.size w w.drew := (Below.refl _ _).drew
  refine wp_region_last2 hne (fun W => Below w.heap.size w W) (by kernel_rfl) hok ?_
  rw [hl1, hlast]
  have hput : putIdx af [o0, o1, o2, o3, o4, o5, o6, o7, o8, o9, o10, o11, o12, o13, o14, o15, o16, o17, o18].toArray [0, 1, 2, 3, 4, 6, 7, 8, 9, 10, 11, 12, 14, 15] a = af := by
    have e : putIdx af [o0, o1, o2, o3, o4, o5, o6, o7, o8, o9, o10, o11, o12, o13, o14, o15, o16, o17, o18].toArray [0, 1, 2, 3, 4, 6, 7, 8, 9, 10, 11, 12, 14, 15] a = ((((((((((((((a.put (some 29) (.pointer (some ⟨p, 0, none⟩))).put (some 30) (.pointer (some ⟨p, 0, none⟩))).put (some 31) (.pointer (some ⟨p, 2, none⟩))).put (some 32) (.slice (some ⟨bf, 0, none⟩) m fc)).put (some 33) (.int .i64 (k : Int))).put (some 35) (.pointer (some ⟨p, 0, none⟩))).put (some 36) (.pointer (some ⟨p, 0, none⟩))).put (some 37) (.pointer (some ⟨p, 2, none⟩))).put (some 38) (.slice (some ⟨bf, 0, none⟩) m fc)).put (some 39) (.int .i64 (k : Int))).put (some 40) (.pointer (some ⟨bf, k, none⟩))).put (some 41) (Value.slice va r.length vc)).put (some 43) (.pointer (some ⟨bx, 0, none⟩))).put (some 44) (.int .i64 (x : Int))) := by
      simp only [putIdx, List.getElem?_toArray, List.getElem?_cons_succ, List.getElem?_cons_zero, Option.bind_some, t0, t1, t2, t3, t4, t6, t7, t8, t9, t10, t11, t12, t14, t15, tgetD f29, tgetD f30, tgetD f31, tgetD f32, tgetD f33, tgetD f35, tgetD f36, tgetD f37, tgetD f38, tgetD f39, tgetD f40, tgetD f41, tgetD f43, tgetD f44]
    rw [e, haf]
  refine takes (P := Try.prog) (Q := lastQ Try.prog o19 Q) (S := fun W => Below w.heap.size w W) (idx := [0, 1, 2, 3, 4, 6, 7, 8, 9, 10, 11, 12, 14, 15]) (af := af) (fuel := 5) hns (fun c a d v w h => hQ c a d v w h) HS _ _ htk hput ?_ ?_
  · refine ⟨⟨o0, 29, _, rfl, t0, f29, ?_⟩, ⟨o1, 30, _, rfl, t1, f30, ?_⟩, ⟨o2, 31, _, rfl, t2, f31, ?_⟩, ⟨o3, 32, _, rfl, t3, f32, ?_⟩, ⟨o4, 33, _, rfl, t4, f33, ?_⟩, ⟨o6, 35, _, rfl, t6, f35, ?_⟩, ⟨o7, 36, _, rfl, t7, f36, ?_⟩, ⟨o8, 37, _, rfl, t8, f37, ?_⟩, ⟨o9, 38, _, rfl, t9, f38, ?_⟩, ⟨o10, 39, _, rfl, t10, f39, ?_⟩, ⟨o11, 40, _, rfl, t11, f40, ?_⟩, ⟨o12, 41, _, rfl, t12, f41, ?_⟩, ⟨o14, 43, _, rfl, t14, f43, ?_⟩, ⟨o15, 44, _, rfl, t15, f44, ?_⟩, trivial⟩
    · intro W hW
      have i3 : (0 : Int) ≤ (k : Int) := by omega
      have i4 : (k : Int) < (m : Int) := by omega
      have cp2 := (hW.cell (p := ⟨p, 2, none⟩) (cell_lt cp)).trans cp
      have cv2 := (hW.cell (p := ⟨bf, k, none⟩) (cell_lt cv)).trans cv
      have cb2 := (hW.cell (p := ⟨bx, 0, none⟩) (cell_lt cb)).trans cb
      clear fin haf hput htk hns hok fsz hsz hQ rn rA rC rAB rAC rCA rABC rM rE hfz h0 h5 h3 cp cv cb HS hown
      obtain ⟨d, op, ty, pos, aft, gd⟩ := o0
      simp only at p0
      subst p0
      go_simp
    · intro W hW
      have i3 : (0 : Int) ≤ (k : Int) := by omega
      have i4 : (k : Int) < (m : Int) := by omega
      have cp2 := (hW.cell (p := ⟨p, 2, none⟩) (cell_lt cp)).trans cp
      have cv2 := (hW.cell (p := ⟨bf, k, none⟩) (cell_lt cv)).trans cv
      have cb2 := (hW.cell (p := ⟨bx, 0, none⟩) (cell_lt cb)).trans cb
      clear fin haf hput htk hns hok fsz hsz hQ rn rA rC rAB rAC rCA rABC rM rE hfz h0 h5 h3 cp cv cb HS hown
      obtain ⟨d, op, ty, pos, aft, gd⟩ := o1
      simp only at p1
      subst p1
      go_simp
    · intro W hW
      have i3 : (0 : Int) ≤ (k : Int) := by omega
      have i4 : (k : Int) < (m : Int) := by omega
      have cp2 := (hW.cell (p := ⟨p, 2, none⟩) (cell_lt cp)).trans cp
      have cv2 := (hW.cell (p := ⟨bf, k, none⟩) (cell_lt cv)).trans cv
      have cb2 := (hW.cell (p := ⟨bx, 0, none⟩) (cell_lt cb)).trans cb
      clear fin haf hput htk hns hok fsz hsz hQ rn rA rC rAB rAC rCA rABC rM rE hfz h0 h5 h3 cp cv cb HS hown
      obtain ⟨d, op, ty, pos, aft, gd⟩ := o2
      simp only at p2
      subst p2
      go_simp
    · intro W hW
      have i3 : (0 : Int) ≤ (k : Int) := by omega
      have i4 : (k : Int) < (m : Int) := by omega
      have cp2 := (hW.cell (p := ⟨p, 2, none⟩) (cell_lt cp)).trans cp
      have cv2 := (hW.cell (p := ⟨bf, k, none⟩) (cell_lt cv)).trans cv
      have cb2 := (hW.cell (p := ⟨bx, 0, none⟩) (cell_lt cb)).trans cb
      clear fin haf hput htk hns hok fsz hsz hQ rn rA rC rAB rAC rCA rABC rM rE hfz h0 h5 h3 cp cv cb HS hown
      obtain ⟨d, op, ty, pos, aft, gd⟩ := o3
      simp only at p3
      subst p3
      go_simp
    · intro W hW
      have i3 : (0 : Int) ≤ (k : Int) := by omega
      have i4 : (k : Int) < (m : Int) := by omega
      have cp2 := (hW.cell (p := ⟨p, 2, none⟩) (cell_lt cp)).trans cp
      have cv2 := (hW.cell (p := ⟨bf, k, none⟩) (cell_lt cv)).trans cv
      have cb2 := (hW.cell (p := ⟨bx, 0, none⟩) (cell_lt cb)).trans cb
      clear fin haf hput htk hns hok fsz hsz hQ rn rA rC rAB rAC rCA rABC rM rE hfz h0 h5 h3 cp cv cb HS hown
      obtain ⟨d, op, ty, pos, aft, gd⟩ := o4
      simp only at p4
      subst p4
      go_simp
    · intro W hW
      have i3 : (0 : Int) ≤ (k : Int) := by omega
      have i4 : (k : Int) < (m : Int) := by omega
      have cp2 := (hW.cell (p := ⟨p, 2, none⟩) (cell_lt cp)).trans cp
      have cv2 := (hW.cell (p := ⟨bf, k, none⟩) (cell_lt cv)).trans cv
      have cb2 := (hW.cell (p := ⟨bx, 0, none⟩) (cell_lt cb)).trans cb
      clear fin haf hput htk hns hok fsz hsz hQ rn rA rC rAB rAC rCA rABC rM rE hfz h0 h5 h3 cp cv cb HS hown
      obtain ⟨d, op, ty, pos, aft, gd⟩ := o6
      simp only at p6
      subst p6
      go_simp
    · intro W hW
      have i3 : (0 : Int) ≤ (k : Int) := by omega
      have i4 : (k : Int) < (m : Int) := by omega
      have cp2 := (hW.cell (p := ⟨p, 2, none⟩) (cell_lt cp)).trans cp
      have cv2 := (hW.cell (p := ⟨bf, k, none⟩) (cell_lt cv)).trans cv
      have cb2 := (hW.cell (p := ⟨bx, 0, none⟩) (cell_lt cb)).trans cb
      clear fin haf hput htk hns hok fsz hsz hQ rn rA rC rAB rAC rCA rABC rM rE hfz h0 h5 h3 cp cv cb HS hown
      obtain ⟨d, op, ty, pos, aft, gd⟩ := o7
      simp only at p7
      subst p7
      go_simp
    · intro W hW
      have i3 : (0 : Int) ≤ (k : Int) := by omega
      have i4 : (k : Int) < (m : Int) := by omega
      have cp2 := (hW.cell (p := ⟨p, 2, none⟩) (cell_lt cp)).trans cp
      have cv2 := (hW.cell (p := ⟨bf, k, none⟩) (cell_lt cv)).trans cv
      have cb2 := (hW.cell (p := ⟨bx, 0, none⟩) (cell_lt cb)).trans cb
      clear fin haf hput htk hns hok fsz hsz hQ rn rA rC rAB rAC rCA rABC rM rE hfz h0 h5 h3 cp cv cb HS hown
      obtain ⟨d, op, ty, pos, aft, gd⟩ := o8
      simp only at p8
      subst p8
      go_simp
    · intro W hW
      have i3 : (0 : Int) ≤ (k : Int) := by omega
      have i4 : (k : Int) < (m : Int) := by omega
      have cp2 := (hW.cell (p := ⟨p, 2, none⟩) (cell_lt cp)).trans cp
      have cv2 := (hW.cell (p := ⟨bf, k, none⟩) (cell_lt cv)).trans cv
      have cb2 := (hW.cell (p := ⟨bx, 0, none⟩) (cell_lt cb)).trans cb
      clear fin haf hput htk hns hok fsz hsz hQ rn rA rC rAB rAC rCA rABC rM rE hfz h0 h5 h3 cp cv cb HS hown
      obtain ⟨d, op, ty, pos, aft, gd⟩ := o9
      simp only at p9
      subst p9
      go_simp
    · intro W hW
      have i3 : (0 : Int) ≤ (k : Int) := by omega
      have i4 : (k : Int) < (m : Int) := by omega
      have cp2 := (hW.cell (p := ⟨p, 2, none⟩) (cell_lt cp)).trans cp
      have cv2 := (hW.cell (p := ⟨bf, k, none⟩) (cell_lt cv)).trans cv
      have cb2 := (hW.cell (p := ⟨bx, 0, none⟩) (cell_lt cb)).trans cb
      clear fin haf hput htk hns hok fsz hsz hQ rn rA rC rAB rAC rCA rABC rM rE hfz h0 h5 h3 cp cv cb HS hown
      obtain ⟨d, op, ty, pos, aft, gd⟩ := o10
      simp only at p10
      subst p10
      go_simp
    · intro W hW
      have i3 : (0 : Int) ≤ (k : Int) := by omega
      have i4 : (k : Int) < (m : Int) := by omega
      have cp2 := (hW.cell (p := ⟨p, 2, none⟩) (cell_lt cp)).trans cp
      have cv2 := (hW.cell (p := ⟨bf, k, none⟩) (cell_lt cv)).trans cv
      have cb2 := (hW.cell (p := ⟨bx, 0, none⟩) (cell_lt cb)).trans cb
      clear fin haf hput htk hns hok fsz hsz hQ rn rA rC rAB rAC rCA rABC rM rE hfz h0 h5 h3 cp cv cb HS hown
      obtain ⟨d, op, ty, pos, aft, gd⟩ := o11
      simp only at p11
      subst p11
      go_simp
    · intro W hW
      have i3 : (0 : Int) ≤ (k : Int) := by omega
      have i4 : (k : Int) < (m : Int) := by omega
      have cp2 := (hW.cell (p := ⟨p, 2, none⟩) (cell_lt cp)).trans cp
      have cv2 := (hW.cell (p := ⟨bf, k, none⟩) (cell_lt cv)).trans cv
      have cb2 := (hW.cell (p := ⟨bx, 0, none⟩) (cell_lt cb)).trans cb
      clear fin haf hput htk hns hok fsz hsz hQ rn rA rC rAB rAC rCA rABC rM rE hfz h0 h5 h3 cp cv cb HS hown
      obtain ⟨d, op, ty, pos, aft, gd⟩ := o12
      simp only at p12
      subst p12
      go_simp
    · intro W hW
      have i3 : (0 : Int) ≤ (k : Int) := by omega
      have i4 : (k : Int) < (m : Int) := by omega
      have cp2 := (hW.cell (p := ⟨p, 2, none⟩) (cell_lt cp)).trans cp
      have cv2 := (hW.cell (p := ⟨bf, k, none⟩) (cell_lt cv)).trans cv
      have cb2 := (hW.cell (p := ⟨bx, 0, none⟩) (cell_lt cb)).trans cb
      clear fin haf hput htk hns hok fsz hsz hQ rn rA rC rAB rAC rCA rABC rM rE hfz h0 h5 h3 cp cv cb HS hown
      obtain ⟨d, op, ty, pos, aft, gd⟩ := o14
      simp only at p14
      subst p14
      go_simp
    · intro W hW
      have i3 : (0 : Int) ≤ (k : Int) := by omega
      have i4 : (k : Int) < (m : Int) := by omega
      have cp2 := (hW.cell (p := ⟨p, 2, none⟩) (cell_lt cp)).trans cp
      have cv2 := (hW.cell (p := ⟨bf, k, none⟩) (cell_lt cv)).trans cv
      have cb2 := (hW.cell (p := ⟨bx, 0, none⟩) (cell_lt cb)).trans cb
      clear fin haf hput htk hns hok fsz hsz hQ rn rA rC rAB rAC rCA rABC rM rE hfz h0 h5 h3 cp cv cb HS hown
      obtain ⟨d, op, ty, pos, aft, gd⟩ := o15
      simp only at p15
      subst p15
      go_simp
  have em : markIdx [0, 1, 2, 3, 4, 6, 7, 8, 9, 10, 11, 12, 14, 15] (Array.replicate [o0, o1, o2, o3, o4, o5, o6, o7, o8, o9, o10, o11, o12, o13, o14, o15, o16, o17, o18].length false) = #[true, true, true, true, true, false, true, true, true, true, true, true, true, false, true, true, false, false, false] := by kernel_rfl
  rw [em]
  refine tail_snoc (iA := 5) (iB := 13) (iC := 16) (iD := 17) (dA := 34) (dB := 42) (dC := 45) (dD := 46) (dv := 41) (dx := 44) (fuel := 1) (x := x) (r := r) (w0 := w) (oA := o5) (oB := o13) (oC := o16) (oD := o17) rfl rfl rfl rfl g5 g13 g16 g17 p5 p13 p16 p17 t5 t13 t16 t17 rn rA rC rAB rAC rCA rABC (by decide) (by decide) (by rw [fsz]; decide) f41 f44 hown (by omega) HS ?_
  intro vA vB vC vD W hW hD
  have fin2 := fin vA vB vC vD W hD hW
  obtain ⟨ad, c, rfl⟩ := own_len hD
  have n32 : ((((af.put (some 34) vA).put (some 42) vB).put (some 45) vC).put (some 46) (.slice ad (r ++ [x]).length c)).tmps[32]? = some (.slice (some ⟨bf, 0, none⟩) m fc) := by rw [tput_ne (by decide), tput_ne (by decide), tput_ne (by decide), tput_ne (by decide)]; exact f32
  have n33 : ((((af.put (some 34) vA).put (some 42) vB).put (some 45) vC).put (some 46) (.slice ad (r ++ [x]).length c)).tmps[33]? = some (.int .i64 (k : Int)) := by rw [tput_ne (by decide), tput_ne (by decide), tput_ne (by decide), tput_ne (by decide)]; exact f33
  have n46 : ((((af.put (some 34) vA).put (some 42) vB).put (some 45) vC).put (some 46) (.slice ad (r ++ [x]).length c)).tmps[46]? = some (.slice ad (r ++ [x]).length c) := tput_at (by rw [tput_sz, tput_sz, tput_sz, fsz]; decide)
  have nsz : ((((af.put (some 34) vA).put (some 42) vB).put (some 45) vC).put (some 46) (.slice ad (r ++ [x]).length c)).tmps.size = 48 := by rw [tput_sz, tput_sz, tput_sz, tput_sz, fsz]
  generalize (((af.put (some 34) vA).put (some 42) vB).put (some 45) vC).put (some 46) (.slice ad (r ++ [x]).length c) = b3 at *
  refine qfin_store (iM := 18) (dl := 32) (dk := 33) (dM := 47) (dD := 46) (b := bf) (m := m) (cM := fc) (k := k) (oM := o18) (oL := o19) (ad := ad) (l := (r ++ [x]).length) (c := c) (fuel := 0) rfl rM rE g18 p18 t18 p19 t19 n32 n33 hkm n46 ((hW.cell (p := ⟨bf, k, none⟩) (cell_lt cv)).trans cv) (hfz W hW) (by decide) (by rw [nsz]; decide) hW ?_
  exact fin2

end Go.Proofs.Ytobpignlamekmaa
