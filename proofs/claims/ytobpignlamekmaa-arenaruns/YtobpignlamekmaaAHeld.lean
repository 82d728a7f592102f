/- What Held tells to the statements' own yield. -/
import Derived.Test.YtobpignlamekmaaANames2
namespace Go.Proofs.Ytobpignlamekmaa
open Go.RowKit Go.Shelf Go.Sort
set_option maxRecDepth 100000

theorem Try.infoApiSlot : (Try.prog.info? 36).map (fun i => (i.zero, i.size, i.bytes)) = some (some (.agg #[.int .i64 0, .int .u64 0]), 2, 16) := by kernel_rfl
theorem own_low {w : World} {base base' e size n : Nat} {v : Value} {xs : List Value} (h : w.ownsRow base e size v n xs) (hb : base' ≤ base) : w.ownsRow base' e size v n xs := by
  refine ⟨h.1, ?_⟩
  rcases h.2 with hn | ⟨g, cap, cur, e, hb', rest⟩
  · exact .inl hn
  · exact .inr ⟨g, cap, cur, e, Nat.le_trans hb hb', rest⟩
theorem below_new' (W : World) (x : Obj) : Below W.heap.size W (W.alloc x) := (Below.refl _ W).alloc (Nat.le_refl _) _
theorem names_bad (o : Po) (h : Sh) (d : Da) (x : Int) (w : World) (a : Ax w o h d) (hx : inR h.P x = false) :
    Calls Try.prog 55 #[o.ptr, .int .i64 x] w fun e w' => e = .returned (.slice none 0 0) ∧ Below w.heap.size w w' := by
  have hb1 : Below w.heap.size w ((w.alloc (.cells #[o.ptr] 26)).alloc (.cells #[.slice none 0 0] 45)) := ((Below.refl _ w).alloc (Nat.le_refl _) _).alloc (by simp) _
  have hc := known_a o h d x _ (a.below hb1)
  rw [show knE h x = 5 by simp [knE, hx]] at hc
  clear a
  generalize hW : (w.alloc (.cells #[o.ptr] 26)).alloc (.cells #[.slice none 0 0] 45) = W1 at *
  have bL := Boxed.new (w.alloc (.cells #[o.ptr] 26)) 45 (.slice none 0 0)
  rw [World.size_alloc, hW] at bL
  have bA := (Boxed.new w 26 o.ptr).alloc (.cells #[.slice none 0 0] 45)
  rw [hW] at bA
  have c1 := bL.cell
  have c2 := bA.cell
  go_enter Try.func55, Try.ntmps55
  go_wp2_with fail
  refine hc.mono ?_
  rintro e w2 ⟨rfl, e2⟩
  subst e2
  go_wp2_with fail
  go_ret
  exact ⟨rfl, hb1⟩

/-- any name's row -/
theorem names_any (o : Po) (h : Sh) (d : Da) (x : Int) (w : World) (a : Ax w o h d) :
    Calls Try.prog 55 #[o.ptr, .int .i64 x] w fun e w' => ∃ v, e = .returned v ∧ w'.ownsRow w.heap.size 36 2 v (heldL h d x).length (encP (heldL h d x)) ∧ Below w.heap.size w w' := by
  cases hh : inR h.P x
  · refine (names_bad o h d x w a hh).mono ?_
    rintro e w' ⟨rfl, hb⟩
    refine ⟨_, rfl, ?_, hb⟩
    rw [show heldL h d x = [] by simp [heldL, hh]]
    exact World.ownsRow_nil _ _ _ _
  · obtain ⟨k, rfl, hk⟩ := inR_nat hh
    exact names_a o h d k w a hk

set_option maxHeartbeats 1000000 in
theorem heldF_any (v : Value) (x : Int) (hv : v = .pointer none ∨ ∃ a, v = .pointer (some a)) (w : World) :
    Calls Try.prog 39 #[v, .int .i64 x] w fun e w' => e = .returned (.func (.func 54) #[] #[.pointer (some ⟨w.heap.size, 0, none⟩), .pointer (some ⟨w.heap.size + 1, 0, none⟩)]) ∧ w' = (w.alloc (.cells #[v] 26)).alloc (.cells #[.int .i64 x] 3) := by
  obtain rfl | ⟨a, rfl⟩ := hv
  all_goals
    go_enter Try.func39, Try.ntmps39
    go_wp2_with fail
    go_ret
    exact ⟨rfl, rfl⟩

set_option maxHeartbeats 2000000 in
/-- the statements' yield: one more, and may it go on? -/
theorem held1_k (base Bl Bm : Nat) (l : List (Nat × Int)) (v : Value) (most : Int) (n : Nat) (g : Int) (w : World) (hl : l.length ≤ 100000) (hbs : base ≤ w.heap.size) (hv : Boxed w Bl 45 v) (hm : Boxed w Bm 3 (.int .i64 most)) (hne : Bl ≠ Bm) (hrow : w.ownsRow base 36 2 v l.length (encP l)) :
    Calls Try.prog 40 #[.agg #[.int .i64 (n : Int), .int .u64 g], .pointer (some ⟨Bl, 0, none⟩), .pointer (some ⟨Bm, 0, none⟩)] w fun e w' => e = .returned (.bool (decide ((l.length : Int) + 1 < most))) ∧ ∃ v', Boxed w' Bl 45 v' ∧ w'.ownsRow base 36 2 v' (l ++ [(n, g)]).length (encP (l ++ [(n, g)])) ∧ Boxed w' Bm 3 (.int .i64 most) ∧ But (fun b => b = Bl ∨ base ≤ b) w w' := by
  obtain ⟨i0, hi, hz0, hz1, hz2⟩ := info_parts Try.infoApiSlot
  have hbx := (Below.refl w.heap.size w).alloc (Nat.le_refl _) (.cells #[.int .i64 (n : Int), .int .u64 g] 36)
  obtain ⟨c0, c1, _⟩ := box2 (w := w) (x := .int .i64 (n : Int)) (y := .int .u64 g) (T := 36) (Below.refl _ _)
  obtain ⟨W, hW⟩ : ∃ W, w.alloc (.cells #[.int .i64 (n : Int), .int .u64 g] 36) = W := ⟨_, rfl⟩
  rw [hW] at hbx c0 c1
  have hv1 := aboxed_below hv hbx
  have hm1 := aboxed_below hm hbx
  have hr1 := aown_below hrow hbx
  have hcl := hv1.cell
  have hs1 := hbx.size
  obtain ⟨va, vl, vc, rfl⟩ : ∃ va vl vc, v = .slice va vl vc := by
    rcases hrow.2 with ⟨rfl, _⟩ | ⟨g, cap, cur, rfl, _⟩
    · exact ⟨_, _, _, rfl⟩
    · exact ⟨_, _, _, rfl⟩
  have HR1 : Hid (World.ownsRow _ _ _ _ _ _ _) := hr1
  clear hv hm hrow
  go_enter Try.func40, Try.ntmps40
  go_wp2_with (at_builtin; refine wpList_append_own _ rfl _ _ 45 rfl base 36 i0 (.agg #[.int .i64 0, .int .u64 0]) 2 16 Try.underlying45 hi hz0 hz1 hz2 rfl (by decide) _ _ _ rfl (hr1.alloc _) ⟨W.heap.size, 0, none⟩ 1 1 [.int .i64 (n : Int), .int .u64 g] rfl rfl (two_new _ _ _ _) (by simp [Value.oneCell']) (by unfold maxLen; omega) (by omega) (by simp; omega) ?_; intro v' w3 hown' hgrow _; obtain ⟨g', cap', rfl⟩ := ownsRow_succ hown'; have hgr2 : World.grownBy _ w3 (Value.ownBlock (.slice va vl vc)) := hgrow; have hv2 := (hv1.alloc _).kept hgr2 (hv1.not_row (by decide) hr1); have hv3 := hv2.set (.slice (some ⟨g', 0, none⟩) (l.length + 1) cap'); have hr3 := hown'.kept (grownBy_setCell' w3 Bl (.slice (some ⟨g', 0, none⟩) (l.length + 1) cap')) (.inr (hv2.not_row (by decide) hown').symm); have hm3 := ((hm1.alloc _).kept hgr2 (hm1.not_row (by decide) hr1)).kept (grownBy_setCell' w3 Bl (.slice (some ⟨g', 0, none⟩) (l.length + 1) cap')) (by simp; omega); have hc1 := hv2.cell; have hf1 := hv2.frozen; have hc3 := hv3.cell; have hc4 := hm3.cell)
  go_ret
  refine ⟨rfl, _, hv3, ?_, hm3, ?_⟩
  · rw [encP_snoc, List.length_append]; exact hr3
  · have b1 : But (fun b => b = Bl ∨ base ≤ b) w W := But.of hbx
    have b2 := b1.alloc (.cells #[.int .i64 (n : Int), .int .u64 g] 36)
    have b3 : But (fun b => b = Bl ∨ base ≤ b) w w3 := b2.trans ⟨hgr2.os, hgr2.tape, hgr2.output, hgr2.size, fun k hk hs => hgr2.block k hk fun e => hs (.inr (HR1.out.lt k e.symm).1)⟩
    exact b3.setCell (p := ⟨Bl, 0, none⟩) (.inl rfl) _

theorem eql_held1_nil (x y : Value) (w : World) : Sem.run Try.prog (binOp BinOp.eql 88 (Value.func (.func 40) #[] #[x, y]) Value.nilFunc) w = .ok (.bool false) w := by kernel_rfl
theorem eql_heldF_nil (x y : Value) (w : World) : Sem.run Try.prog (binOp BinOp.eql 86 (Value.func (.func 54) #[] #[x, y]) Value.nilFunc) w = .ok (.bool false) w := by kernel_rfl
theorem encP_at {l : List (Nat × Int)} {j : Nat} (hj : j < l.length) : (encP l)[j * 2]? = some (.int .i64 (l[j].1 : Int)) ∧ (encP l)[j * 2 + 1]? = some (.int .u64 l[j].2) := by
  induction l generalizing j with
  | nil => simp at hj
  | cons x l ih =>
    cases j with
    | zero => exact ⟨rfl, rfl⟩
    | succ j =>
      have hj' : j < l.length := by simpa using hj
      have := ih hj'
      simp only [encP, List.getElem_cons_succ]
      rw [show (j + 1) * 2 = j * 2 + 1 + 1 by omega, show j * 2 + 1 + 1 + 1 = (j * 2 + 1) + 1 + 1 by omega]
      simp only [List.getElem?_cons_succ]
      exact this
/-- the cells of a row of names -/
theorem pcells {w : World} {base : Nat} {v : Value} {l : List (Nat × Int)} (h : w.ownsRow base 36 2 v l.length (encP l)) : ∃ a cap, v = .slice a l.length cap ∧ ∀ j (hj : j < l.length), ∃ b, a = some ⟨b, 0, none⟩ ∧ w.cell? ⟨b, j * 2, none⟩ = some (.int .i64 (l[j].1 : Int)) ∧ w.cell? ⟨b, j * 2 + 1, none⟩ = some (.int .u64 l[j].2) := by
  rcases h.2 with ⟨rfl, e0⟩ | ⟨g, cap, cur, rfl, hb, hg, hcap, hml, hsz, htk⟩
  · exact ⟨none, 0, by rw [e0], fun j hj => by omega⟩
  · refine ⟨_, _, rfl, fun j hj => ⟨g, rfl, ?_, ?_⟩⟩
    · rw [cell_of_row _ _ _ _ _ (0, 0) hg, ← (encP_at hj).1, ← htk, List.getElem?_take_of_lt (by omega)]; simp
    · rw [cell_of_row _ _ _ _ _ (0, 0) hg, ← (encP_at hj).2, ← htk, List.getElem?_take_of_lt (by omega)]; simp

set_option maxHeartbeats 4000000 in
theorem heldR_k (o : Po) (h : Sh) (d : Da) (x most : Int) (Ba Bp Bl Bm : Nat) (w : World) (a : Ax w o h d) (hmost : 1 ≤ most) (ba : Boxed w Ba 26 o.ptr) (bp : Boxed w Bp 3 (.int .i64 x)) (bl : Boxed w Bl 45 (.slice none 0 0)) (bm : Boxed w Bm 3 (.int .i64 most)) (hne : Bl ≠ Bm) :
    Calls Try.prog 54 #[.func (.func 40) #[] #[.pointer (some ⟨Bl, 0, none⟩), .pointer (some ⟨Bm, 0, none⟩)], .pointer (some ⟨Ba, 0, none⟩), .pointer (some ⟨Bp, 0, none⟩)] w fun e w' => e = .returned (.tuple #[]) ∧ ∃ v', Boxed w' Bl 45 v' ∧ w'.ownsRow w.heap.size 36 2 v' ((heldL h d x).take most.toNat).length (encP ((heldL h d x).take most.toNat)) ∧ But (fun b => b = Bl) w w' := by
  have hnil := fun w => eql_held1_nil (.pointer (some ⟨Bl, 0, none⟩)) (.pointer (some ⟨Bm, 0, none⟩)) w
  have hnm := names_any o h d x w a
  have hlen : (heldL h d x).length ≤ 256 := by
    unfold heldL
    split
    · rename_i hh
      obtain ⟨k, rfl, hk⟩ := inR_nat hh
      refine Nat.le_trans (hlOf_len h d _) ?_
      rw [List.length_map, List.length_range]
      exact a.sh.s256 k hk
    · simp
  have c1 := ba.cell
  have c2 := bp.cell
  generalize heldL h d x = L at *
  clear a
  go_enter Try.func54, Try.ntmps54
  go_wp2_with fail
  refine hnm.mono ?_
  rintro e w2 ⟨v, rfl, hrow, hb2⟩
  obtain ⟨va, vc, rfl, hcells⟩ := pcells hrow
  have HC : Hid (∀ j (hj : j < L.length), ∃ b, va = some ⟨b, 0, none⟩ ∧ w2.cell? ⟨b, j * 2, none⟩ = some (.int .i64 (L[j].1 : Int)) ∧ w2.cell? ⟨b, j * 2 + 1, none⟩ = some (.int .u64 L[j].2)) := hcells
  have bl2 := aboxed_below bl hb2
  have bm2 := aboxed_below bm hb2
  have HLb : Hid (Bl < w.heap.size) := bl.lt
  have hsz2 := hb2.size
  have HNR : Hid (∀ b, va = some ⟨b, 0, none⟩ → b ≠ Bl) := fun b e e2 => by
    have h1 := bl2
    rcases hrow.2 with ⟨e3, _⟩ | ⟨g, cap, cur, e3, _, hg, _⟩
    · injection e3 with e4; rw [e] at e4; cases e4
    · injection e3 with e4; rw [e] at e4
      have e5 : b = g := by injection e4 with e6; injection e6
      rw [e5] at e2
      rw [e2] at hg
      rw [show w2.heap[Bl]? = _ from h1] at hg
      cases hg
  clear hnil hnm c1 c2 hcells hrow ba bp bl bm
  go_wp2_with fail
  go_loopw [12] (fun vi wr => ∃ j : Nat, j ≤ L.length ∧ ((j : Int) < most) ∧ vi = .int .i64 j ∧ Hid ((∃ v', Boxed wr Bl 45 v' ∧ wr.ownsRow w2.heap.size 36 2 v' (L.take j).length (encP (L.take j))) ∧ Boxed wr Bm 3 (.int .i64 most) ∧ But (fun b => b = Bl ∨ w2.heap.size ≤ b) w2 wr)) (fun vi _ => L.length - (intOf vi).toNat)
  case atStart => exact ⟨0, by omega, by omega, rfl, ⟨_, bl2, World.ownsRow_nil _ _ _ _⟩, bm2, But.refl _ _⟩
  case round =>
    obtain ⟨j, hj, hjm, rfl, HR⟩ := hrel
    by_cases hlt : j < L.length
    · obtain ⟨b, rfl, q0, q1⟩ := HC.out j hlt
      obtain ⟨⟨v', hv', hr'⟩, hm', hbt⟩ := HR.out
      have hbn := HNR.out b rfl
      have hlb := cell_lt q0
      have s0 := hbt.cell q0 (by rintro (e | e); exact hbn e; omega)
      have s1 := hbt.cell q1 (by rintro (e | e); exact hbn e; omega)
      have hbx := below_new' wr (.cells #[.int .i64 (L[j].1 : Int), .int .u64 L[j].2] 36)
      obtain ⟨t0, t1, _⟩ := box2 (w := wr) (x := .int .i64 (L[j].1 : Int)) (y := .int .u64 L[j].2) (T := 36) (Below.refl _ _)
      have htl : (L.take j).length = j := by rw [List.length_take]; omega
      have hcall := held1_k w2.heap.size Bl Bm (L.take j) v' most L[j].1 L[j].2 _ (by omega) (Nat.le_trans hbt.size hbx.size) (aboxed_below hv' hbx) (aboxed_below hm' hbx) hne (aown_below hr' hbx)
      rw [htl] at hcall
      have HBT : Hid (But (fun b => b = Bl ∨ w2.heap.size ≤ b) w2 (wr.alloc (.cells #[.int .i64 (L[j].1 : Int), .int .u64 L[j].2] 36))) := hbt.alloc _
      have HTK : Hid (L.take (j + 1) = L.take j ++ [(L[j].1, L[j].2)]) := by show _ = _; rw [List.take_succ_eq_append_getElem hlt]
      clear hv' hr' hm' hbt HR q0 q1 htl hbx
      generalize (L[j].1 : Int) = yn at *
      generalize L[j].2 = yg at *
      by_cases hgo : (j : Int) + 1 < most
      · rw [show decide ((j : Int) + 1 < most) = true from decide_eq_true hgo] at hcall
        go_wp2_with fail
        refine hcall.mono ?_
        rintro e w4 ⟨rfl, v4, hv4, hr4, hm4, hb4⟩
        have H4 : Hid ((∃ v', Boxed w4 Bl 45 v' ∧ w4.ownsRow w2.heap.size 36 2 v' (L.take (j + 1)).length (encP (L.take (j + 1)))) ∧ Boxed w4 Bm 3 (.int .i64 most) ∧ But (fun b => b = Bl ∨ w2.heap.size ≤ b) w2 w4) := ⟨⟨v4, hv4, by rw [HTK.out]; exact hr4⟩, hm4, HBT.out.trans hb4⟩
        clear hcall hv4 hr4 hm4 hb4 s0 s1 t0 t1
        go_wp2_with fail
        go_roundw
        case rel => exact ⟨j + 1, by omega, by omega, by go_num, H4.out⟩
        case measure => simp [intOf]; omega
      · rw [show decide ((j : Int) + 1 < most) = false from decide_eq_false hgo] at hcall
        go_wp2_with fail
        refine hcall.mono ?_
        rintro e w4 ⟨rfl, v4, hv4, hr4, hm4, hb4⟩
        have B4 := HBT.out.trans hb4
        have et : most.toNat = j + 1 := by omega
        have H4 : Hid (∃ v', Boxed w4 Bl 45 v' ∧ w4.ownsRow w.heap.size 36 2 v' (L.take most.toNat).length (encP (L.take most.toNat))) := ⟨v4, hv4, by rw [et, HTK.out]; exact own_low hr4 hsz2⟩
        clear hcall hv4 hr4 hm4 hb4 s0 s1 t0 t1 et
        go_wp2_with fail
        refine bodyPost_ret (results_none rfl _ _ _) rfl ?_
        obtain ⟨v', k1, k2⟩ := H4.out
        exact ⟨rfl, v', k1, k2, (But.of hb2).onto B4 (fun b hb => hb.elim (fun e => .inl e) (fun e => .inr (by omega)))⟩
    · obtain rfl : j = L.length := by omega
      obtain ⟨⟨v', hv', hr'⟩, hm', hbt⟩ := HR.out
      have et : L.take most.toNat = L := List.take_of_length_le (by omega)
      have et2 : L.take L.length = L := List.take_length
      rw [et2] at hr'
      have H4 : Hid (∃ v', Boxed wr Bl 45 v' ∧ wr.ownsRow w.heap.size 36 2 v' (L.take most.toNat).length (encP (L.take most.toNat))) := ⟨v', hv', by rw [et]; exact own_low hr' hsz2⟩
      clear HR hv' hr' hm' et et2
      go_wp2_with fail
      refine bodyPost_end (results_none rfl _ _ _) rfl ?_
      obtain ⟨v', k1, k2⟩ := H4.out
      exact ⟨rfl, v', k1, k2, (But.of hb2).onto hbt (fun b hb => hb.elim (fun e => .inl e) (fun e => .inr (by omega)))⟩

set_option maxHeartbeats 4000000 in
theorem held_k (o : Po) (h : Sh) (d : Da) (x most : Int) (w : World) (a : Ax w o h d) (hmost : 1 ≤ most) :
    Calls Try.prog 19 #[o.ptr, .int .i64 x, .int .i64 most] w fun e w' => ∃ v, e = .returned (.tuple #[v, .bool true]) ∧ w'.ownsRow w.heap.size 36 2 v ((heldL h d x).take most.toNat).length (encP ((heldL h d x).take most.toNat)) ∧ Below w.heap.size w w' := by
  have hnil := fun x y w => eql_heldF_nil x y w
  have HA : Hid (Ax w o h d) := a
  have hb1 := below_new' w (.cells #[.int .i64 most] 3)
  have bm := Boxed.new w 3 (.int .i64 most)
  have hf := heldF_any o.ptr x (.inr ⟨_, rfl⟩) (w.alloc (.cells #[.int .i64 most] 3))
  clear a
  generalize hW1 : w.alloc (.cells #[.int .i64 most] 3) = W1 at *
  have hs1 : W1.heap.size = w.heap.size + 1 := by rw [← hW1]; simp
  have HS1 : Hid (W1.heap.size = w.heap.size + 1) := hs1
  clear hs1
  go_enter Try.func19, Try.ntmps19
  go_wp2_with fail
  refine hf.mono ?_
  rintro e w2 ⟨rfl, e2⟩
  have ba : Boxed w2 W1.heap.size 26 o.ptr := by rw [e2]; exact (Boxed.new W1 26 o.ptr).alloc _
  have bp : Boxed w2 (W1.heap.size + 1) 3 (.int .i64 x) := by
    rw [e2]
    have := Boxed.new (W1.alloc (.cells #[o.ptr] 26)) 3 (.int .i64 x)
    rwa [World.size_alloc] at this
  have hb2 : Below W1.heap.size W1 w2 := by rw [e2]; exact ((Below.refl _ W1).alloc (Nat.le_refl _) _).alloc (by simp) _
  have bm2 := aboxed_below bm hb2
  have B2 := Below.onto hb1 hb2
  have hs2 : w2.heap.size = W1.heap.size + 1 + 1 := by rw [e2]; simp
  have HS2 : Hid (w2.heap.size = W1.heap.size + 1 + 1) := hs2
  clear hf e2 hs2
  go_wp2_with fail
  have hb3 := below_new' w2 (.cells #[.slice none 0 0] 45)
  have bl := Boxed.new w2 45 (.slice none 0 0)
  have hcall := heldR_k o h d x most W1.heap.size (W1.heap.size + 1) w2.heap.size w.heap.size _ ((HA.out.below B2).below hb3) hmost (aboxed_below ba hb3) (aboxed_below bp hb3) bl (aboxed_below bm2 hb3) (by have := HS1.out; have := HS2.out; omega)
  have B3 := Below.onto B2 hb3
  have hlw : w.heap.size ≤ w2.heap.size := B2.size
  refine hcall.mono ?_
  rintro e w4 ⟨rfl, v', hv', hr', hbt⟩
  have B4 : Below w.heap.size w w4 := B3.trans (hbt.below B3.size (fun k e => by omega))
  have hc' := hv'.cell
  have HR : Hid (World.ownsRow _ _ _ _ _ _ _) := own_low hr' B3.size
  clear hcall hr' hbt
  go_wp2_with fail
  go_ret2
  exact ⟨v', rfl, HR.out, B4⟩
end Go.Proofs.Ytobpignlamekmaa
