/- Rows of records merged by an agenda: what is kept from round to round. -/
import Derived.Test.YtcfmbppnghlkaaaYLess
import Derived.Test.YtcfmbppnghlkaaaFEach
import Derived.Test.YtcfmbppnghlkaaaGRows
import Derived.Maps.AppendAt
namespace Go.Proofs.Ytcfmbppnghlkaaa
open Go.RowKit Go.Sort
set_option maxRecDepth 100000

theorem infoRc : (Try.prog.info? 38).map (fun i => (i.zero, i.size, i.bytes)) = some (some (recV rec0), 4, 32) := by kernel_rfl
/-- one record more to a row of one's own -/
theorem ysnoc (base : Nat) (v : Value) (n : Nat) (xs : List Value) (r : Rc) (w : World) (hv : w.ownsRow base 38 4 v n xs) (hn : n ≤ 900000) (hb : base ≤ w.heap.size) :
    ∃ v' w', (Builtin.append_ #[23, 23] 23 #[v, .slice (some ⟨w.heap.size, 0, none⟩) 1 1]).run Try.prog (w.alloc (.cells (encR r).toArray 38)) = .ok v' w' ∧ w'.ownsRow base 38 4 v' (n + 1) (xs ++ encR r) ∧ (w.alloc (.cells (encR r).toArray 38)).grownBy w' v.ownBlock ∧ (v'.ownBlock = v.ownBlock ∨ v'.ownBlock = some (w.heap.size + 1)) := by
  obtain ⟨i0, hi, hz0, hz1, hz2⟩ := info_parts infoRc
  have HE : ∀ j u, (encR r)[j]? = some u → (w.alloc (.cells (encR r).toArray 38)).cell? ((⟨w.heap.size, 0, none⟩ : Addr).add j) = some u := by
    intro j u hj
    rw [Go.WideShapes.add_plain, Nat.zero_add]
    exact (blk_new w (encR r) _).cell hj
  obtain ⟨v', w3, hrun, hown, hgrow, _, hloc⟩ := run_append_own_at (P := Try.prog) (w := w.alloc (.cells (encR r).toArray 38)) base 23 23 38 i0 (recV rec0) 4 32 Try.underlying23 hi hz0 hz1 hz2 rfl (by decide) v n xs (hv.alloc _) ⟨w.heap.size, 0, none⟩ 1 1 (encR r) rfl HE (by rw [← encRs_one]; exact encRs_one1 _) (by unfold maxLen; omega) (by omega) (by rw [World.size_alloc]; omega)
  refine ⟨v', w3, hrun, hown, hgrow, ?_⟩
  rw [World.size_alloc] at hloc
  exact hloc

/-- one record more to a row of one's own -/
theorem ysnocR (base : Nat) (v : Value) (n : Nat) (xs : List Value) (r : Rc) (w : World) (hv : w.ownsRow base 38 4 v n xs) (hn : n ≤ 900000) (hb : base ≤ w.heap.size) :
    ∃ v' w', (Builtin.append_ #[61, 61] 61 #[v, .slice (some ⟨w.heap.size, 0, none⟩) 1 1]).run Try.prog (w.alloc (.cells (encR r).toArray 38)) = .ok v' w' ∧ w'.ownsRow base 38 4 v' (n + 1) (xs ++ encR r) ∧ (w.alloc (.cells (encR r).toArray 38)).grownBy w' v.ownBlock ∧ (v'.ownBlock = v.ownBlock ∨ v'.ownBlock = some (w.heap.size + 1)) := by
  obtain ⟨i0, hi, hz0, hz1, hz2⟩ := info_parts infoRc
  have HE : ∀ j u, (encR r)[j]? = some u → (w.alloc (.cells (encR r).toArray 38)).cell? ((⟨w.heap.size, 0, none⟩ : Addr).add j) = some u := by
    intro j u hj
    rw [Go.WideShapes.add_plain, Nat.zero_add]
    exact (blk_new w (encR r) _).cell hj
  obtain ⟨v', w3, hrun, hown, hgrow, _, hloc⟩ := run_append_own_at (P := Try.prog) (w := w.alloc (.cells (encR r).toArray 38)) base 61 61 38 i0 (recV rec0) 4 32 Try.underlying61 hi hz0 hz1 hz2 rfl (by decide) v n xs (hv.alloc _) ⟨w.heap.size, 0, none⟩ 1 1 (encR r) rfl HE (by rw [← encRs_one]; exact encRs_one1 _) (by unfold maxLen; omega) (by omega) (by rw [World.size_alloc]; omega)
  refine ⟨v', w3, hrun, hown, hgrow, ?_⟩
  rw [World.size_alloc] at hloc
  exact hloc

theorem Ag.j {l : Le} {w : World} {p : Nat} {D : List En} {last : Nat} {Y : Nat → Prop} (a : Ag l w p D last Y) : l.J w := by
  obtain ⟨_, o, A, x, _⟩ := a
  exact x.j
abbrev mY (N1 N2 N3 LB : Nat) (v : Value) : Nat → Prop := fun b => b = N1 ∨ b = N2 ∨ b = N3 ∨ b = LB ∨ b = LB + 1 ∨ v.ownBlock = some b
/-- where merged's own things lie -/
structure Md (f : Fam) (w0 W : World) (p N1 N2 N3 LB : Nat) (X : Obj) (D : List En) (last : Nat) (v : Value) (l : List Rc) : Prop where
  ag : Ag (leY f w0) W p D last (mY N1 N2 N3 LB v)
  b1 : Blk W N1 82 [ptr p]
  b2 : Blk W N2 23 [v]
  b3 : Blk W N3 97 [.func (.func 57) #[ptr p] #[]]
  df : W.heap[LB]? = some (.deferred (some []))
  lp : W.heap[LB + 1]? = some X
  ow : W.ownsRow w0.heap.size 38 4 v l.length (encRs l)
  xc : X.isCells = false
  z : l = [] → v = .slice none 0 0
section
variable {f : Fam} {w0 W W' : World} {p N1 N2 N3 LB : Nat} {X X' : Obj} {D D' : List En} {last last' : Nat} {v v' : Value} {l : List Rc}
theorem Md.j (m : Md f w0 W p N1 N2 N3 LB X D last v l) : Below w0.heap.size w0 W := m.ag.j
theorem Md.els (m : Md f w0 W p N1 N2 N3 LB X D last v l) (h : But (Els (mY N1 N2 N3 LB v)) W W') (a : Ag (leY f w0) W' p D' last' (mY N1 N2 N3 LB v)) : Md f w0 W' p N1 N2 N3 LB X D' last' v l :=
  ⟨a, m.b1.but h (fun hs => hs (.inl rfl)), m.b2.but h (fun hs => hs (.inr (.inl rfl))), m.b3.but h (fun hs => hs (.inr (.inr (.inl rfl)))), (h.block _ (Array.getElem?_eq_some_iff.1 m.df).1 (fun hs => hs (.inr (.inr (.inr (.inl rfl)))))).trans m.df, (h.block _ (Array.getElem?_eq_some_iff.1 m.lp).1 (fun hs => hs (.inr (.inr (.inr (.inr (.inl rfl))))))).trans m.lp, eown_block m.ow fun b hb => h.block b (m.ow.lt b hb).2 (fun hs => hs (.inr (.inr (.inr (.inr (.inr hb)))))), m.xc, m.z⟩
theorem Md.below (m : Md f w0 W p N1 N2 N3 LB X D last v l) (h : Below W.heap.size W W') : Md f w0 W' p N1 N2 N3 LB X D last v l := m.els (But.of h) (m.ag.below h)
theorem own_cells {base n : Nat} {e : TypeId} {size : Nat} {xs : List Value} (h : W.ownsRow base e size v n xs) {b : Nat} (hb : v.ownBlock = some b) : ∃ cur, W.heap[b]? = some (.cells cur e (0, 0)) := by
  rcases h.2 with ⟨rfl, _⟩ | ⟨g, cap, cur, rfl, _, hg, _⟩
  · cases hb
  · simp [Value.ownBlock] at hb; subst hb; exact ⟨cur, hg⟩
/-- they lie apart -/
theorem Md.ne (m : Md f w0 W p N1 N2 N3 LB X D last v l) : N2 ≠ N1 ∧ N2 ≠ N3 ∧ N2 ≠ LB ∧ N2 ≠ LB + 1 ∧ N1 ≠ LB + 1 ∧ N3 ≠ LB + 1 ∧ v.ownBlock ≠ some N1 ∧ v.ownBlock ≠ some N2 ∧ v.ownBlock ≠ some N3 ∧ v.ownBlock ≠ some LB ∧ v.ownBlock ≠ some (LB + 1) := by
  have h1 : W.heap[N1]? = _ := m.b1
  have h2 : W.heap[N2]? = _ := m.b2
  have h3 : W.heap[N3]? = _ := m.b3
  have h4 := m.df
  have h5 := m.lp
  have h6 := m.xc
  refine ⟨fun e => ?_, fun e => ?_, fun e => ?_, fun e => ?_, fun e => ?_, fun e => ?_, fun e => ?_, fun e => ?_, fun e => ?_, fun e => ?_, fun e => ?_⟩
  · rw [e, h1] at h2; injection h2 with h2; injection h2 with _ h2; cases h2
  · rw [e, h3] at h2; injection h2 with h2; injection h2 with _ h2; cases h2
  · rw [e, h4] at h2; cases h2
  · rw [e, h5] at h2; injection h2 with h2; rw [h2] at h6; cases h6
  · rw [e, h5] at h1; injection h1 with h1; rw [h1] at h6; cases h6
  · rw [e, h5] at h3; injection h3 with h3; rw [h3] at h6; cases h6
  · obtain ⟨cur, h⟩ := own_cells m.ow e; rw [h] at h1; injection h1 with h1; injection h1 with _ h1; cases h1
  · obtain ⟨cur, h⟩ := own_cells m.ow e; rw [h] at h2; injection h2 with h2; injection h2 with _ h2; cases h2
  · obtain ⟨cur, h⟩ := own_cells m.ow e; rw [h] at h3; injection h3 with h3; injection h3 with _ h3; cases h3
  · obtain ⟨cur, h⟩ := own_cells m.ow e; rw [h] at h4; cases h4
  · obtain ⟨cur, h⟩ := own_cells m.ow e; rw [h] at h5; injection h5 with h5; rw [← h5] at h6; cases h6
/-- the loop's own object is changed -/
theorem Md.loop (m : Md f w0 W p N1 N2 N3 LB X D last v l) (h : But (fun b => b = LB + 1) W W') (hx : W'.heap[LB + 1]? = some X') (hc : X'.isCells = false) : Md f w0 W' p N1 N2 N3 LB X' D last v l := by
  obtain ⟨n1, n2, n3, n4, n5, n6, n7, n8, n9, n10, n11⟩ := m.ne
  exact ⟨m.ag.but h (fun b hb => .inr (.inr (.inr (.inr (.inl hb))))), m.b1.but h n5, m.b2.but h n4, m.b3.but h n6, (h.block _ (Array.getElem?_eq_some_iff.1 m.df).1 (by omega)).trans m.df, hx, eown_block m.ow fun b hb => h.block b (m.ow.lt b hb).2 (fun e => n11 (e ▸ hb)), hc, m.z⟩
theorem Ag.grow {le : Le} {S Y : Nat → Prop} (a : Ag le W p D last Y) (h : But S W W') (hS : ∀ b, S b → Y b) : Ag le W' p D last (fun b => Y b ∨ (W.heap.size ≤ b ∧ b < W'.heap.size)) := by
  obtain ⟨ok, o2, A2, x2, rfl⟩ := a
  refine ⟨ok, o2, A2, ⟨x2.pb.but h fun hs => (x2.ny p (hS p hs)).2.2.1 rfl, x2.rx.but h fun b hb hs => (x2.ny b (hS b hs)).2.1 hb, x2.lv, x2.pp, ok.st _ _ x2.j (h.mono fun b hs hx => (x2.ny b (hS b hs)).2.2.2 hx), x2.nx, fun b hb => ?_, x2.np, x2.dn, x2.hp⟩, rfl⟩
  rcases hb with hb | hb
  · exact ⟨Nat.lt_of_lt_of_le (x2.ny b hb).1 h.size, (x2.ny b hb).2⟩
  · exact ⟨hb.2, fun hh => by have := x2.rx.lt hh; omega, fun e => by have := x2.pb.lt; omega, fun hx => by have := ok.lt _ _ x2.j hx; omega⟩
/-- a record is told -/
theorem Md.snoc (m : Md f w0 W p N1 N2 N3 LB X D last v l) (r : Rc) {W2 : World} (ho : W2.ownsRow w0.heap.size 38 4 v' (l.length + 1) (encRs l ++ encR r)) (hg : (W.alloc (.cells (encR r).toArray 38)).grownBy W2 v.ownBlock) (hl : v'.ownBlock = v.ownBlock ∨ v'.ownBlock = some (W.heap.size + 1)) :
    Md f w0 (W2.setCell ⟨N2, 0, none⟩ v') p N1 N2 N3 LB X D last v' (l ++ [r]) := by
  obtain ⟨n1, n2, n3, n4, n5, n6, n7, n8, n9, n10, n11⟩ := m.ne
  have hsz : (W.alloc (.cells (encR r).toArray 38)).heap.size = W.heap.size + 1 := by simp
  have b2 : But (fun b => v.ownBlock = some b) W W2 := by
    refine ⟨hg.os, hg.tape, hg.output, by have := hg.size; omega, fun b hb hn => ?_⟩
    exact (hg.block b (by omega) (fun e => hn e.symm)).trans (Below.heap_alloc _ _ _ hb)
  have b3 : But (fun b => b = N2 ∨ v.ownBlock = some b) W (W2.setCell ⟨N2, 0, none⟩ v') := (b2.mono fun _ h => .inr h).setCell (p := ⟨N2, 0, none⟩) (.inl rfl) _
  have hN2 : N2 < W.heap.size := m.b2.lt
  have hv2 : v'.ownBlock ≠ some N2 := by
    rcases hl with e | e
    · rw [e]; exact n8
    · rw [e]; intro h; injection h with h; omega
  refine ⟨(m.ag.grow b3 fun b hb => hb.elim (fun h => .inr (.inl h)) (fun h => .inr (.inr (.inr (.inr (.inr h)))))).less fun b hb => ?_, m.b1.but b3 (fun h => h.elim (Ne.symm n1) n7), ?_, m.b3.but b3 (fun h => h.elim (Ne.symm n2) n9), (b3.block _ (Array.getElem?_eq_some_iff.1 m.df).1 (fun h => h.elim (Ne.symm n3) n10)).trans m.df, (b3.block _ (Array.getElem?_eq_some_iff.1 m.lp).1 (fun h => h.elim (Ne.symm n4) n11)).trans m.lp, ?_, m.xc, fun h => absurd h (by simp)⟩
  · rcases hb with h | h | h | h | h | h
    · exact .inl (.inl h)
    · exact .inl (.inr (.inl h))
    · exact .inl (.inr (.inr (.inl h)))
    · exact .inl (.inr (.inr (.inr (.inl h))))
    · exact .inl (.inr (.inr (.inr (.inr (.inl h)))))
    · rcases hl with e | e
      · exact .inl (.inr (.inr (.inr (.inr (.inr (by rw [← e]; exact h))))))
      · rw [e] at h
        injection h with h
        subst h
        exact .inr ⟨by omega, by rw [hs_set]; exact (ho.lt _ e).2⟩
  · exact (m.b2.but b2 n8).set 0 v'
  · rw [encRs_app, encRs_one, List.length_append]
    exact own_setO ho hv2 _
end
end Go.Proofs.Ytcfmbppnghlkaaa
