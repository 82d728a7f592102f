/- Names that are alive, names that are dead. -/
import Derived.Test.YtobpignlamekmaaADeadR
import Derived.Test.YtobpignlamekmaaASumM
namespace Go.Proofs.Ytobpignlamekmaa
open Go.RowKit Go.Sort

structure Di (h : Sh) (d : Da) (i : Nat) (LA LD : List (Nat × Int)) : Prop where
  al : ∀ x, x ∈ LA → alvB h d (x.1 : Int) x.2 = true
  nd : (LA.map (·.1)).Nodup
  de : ∀ x, x ∈ LD → x.2 < d.gen x.1
  gn : ∀ m, d.gen m ≤ i
  la : LA.length ≤ i
  ld : LD.length ≤ i
theorem Di.next {h : Sh} {d : Da} {i : Nat} {LA LD : List (Nat × Int)} (a : Di h d i LA LD) : Di h d (i + 1) LA LD :=
  ⟨a.al, a.nd, a.de, fun m => by have := a.gn m; omega, by have := a.la; omega, by have := a.ld; omega⟩
theorem alv_iff {h : Sh} {d : Da} {n : Nat} {g : Int} : alvB h d (n : Int) g = true ↔ n < h.N ∧ d.fr h n = false ∧ d.gen n = g := by
  constructor
  · intro e
    obtain ⟨m, e1, e2, e3, e4⟩ := alvB_nat e
    obtain rfl : n = m := by omega
    exact ⟨e2, e3, e4⟩
  · rintro ⟨e1, e2, e3⟩
    have : inR h.N (n : Int) = true := inR_iff.2 (by omega)
    simp [alvB, this, e2, e3]
/-- a name that is dead is refused -/
theorem Di.dead {h : Sh} {d : Da} {i : Nat} {LA LD : List (Nat × Int)} (a : Di h d i LA LD) {x : Nat × Int} (hx : x ∈ LD) : alvE h d (x.1 : Int) x.2 = 62 := by
  have h1 := a.de x hx
  unfold alvE
  rw [if_neg]
  intro e
  obtain ⟨_, _, h2⟩ := alv_iff.1 e
  omega
theorem Di.alloc {w : World} {o : Po} {h : Sh} {d : Da} {i : Nat} {LA LD : List (Nat × Int)} (a : Di h d i LA LD) (ax : Ax w o h d) {x : Int} (e : alE h d x = 0) :
    ∃ n : Nat, alN h d x = (n : Int) ∧ Di h (alD h d x) (i + 1) (LA ++ [(n, alG h d x)]) LD ∧ ∀ y, y ∈ LA → y.1 ≠ n := by
  have hp : popB h.P d.R x = true := by
    unfold alE at e
    cases hh : inR h.P x
    · rw [hh] at e; simp at e
    · rw [hh] at e
      cases hb : popB h.P d.R x
      · rw [hb] at e; simp at e
      · rfl
  obtain ⟨k, n, l, rfl, hk, hR, hI, hR'⟩ := pop_head hp
  have hm : n ∈ d.R k := by rw [hR]; simp
  have hn := ax.rng hk hm
  have hpt := ax.da.own k hk n hm
  have hfr : d.fr h n = true := by unfold Da.fr; rw [hpt]; simpa using hm
  have hno : ∀ y, y ∈ LA → y.1 ≠ n := by
    rintro y hy rfl
    obtain ⟨_, h2, _⟩ := alv_iff.1 (a.al y hy)
    rw [h2] at hfr; cases hfr
  have hal := (alloc_alive ax e).1
  have hN : alN h d (k : Int) = (n : Int) := hI
  rw [hN] at hal
  refine ⟨n, hN, ⟨?_, ?_, a.de, fun m => by have := a.gn m; show d.gen m ≤ _; omega, ?_, ?_⟩, hno⟩
  · intro y hy
    rcases List.mem_append.1 hy with hy | hy
    · obtain ⟨h1, h2, h3⟩ := alv_iff.1 (a.al y hy)
      refine alv_iff.2 ⟨h1, ?_, h3⟩
      unfold Da.fr at h2 ⊢
      simp only [decide_eq_false_iff_not] at h2 ⊢
      exact fun hh => h2 (popR_sub hh)
    · simp only [List.mem_singleton] at hy
      subst hy
      exact hal
  · rw [List.map_append, List.nodup_append]
    refine ⟨a.nd, by simp, ?_⟩
    intro y hy z hz e'
    simp only [List.map_cons, List.map_nil, List.mem_singleton] at hz
    obtain ⟨u, hu, rfl⟩ := List.mem_map.1 hy
    exact hno u hu (e'.trans hz)
  · rw [List.length_append]; have := a.la; simp; omega
  · have := a.ld; omega
theorem Di.free0 {h : Sh} {d : Da} {i : Nat} {l1 l2 LD : List (Nat × Int)} {x : Nat × Int} (a : Di h d i (l1 ++ x :: l2) LD) (ok : d.Ok h) (hi : i ≤ 60) :
    alvE h d (x.1 : Int) x.2 = 0 ∧ Di h (frD h d (x.1 : Int) x.2) (i + 1) (l1 ++ l2) (LD ++ [x]) := by
  have hal := a.al x (by simp)
  obtain ⟨h1, h2, h3⟩ := alv_iff.1 hal
  have hg := a.gn x.1
  have hg0 := (ok.g64 x.1).1
  have hnx : nxG (d.gen x.1) = d.gen x.1 + 1 := by rw [nxG_eq]; omega
  have hfr : frD h d (x.1 : Int) x.2 = { pay := upd d.pay x.1 0, gen := upd d.gen x.1 (d.gen x.1 + 1), R := upd d.R (h.pt x.1) (d.R (h.pt x.1) ++ [x.1]) } := by simp [frD, hal, hnx]
  have hne : ∀ y, y ∈ l1 ++ l2 → y.1 ≠ x.1 := by
    intro y hy e
    have nd := a.nd
    rw [List.map_append, List.map_cons] at nd
    have : x.1 ∈ (l1.map (·.1)) ++ (l2.map (·.1)) := by
      rw [← List.map_append]
      exact List.mem_map.2 ⟨y, hy, e⟩
    grind
  refine ⟨by simp [alvE, hal], ?_⟩
  rw [hfr]
  refine ⟨?_, ?_, ?_, ?_, ?_, ?_⟩
  · intro y hy
    have hn := hne y hy
    obtain ⟨e1, e2, e3⟩ := alv_iff.1 (a.al y (by
      rcases List.mem_append.1 hy with hy | hy
      · simp [hy]
      · simp [hy]))
    refine alv_iff.2 ⟨e1, ?_, ?_⟩
    · unfold Da.fr at e2 ⊢
      simp only [decide_eq_false_iff_not] at e2 ⊢
      unfold upd
      split
      · rename_i e4
        rw [← e4]
        intro hm
        rcases List.mem_append.1 hm with hm | hm
        · exact e2 hm
        · simp at hm; exact hn hm
      · exact e2
    · show upd d.gen x.1 _ y.1 = y.2
      rw [upd_ne hn]; exact e3
  · have nd := a.nd
    rw [List.map_append, List.map_cons] at nd
    rw [List.map_append]
    grind
  · intro y hy
    show y.2 < upd d.gen x.1 _ y.1
    unfold upd
    rcases List.mem_append.1 hy with hy | hy
    · have := a.de y hy
      split
      · rename_i e; rw [e] at this; omega
      · exact this
    · simp only [List.mem_singleton] at hy
      subst hy
      rw [if_pos rfl]; omega
  · intro m
    show upd d.gen x.1 _ m ≤ _
    unfold upd
    split
    · omega
    · have := a.gn m; omega
  · have := a.la; simp at this ⊢; omega
  · have := a.ld; simp; omega
theorem Di.free {h : Sh} {d : Da} {i k : Nat} {LA LD : List (Nat × Int)} (a : Di h d i LA LD) (ok : d.Ok h) (hk : k < LA.length) (hi : i ≤ 60) :
    alvE h d (LA[k].1 : Int) LA[k].2 = 0 ∧ Di h (frD h d (LA[k].1 : Int) LA[k].2) (i + 1) (LA.take k ++ LA.drop (k + 1)) (LD ++ [(LA[k].1, LA[k].2)]) := by
  have e : LA = LA.take k ++ LA[k] :: LA.drop (k + 1) := by
    rw [← List.drop_eq_getElem_cons hk, List.take_append_drop]
  have a' : Di h d i (LA.take k ++ LA[k] :: LA.drop (k + 1)) LD := e ▸ a
  exact a'.free0 ok hi

theorem own_but2 {w w' : World} {b : Nat} {e : TypeId} {size : Nat} {v : Value} {n : Nat} {xs : List Value} {S : Nat → Prop} (h : w.ownsRow b e size v n xs) (hb : But S w w') (hS : ∀ g, S g → g < b) : w'.ownsRow b e size v n xs := by
  refine ⟨h.1, ?_⟩
  rcases h.2 with h | ⟨g, cap, cur, e1, e2, e3, e4⟩
  · exact .inl h
  · exact .inr ⟨g, cap, cur, e1, e2, (hb.block g (Array.getElem?_eq_some_iff.1 e3).1 (fun hs => by have := hS g hs; omega)).trans e3, e4⟩
/-- what the walk carries -/
structure DeadSt (W : World) (o : Po) (h : Sh) (base : Nat) (d : Da) (i : Nat) (LA LD : List (Nat × Int)) (a1 a2 : Option Addr) (c1 c2 : Nat) : Prop where
  ax : Ax W o h d
  di : Di h d i LA LD
  ra : W.ownsRow base 36 2 (.slice a1 LA.length c1) LA.length (encP LA)
  rd : W.ownsRow base 36 2 (.slice a2 LD.length c2) LD.length (encP LD)
  sep : Value.ownBlock (.slice a1 LA.length c1) = none ∨ Value.ownBlock (.slice a1 LA.length c1) ≠ Value.ownBlock (.slice a2 LD.length c2)
  lo : ∀ b, o.has b → b < base
  bs : base ≤ W.heap.size
theorem DeadSt.below {W W' : World} {o : Po} {h : Sh} {base : Nat} {d : Da} {i : Nat} {LA LD : List (Nat × Int)} {a1 a2 : Option Addr} {c1 c2 : Nat} (s : DeadSt W o h base d i LA LD a1 a2 c1 c2) (hb : Below W.heap.size W W') : DeadSt W' o h base d i LA LD a1 a2 c1 c2 :=
  ⟨s.ax.below hb, s.di, aown_below s.ra hb, aown_below s.rd hb, s.sep, s.lo, Nat.le_trans s.bs hb.size⟩
theorem DeadSt.next {W : World} {o : Po} {h : Sh} {base : Nat} {d : Da} {i : Nat} {LA LD : List (Nat × Int)} {a1 a2 : Option Addr} {c1 c2 : Nat} (s : DeadSt W o h base d i LA LD a1 a2 c1 c2) : DeadSt W o h base d (i + 1) LA LD a1 a2 c1 c2 :=
  ⟨s.ax, s.di.next, s.ra, s.rd, s.sep, s.lo, s.bs⟩
/-- an act of the arena -/
theorem DeadSt.act {W W' : World} {o : Po} {h : Sh} {base : Nat} {d d' : Da} {i : Nat} {LA LD : List (Nat × Int)} {a1 a2 : Option Addr} {c1 c2 : Nat} (s : DeadSt W o h base d i LA LD a1 a2 c1 c2) (hb : But o.has W W') (ax : Ax W' o h d') (di : Di h d' i LA LD) : DeadSt W' o h base d' i LA LD a1 a2 c1 c2 :=
  ⟨ax, di, own_but2 s.ra hb s.lo, own_but2 s.rd hb s.lo, s.sep, s.lo, Nat.le_trans s.bs hb.size⟩
theorem kb_but {W W' : World} {B : Nat} {x : Obj} {S : Nat → Prop} (h : W.heap[B]? = some x) (hb : But S W W') (hn : ¬ S B) : W'.heap[B]? = some x := (hb.block B (Array.getElem?_eq_some_iff.1 h).1 hn).trans h
theorem kb_below {W W' : World} {B : Nat} {x : Obj} (h : W.heap[B]? = some x) (hb : Below W.heap.size W W') : W'.heap[B]? = some x := (hb.block B (Array.getElem?_eq_some_iff.1 h).1).trans h
/-- what is no row of names stands when such a row grows -/
theorem five_grown {W w7 : World} {base B n c : Nat} {a : Option Addr} {x0 x1 x2 x3 x4 : Value} {tmp : Obj} {xs : List Value} (f : Five W B x0 x1 x2 x3 x4) (kind : W.heap[B]? = some (.cells #[x0, x1, x2, x3, x4] 38 (0, 0))) (h : W.ownsRow base 36 2 (.slice a n c) n xs) (hg : (W.alloc tmp).grownBy w7 (Value.ownBlock (.slice a n c))) : Five w7 B x0 x1 x2 x3 x4 := by
  have hlt : B < W.heap.size := cell_lt f.1
  have hne : some B ≠ Value.ownBlock (.slice a n c) := by
    intro e
    rcases h.2 with ⟨e1, _⟩ | ⟨g, cap, cur, e1, _, hgb, _⟩
    · rw [e1] at e; cases e
    · rw [e1] at e
      have e2 : B = g := Option.some.inj e
      rw [← e2, kind] at hgb
      cases hgb
  have hbl : w7.heap[B]? = W.heap[B]? := (hg.block B (by simp; omega) hne).trans (Below.heap_alloc _ _ _ hlt)
  have hc : ∀ i, w7.cell? ⟨B, i, none⟩ = W.cell? ⟨B, i, none⟩ := fun i => World.cell?_of_block (w := W) (a := ⟨B, i, none⟩) hbl
  exact ⟨(hc 0).trans f.1, (hc 1).trans f.2.1, (hc 2).trans f.2.2.1, (hc 3).trans f.2.2.2.1, (hc 4).trans f.2.2.2.2⟩
theorem ax_grown {W w7 : World} {base n c : Nat} {a : Option Addr} {o : Po} {h : Sh} {d : Da} {tmp : Obj} {xs : List Value} (ax : Ax W o h d) (lo : ∀ b, o.has b → b < base) (r : W.ownsRow base 36 2 (.slice a n c) n xs) (hg : (W.alloc tmp).grownBy w7 (Value.ownBlock (.slice a n c))) : Ax w7 o h d := by
  have hs : W.heap.size ≤ w7.heap.size := by have := hg.size; simp at this; omega
  refine ax.same hs fun b hb => ?_
  have hlt := ax.lt b hb
  refine (hg.block b (by simp; omega) ?_).trans (Below.heap_alloc _ _ _ hlt)
  intro e
  have h1 := (r.lt b e.symm).1
  have h2 := lo b hb
  omega
theorem below_grown2 {base0 : Nat} {w W w7 : World} {base n c : Nat} {a : Option Addr} {tmp : Obj} {xs : List Value} (hb : Below base0 w W) (hg : (W.alloc tmp).grownBy w7 (Value.ownBlock (.slice a n c))) (h0 : base0 ≤ base) (r : W.ownsRow base 36 2 (.slice a n c) n xs) (hs : base0 ≤ W.heap.size) : Below base0 w w7 :=
  below_grown hb hs hg fun k e => Nat.le_trans h0 (r.lt k e).1
/-- one more that is alive -/
theorem dead_grown {W w7 : World} {base : Nat} {o : Po} {h : Sh} {d : Da} {i m g' cap' : Nat} {gm : Int} {LA LD : List (Nat × Int)} {a1 a2 : Option Addr} {ca cd : Nat} {tmp : Obj} (ax : Ax W o h d) (di : Di h d i (LA ++ [(m, gm)]) LD)
    (ra : W.ownsRow base 36 2 (.slice a1 LA.length ca) LA.length (encP LA)) (rd : W.ownsRow base 36 2 (.slice a2 LD.length cd) LD.length (encP LD))
    (sep : Value.ownBlock (.slice a1 LA.length ca) = none ∨ Value.ownBlock (.slice a1 LA.length ca) ≠ Value.ownBlock (.slice a2 LD.length cd)) (lo : ∀ b, o.has b → b < base) (hs : base ≤ W.heap.size)
    (hown : w7.ownsRow base 36 2 (.slice (some ⟨g', 0, none⟩) (LA.length + 1) cap') (LA.length + 1) (encP LA ++ [.int .i64 (m : Int), .int .u64 gm])) (hg : (W.alloc tmp).grownBy w7 (Value.ownBlock (.slice a1 LA.length ca)))
    (hblk : Value.ownBlock (.slice (some ⟨g', 0, none⟩) (LA.length + 1) cap') = Value.ownBlock (.slice a1 LA.length ca) ∨ Value.ownBlock (.slice (some ⟨g', 0, none⟩) (LA.length + 1) cap') = some (W.alloc tmp).heap.size) :
    DeadSt w7 o h base d i (LA ++ [(m, gm)]) LD (some ⟨g', 0, none⟩) a2 cap' cd := by
  have hl : (LA ++ [(m, gm)]).length = LA.length + 1 := by simp
  have hs2 : W.heap.size ≤ w7.heap.size := by have := hg.size; simp at this; omega
  refine ⟨ax_grown ax lo ra hg, di, ?_, ?_, ?_, lo, by omega⟩
  · rw [hl, encP_snoc]; exact hown
  · refine (rd.alloc _).kept hg ?_
    rcases sep with e | e
    · by_cases e2 : Value.ownBlock (.slice a2 LD.length cd) = none
      · exact .inl e2
      · exact .inr (by rw [e]; exact e2)
    · exact .inr (Ne.symm e)
  · rw [hl]
    rcases hblk with e | e
    · rw [e]; exact sep
    · refine .inr ?_
      rw [e]
      intro e2
      have := (rd.lt _ e2.symm).2
      simp at this; omega
/-- one more that is dead -/
theorem dead_grown2 {W w7 : World} {base : Nat} {o : Po} {h : Sh} {d : Da} {m g' cap' : Nat} {gm : Int} {LA LD : List (Nat × Int)} {a1 a2 : Option Addr} {ca cd : Nat} {tmp : Obj} (ax : Ax W o h d)
    (ra : W.ownsRow base 36 2 (.slice a1 LA.length ca) LA.length (encP LA)) (rd : W.ownsRow base 36 2 (.slice a2 LD.length cd) LD.length (encP LD))
    (sep : Value.ownBlock (.slice a1 LA.length ca) = none ∨ Value.ownBlock (.slice a1 LA.length ca) ≠ Value.ownBlock (.slice a2 LD.length cd)) (lo : ∀ b, o.has b → b < base)
    (hown : w7.ownsRow base 36 2 (.slice (some ⟨g', 0, none⟩) (LD.length + 1) cap') (LD.length + 1) (encP LD ++ [.int .i64 (m : Int), .int .u64 gm])) (hg : (W.alloc tmp).grownBy w7 (Value.ownBlock (.slice a2 LD.length cd))) :
    Ax w7 o h d ∧ w7.ownsRow base 36 2 (.slice a1 LA.length ca) LA.length (encP LA) ∧ w7.ownsRow base 36 2 (.slice (some ⟨g', 0, none⟩) (LD ++ [(m, gm)]).length cap') (LD ++ [(m, gm)]).length (encP (LD ++ [(m, gm)])) := by
  have hl : (LD ++ [(m, gm)]).length = LD.length + 1 := by simp
  refine ⟨ax_grown ax lo rd hg, (ra.alloc _).kept hg sep, ?_⟩
  rw [hl, encP_snoc]; exact hown
theorem u64_rem (p : Int) {m : Nat} (hm : 0 < m) : ∃ k : Nat, k < m ∧ (IntKind.u64.wrap p).tmod (m : Int) = (k : Int) := by
  have h0 : IntKind.u64.wrap p = p % 18446744073709551616 := rfl
  have h1 : 0 ≤ IntKind.u64.wrap p := by rw [h0]; omega
  rw [Int.tmod_eq_emod_of_nonneg h1]
  have h2 := Int.emod_nonneg (IntKind.u64.wrap p) (b := (m : Int)) (by omega)
  have h3 := Int.emod_lt_of_pos (IntKind.u64.wrap p) (b := (m : Int)) (by omega)
  exact ⟨(IntKind.u64.wrap p % (m : Int)).toNat, by omega, by omega⟩
/-- one of those that were alive is dead -/
theorem dead_cut {W W' : World} {base : Nat} {o : Po} {h : Sh} {d : Da} {i g' cap' : Nat} {LN LD : List (Nat × Int)} {v' : Value} (ax : Ax W o h d) (di : Di h d i LN LD)
    (rd : W.ownsRow base 36 2 (.slice (some ⟨g', 0, none⟩) LD.length cap') LD.length (encP LD)) (lo : ∀ b, o.has b → b < base) (hs : base ≤ W.heap.size)
    (hrow : W'.ownsRow W.heap.size 36 2 v' LN.length (encP LN)) (hb : Below W.heap.size W W') :
    ∃ a3 c3, v' = .slice a3 LN.length c3 ∧ DeadSt W' o h base d i LN LD a3 (some ⟨g', 0, none⟩) c3 cap' := by
  obtain ⟨a3, c3, rfl⟩ : ∃ a3 c3, v' = .slice a3 LN.length c3 := by
    rcases hrow.2 with ⟨rfl, e⟩ | ⟨g, cap, cur, rfl, _⟩
    · exact ⟨none, 0, by rw [e]⟩
    · exact ⟨_, _, rfl⟩
  refine ⟨a3, c3, rfl, ax.below hb, di, own_low hrow hs, aown_below rd hb, ?_, lo, Nat.le_trans hs hb.size⟩
  by_cases e : Value.ownBlock (.slice a3 LN.length c3) = none
  · exact .inl e
  · refine .inr fun e2 => ?_
    obtain ⟨q, hq⟩ := Option.ne_none_iff_exists'.1 e
    have h1 := (hrow.lt q hq).1
    rw [hq] at e2
    have h2 := (rd.lt q e2.symm).2
    omega
end Go.Proofs.Ytobpignlamekmaa
