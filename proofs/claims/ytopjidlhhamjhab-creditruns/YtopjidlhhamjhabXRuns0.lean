/- The law's row of acts. -/
import Derived.Test.YtopjidlhhamjhabXRun
import Derived.Lib.SmallJoins
namespace Go.Proofs.Ytopjidlhhamjhab
open Go.RowKit Go.Sort Go.Shelf
set_option maxRecDepth 100000

theorem xown_stay {w w' : World} {base : Nat} {e : TypeId} {size : Nat} {v : Value} {n : Nat} {xs : List Value} (h : w.ownsRow base e size v n xs) (hb : Below w.heap.size w w') : w'.ownsRow base e size v n xs := by
  refine ⟨h.1, ?_⟩
  rcases h.2 with h2 | ⟨g, cap, cur, e1, hg, hblk, h3⟩
  · exact .inl h2
  · exact .inr ⟨g, cap, cur, e1, hg, (hb.block g (Array.getElem?_eq_some_iff.1 hblk).1).trans hblk, h3⟩
theorem Bk.grown {w w' : World} {b : Nat} {T : TypeId} {l : List Value} {row : Option Nat} (h : Bk w b T l) (hg : w.grownBy w' row) (hne : row ≠ some b) : Bk w' b T l := by
  obtain ⟨_, _, _, _, hk⟩ := hg
  exact (hk b h.lt (by first | exact hne | exact hne.symm | exact fun e => hne e.symm)).trans h
theorem Bk.not_row {w : World} {b : Nat} {T e : TypeId} {l : List Value} {base size n : Nat} {v : Value} {xs : List Value} (h : Bk w b T l) (hr : w.ownsRow base e size v n xs) (hT : T ≠ e) : v.ownBlock ≠ some b := by
  intro hv
  rcases hr.2 with ⟨rfl, _⟩ | ⟨g, cap, cur, rfl, _, hblk, _⟩
  · cases hv
  · simp [Value.ownBlock] at hv
    subst hv
    rw [h] at hblk
    injection hblk with hblk
    injection hblk with _ hblk
    exact hT hblk
/-- what the first loop keeps: a row of the acts' functions -/
structure Xs1 (w wr : World) (c : Ac) (g : Nat → XOp) (B3 : Nat) (v : Value) (j : Nat) (Bs : List Nat) : Prop where
  own : wr.ownsRow w.heap.size 41 1 v j (Bs.map xfn)
  len : Bs.length = j
  bx : ∀ i, i < j → Bk wr (Bs.getD i 0) 44 (xoL (g i))
  b3 : Bk wr B3 38 (acL c)
  bel : Below w.heap.size w wr
  hB : w.heap.size ≤ B3
theorem xact_blk (o : XOp) (w : World) : Calls Try.prog 14 #[xoV o] w fun e w' => e = .returned (xfn w.heap.size) ∧ Bk w' w.heap.size 44 (xoL o) ∧ Below w.heap.size w w' := by
  have HB : Hid (Bk (w.alloc (.cells (xoL o).toArray 44)) w.heap.size 44 (xoL o)) := bk_new _ _ _
  go_enter Try.func14, Try.ntmps14
  go_wp2_with fail
  go_ret
  exact ⟨rfl, HB.out, below_new _ _⟩
theorem xs1_more {w w5 w6 : World} {c : Ac} {g : Nat → XOp} {B3 : Nat} {v v' : Value} {j B : Nat} {Bs : List Nat} {o : Obj} (bel5 : Below w.heap.size w w5) (hlen : Bs.length = j) (hB : w.heap.size ≤ B3)
    (own5 : w5.ownsRow w.heap.size 41 1 v j (Bs.map xfn)) (bxs5 : ∀ i, i < j → Bk w5 (Bs.getD i 0) 44 (xoL (g i))) (b35 : Bk w5 B3 38 (acL c))
    (bx5 : Bk w5 B 44 (xoL (g j))) (hown' : w6.ownsRow w.heap.size 41 1 v' (j + 1) (Bs.map xfn ++ [xfn B])) (hgrow : (w5.alloc o).grownBy w6 v.ownBlock) :
    Xs1 w w6 c g B3 v' (j + 1) (Bs ++ [B]) := by
  have hk : ∀ {b : Nat} {T : TypeId} {l : List Value}, Bk w5 b T l → T ≠ 41 → Bk w6 b T l := fun h hT => (h.below (below_new _ o)).grown hgrow (h.not_row own5 hT)
  refine ⟨by rw [List.map_append]; exact hown', by simp [hlen], fun i hi => ?_, hk b35 (by decide), (Below.onto bel5 (below_new _ o)).grown hgrow (by have := bel5.size; have := (below_new w5 o).size; omega) (fun q e => (own5.lt q e).1), hB⟩
  by_cases e : i < j
  · rw [show (Bs ++ [B]).getD i 0 = Bs.getD i 0 by simp [List.getD, List.getElem?_append_left (show i < Bs.length by omega)]]
    exact hk (bxs5 i e) (by decide)
  · obtain rfl : i = j := by omega
    rw [show (Bs ++ [B]).getD i 0 = B by subst hlen; simp [List.getD]]
    exact hk bx5 (by decide)
theorem info_xfn : (Try.prog.info? 41).map (fun i => (i.zero, i.size, i.bytes)) = some (some .nilFunc, 1, 8) := by kernel_rfl
theorem xslice_head (a : Option Addr) (n q cap : Nat) (hq : q ≤ cap) (W : World) : (Instr.slice 39 (.slice a n cap) none (some (.int .i64 (q : Int))) none).run Try.prog W = .ok (.slice a q cap) W := by
  have hs : ∀ w, (sizeOf (Try.prog.elem 39)).run Try.prog w = .ok 2 w := fun w => by kernel_rfl
  rw [run_slice_h _ 39 a n cap (by kernel_rfl) .i64 q (by omega) (by omega), hs]
  cases a with
  | none => simp [sliced, Result.andThen]
  | some x => simp only [sliced, Result.andThen, Option.map_some, Nat.zero_mul, Nat.sub_zero, Int.toNat_natCast]; split <;> rfl
/-- the row of acts is whole: nil may stand behind it -/
structure Xs2 (w wr : World) (c : Ac) (g : Nat → XOp) (B3 : Nat) (v : Value) (n : Nat) (nil : Bool) (Bs : List Nat) : Prop where
  own : wr.ownsRow w.heap.size 41 1 v (n + nil.toNat) (Bs.map xfn ++ if nil then [.nilFunc] else [])
  len : Bs.length = n
  bx : ∀ i, i < n → Bk wr (Bs.getD i 0) 44 (xoL (g i))
  b3 : Bk wr B3 38 (acL c)
  bel : Below w.heap.size w wr
  hB : w.heap.size ≤ B3
theorem Xs1.fin {w wr : World} {c : Ac} {g : Nat → XOp} {B3 n : Nat} {v : Value} {Bs : List Nat} (h : Xs1 w wr c g B3 v n Bs) : Xs2 w wr c g B3 v n false Bs :=
  ⟨by simpa using h.own, h.len, h.bx, h.b3, h.bel, h.hB⟩
theorem Xs1.nil {w wr w6 : World} {c : Ac} {g : Nat → XOp} {B3 n : Nat} {v v' : Value} {Bs : List Nat} {o : Obj} (h : Xs1 w wr c g B3 v n Bs)
    (hown' : w6.ownsRow w.heap.size 41 1 v' (n + 1) (Bs.map xfn ++ [.nilFunc])) (hgrow : (wr.alloc o).grownBy w6 v.ownBlock) : Xs2 w w6 c g B3 v' n true Bs := by
  have hk : ∀ {b : Nat} {T : TypeId} {l : List Value}, Bk wr b T l → T ≠ 41 → Bk w6 b T l := fun q hT => (q.below (below_new _ o)).grown hgrow (q.not_row h.own hT)
  exact ⟨by simpa using hown', h.len, fun i hi => hk (h.bx i hi) (by decide), hk h.b3 (by decide), (Below.onto h.bel (below_new _ o)).grown hgrow (by have := h.bel.size; have := (below_new wr o).size; omega) (fun q e => (h.own.lt q e).1), h.hB⟩
theorem Xs2.below {w wr w6 : World} {c : Ac} {g : Nat → XOp} {B3 n : Nat} {v : Value} {nil : Bool} {Bs : List Nat} (h : Xs2 w wr c g B3 v n nil Bs) (hb : Below wr.heap.size wr w6) : Xs2 w w6 c g B3 v n nil Bs :=
  ⟨xown_stay h.own hb, h.len, fun i hi => (h.bx i hi).below hb, h.b3.below hb, Below.onto h.bel hb, h.hB⟩
/-- one's own box is stored anew -/
theorem Xs2.set {w wr : World} {c : Ac} {g : Nat → XOp} {B3 n B i : Nat} {v u : Value} {nil : Bool} {Bs : List Nat} {l : List Value} (h : Xs2 w wr c g B3 v n nil Bs) (hb : Bk wr B 38 l) (hB : w.heap.size ≤ B) (hne : B3 ≠ B) : Xs2 w (wr.setCell ⟨B, i, none⟩ u) c g B3 v n nil Bs := by
  refine ⟨ownsRow_setCell_other h.own (hb.not_row h.own (by decide)) _, h.len, fun q hq => (h.bx q hq).setO ?_ _, h.b3.setO hne _, h.bel.setCell hB _, h.hB⟩
  intro e
  have h1 := h.bx q hq
  rw [e] at h1
  unfold Bk at h1 hb
  rw [hb] at h1
  injection h1 with h1
  injection h1 with _ h1
  exact absurd h1 (by decide)
theorem Xs2.row {w wr : World} {c : Ac} {g : Nat → XOp} {B3 n : Nat} {v : Value} {nil : Bool} {Bs : List Nat} (h : Xs2 w wr c g B3 v n nil Bs) : ∃ a cap, v = .slice a (n + nil.toNat) cap ∧ ∀ j, j < n + nil.toNat → ∃ b off, a = some ⟨b, off, Option.none⟩ ∧ wr.cell? ⟨b, off + j, Option.none⟩ = some (fnC (fun i => Bs.getD i 0) n j) := by
  rcases Go.Joins.ownsRow_forms h.own with ⟨rfl, h0⟩ | ⟨q, cap, rfl⟩
  · exact ⟨none, 0, by rw [h0], fun j hj => by omega⟩
  · refine ⟨_, cap, rfl, fun j hj => ⟨q, 0, rfl, ?_⟩⟩
    rw [Nat.zero_add, h.own.cellAt j (by omega)]
    have hl := h.len
    unfold fnC
    by_cases e : j < n
    · rw [if_pos e, List.getElem?_append_left (by simp; omega), List.getElem?_map]
      simp [List.getD, List.getElem?_eq_getElem (show j < Bs.length by omega)]
    · have : nil = true := by cases nil <;> simp at hj ⊢; omega
      subst this
      have hj2 : j = n := by simp at hj; omega
      rw [if_neg e, List.getElem?_append_right (by simp; omega)]
      simp [hj2, hl]
/-- what the second loop keeps -/
structure Xs3 (w wr : World) (c : Ac) (g : Nat → XOp) (B3 B9 : Nat) (v : Value) (n : Nat) (nil : Bool) (Bs : List Nat) (k i : Nat) (E : Int) : Prop where
  s : Xs2 w wr c g B3 v n nil Bs
  b9 : Bk wr B9 38 (acL (acN g c k))
  h9 : w.heap.size ≤ B9
  ne : B3 ≠ B9
  ok : ∀ q, q < k → erN g c q = 0
  le : k ≤ n
  e : (E = 0 ∧ i = k) ∨ (E ≠ 0 ∧ E = erN g c k ∧ i = k + 1 ∧ k < n)
theorem Xs3.below {w wr w6 : World} {c : Ac} {g : Nat → XOp} {B3 B9 n k i : Nat} {v : Value} {nil : Bool} {Bs : List Nat} {E : Int} (h : Xs3 w wr c g B3 B9 v n nil Bs k i E) (hb : Below wr.heap.size wr w6) : Xs3 w w6 c g B3 B9 v n nil Bs k i E :=
  ⟨h.s.below hb, h.b9.below hb, h.h9, h.ne, h.ok, h.le, h.e⟩
end Go.Proofs.Ytopjidlhhamjhab
