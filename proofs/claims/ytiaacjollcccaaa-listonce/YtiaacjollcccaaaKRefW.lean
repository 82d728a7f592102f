/- without, of the document's lists; a row made by a call, laid down. -/
import Derived.Test.YtiaacjollcccaaaKRefS
namespace Go.Proofs.Ytiaacjollcccaaa
open Go.RowKit

def wo (l : List Nat) (x : Nat) : List Nat := l.filter fun y => !decide (y = x)
theorem wo_len (l : List Nat) (x : Nat) : (wo l x).length ≤ l.length := List.length_filter_le _ _
theorem wo_snoc_in {l : List Nat} {y x : Nat} (h : y = x) : wo (l ++ [y]) x = wo l x := by simp [wo, h]
theorem wo_snoc_out {l : List Nat} {y x : Nat} (h : y ≠ x) : wo (l ++ [y]) x = wo l x ++ [y] := by simp [wo, h]

set_option maxHeartbeats 2000000 in
theorem without_k (b : Nat) (v : Value) (l : List Nat) (x : Nat) (w : World) (hv : w.ownsRow b 3 1 v l.length (encL l)) (hl : l.length ≤ 65536) :
    Calls Try.prog 56 #[v, .int .i64 (x : Int)] w fun e w' => ∃ v', e = .returned v' ∧ w'.ownsRow w.heap.size 3 1 v' (wo l x).length (encL (wo l x)) ∧ Below w.heap.size w w' := by
  obtain ⟨i0, hi, hz0, hz1, hz2⟩ := info_parts Try.info3
  obtain ⟨a, ca, rfl, ha, _⟩ := cells_of_own hv (k := .i64) (z := atL l) (fun j hj => encL_at2 hj)
  have HA : Hid (Cells w .i64 a l.length (atL l)) := ha
  clear ha hv
  go_enter Try.func56, Try.ntmps56
  go_wp2_with fail
  go_loopw [5, 6] (fun u i wr => ∃ j : Nat, j ≤ l.length ∧ i = .int .i64 j ∧ wr.ownsRow w.heap.size 3 1 u (wo (l.take j) x).length (encL (wo (l.take j) x)) ∧ Below w.heap.size w wr) (fun _ i _ => l.length - (intOf i).toNat)
  case atStart => exact ⟨0, by omega, rfl, World.ownsRow_nil _ _ _ _, Below.refl _ _⟩
  case round =>
    obtain ⟨j, hj, rfl, hown, hbel⟩ := hrel
    by_cases hlt : j < l.length
    · obtain ⟨b1, off, rfl, hcell⟩ := HA.out.below hbel j hlt
      have e1 : l.take (j + 1) = l.take j ++ [l[j]] := by rw [List.take_succ_eq_append_getElem hlt]
      have e2 : atL l j = ((l[j] : Nat) : Int) := by simp [atL, List.getD, hlt]
      rw [e2] at hcell
      have hwl : (wo (l.take j) x).length ≤ 65536 := Nat.le_trans (wo_len _ _) (by rw [List.length_take]; omega)
      generalize l[j] = y at *
      by_cases hyx : y = x
      · have HM : Hid (wo (l.take (j + 1)) x = wo (l.take j) x) := by show _ = _; rw [e1, wo_snoc_in hyx]
        subst hyx
        clear e1 e2
        go_wp2_with fail
        go_roundw
        case rel => exact ⟨j + 1, by omega, by go_num, by rw [HM.out]; exact hown, hbel⟩
        case measure => simp [intOf]; omega
      · have HM : Hid (wo (l.take (j + 1)) x = wo (l.take j) x ++ [y]) := by show _ = _; rw [e1, wo_snoc_out hyx]
        have hne : ((y : Int) != (x : Int)) = true := by simp; omega
        clear e1 e2
        go_wp2_with (at_builtin; refine wpList_append_own _ rfl _ _ 36 rfl w.heap.size 3 i0 (.int .i64 0) 1 8 Try.underlying36 hi hz0 hz1 hz2 rfl (by decide) _ _ _ rfl (hown.alloc _) ⟨wr.heap.size, 0, none⟩ 1 1 [.int .i64 (y : Int)] rfl rfl (cell_one_new _ _ _) (by simp [Value.oneCell']) (by unfold maxLen; omega) (by omega) (by have := hbel.size; simp; omega) ?_; intro v' w3 hown' hgrow _)
        go_roundw
        case rel =>
          refine ⟨j + 1, by omega, by go_num, ?_, ?_⟩
          · rw [HM.out, encL_snoc, List.length_append]; exact hown'
          · exact (hbel.alloc hbel.size _).grown hgrow (by have := hbel.size; simp; omega) (own_ge hown)
        case measure => simp [intOf]; omega
    · obtain rfl : j = l.length := by omega
      rw [List.take_length] at hown
      go_wp2_with fail
      go_ret
      exact ⟨_, rfl, hown, hbel⟩

/-- a call of without, as a step of a region that draws its order -/
theorem tail_call {ops : Array Oper} {Q : Exit → Act → World → Prop} {w0 w : World} {iA dA dv dx fuel B x : Nat} {oA : Oper} {listed : Array Bool} {a : Act} {r : List Nat} {v : Value}
    (eA : ops[iA]? = some oA) (gA : oA.guard = none) (pA : oA.op = .call { callee := .value (.func 56), args := #[.tmp dv, .tmp dx], argTypes := #[36, 3] }) (tA : oA.dst = some dA)
    (r0 : Region.ready .any ops listed = [iA])
    (hv : a.tmps[dv]? = some v) (hx : a.tmps[dx]? = some (.int .i64 (x : Int))) (hown : w0.ownsRow B 3 1 v r.length (encL r)) (hl : r.length ≤ 65536)
    (hS : Below w0.heap.size w0 w)
    (fin : ∀ (vA : Value) (W : World), Below w0.heap.size w0 W → W.ownsRow w0.heap.size 3 1 vA (wo r x).length (encL (wo r x)) →
      wpAnyH Try.prog .any ops Q (fun W => Below w0.heap.size w0 W) fuel (listed.setIfInBounds iA true) (a.put (some dA) vA) W) :
    wpAnyH Try.prog .any ops Q (fun W => Below w0.heap.size w0 W) (fuel + 1) listed a w := by
  have low : w.ownsRow B 3 1 v r.length (encL r) := own_but (S := fun _ => False) hown (But.of hS) (fun _ h => h.elim)
  refine wpAnyH_ready r0 (by simp) (AllReadyH.cons eA (fun K hK => ?_) AllReadyH.nil)
  rw [if_pos (by simp [Region.wanted, gA])]
  have hcall := without_k B v r x w low hl
  have hrun : (execOp a.eval oA).run Try.prog w = .ok (.enter 56 #[v, .int .i64 (x : Int)]) w := by
    obtain ⟨d, op, ty, pos, aft, g⟩ := oA
    simp only at pA
    subst pA
    clear hcall hK
    go_simp
  unfold Oper.wp
  rw [hrun]
  refine Calls.mono hcall ?_
  rintro e w' ⟨v', rfl, h1, h2⟩
  have hW' : Below w0.heap.size w0 w' := Below.onto hS h2
  show K (a.put oA.dst v') w'
  refine hK.out _ _ hW' fun _ => ?_
  rw [tA]
  exact fin v' w' hW' (own_mono h1 hS.size)

end Go.Proofs.Ytiaacjollcccaaa
