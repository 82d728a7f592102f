/- A region that draws its order: what only reads is taken first, all at once; the others can come in one order alone; the last one waits for all. -/
import Derived.Test.YtafcgbahdfaiiaaKTakes
import Derived.Test.YtafcgbahdfaiiaaJQuiet
namespace Go.Proofs.Ytafcgbahdfaiiaa
open Go.RowKit Go.Sort

def seqOk (ops : Array Oper) : List Nat → Array Bool → Bool
  | [], listed => (Region.ready .any ops listed).isEmpty
  | i :: rs, listed => decide (Region.ready .any ops listed = [i]) && (match ops[i]? with | some o => o.guard.isNone | none => false) && seqOk ops rs (listed.setIfInBounds i true)
def seqWp (P : Program) (Q : Exit → Act → World → Prop) (S : World → Prop) (ops : Array Oper) : List Nat → Act → World → Prop
  | [], a, w => Q .normal a w
  | i :: rs, a, w => ∀ K : Act → World → Prop, (∀ a' w', S w' → seqWp P Q S ops rs a' w' → K a' w') → match ops[i]? with | some o => o.wp P a w K Q | none => False
theorem seq_any {P : Program} {Q : Exit → Act → World → Prop} {S : World → Prop} {ops : Array Oper} : ∀ (rs : List Nat) (listed : Array Bool) (a : Act) (w : World), seqOk ops rs listed = true → seqWp P Q S ops rs a w → wpAnyH P .any ops Q S rs.length listed a w
  | [], listed, a, w, ho, h => wpAnyH_done (by unfold seqOk at ho; simpa using ho) h _
  | i :: rs, listed, a, w, ho, h => by
    unfold seqOk at ho
    rw [Bool.and_eq_true, Bool.and_eq_true] at ho
    obtain ⟨⟨h1, h2⟩, h3⟩ := ho
    unfold seqWp at h
    cases e : ops[i]? with
    | none => rw [e] at h2; cases h2
    | some o =>
      rw [e] at h2 h
      refine wpAnyH_ready (rs := [i]) (by simpa using h1) (by simp) (AllReadyH.cons e (fun K hK => ?_) AllReadyH.nil)
      rw [if_pos (by simp only [Option.isNone_iff_eq_none] at h2; simp [Region.wanted, h2])]
      exact h K fun a' w' hs hw => hK.out a' w' hs fun _ => seq_any rs _ a' w' h3 hw
/-- THE LAW -/
theorem wp_region_takes_seq {P : Program} {id : Nat} {Q : Exit → Act → World → Prop} {a : Act} {w : World} {l1 : List Oper} (hne : l1 ≠ []) (idx rs : List Nat) (af : Act) (S : World → Prop) (hm : P.follows .mixedOrders = true)
    (hok : lastOk3 l1.dropLast (l1.getLast hne) = true) (hns : Region.noSelect l1.dropLast.toArray = true) (htk : takesOk l1.dropLast.toArray idx (Array.replicate l1.dropLast.length false) = true) (hlen : rs.length + idx.length = l1.dropLast.length)
    (hseq : seqOk l1.dropLast.toArray rs (markIdx idx (Array.replicate l1.dropLast.length false)) = true)
    (hQ : ∀ c a d v w, Q (.panic c) (Act.put a d v) w → Q (.panic c) a w) (hS : S w.drew) (hput : putIdx af l1.dropLast.toArray idx a = af) (hr : ReadsI P l1.dropLast.toArray S af idx)
    (h : seqWp P (lastQ P (l1.getLast hne) Q) S l1.dropLast.toArray rs af w.drew) : (Code.region id l1.toArray true).wp P Q a w := by
  refine wp_region_any hm ?_
  have h0 : wpAnyH P .any l1.dropLast.toArray (lastQ P (l1.getLast hne) Q) S (rs.length + idx.length) (Array.replicate l1.dropLast.length false) a w.drew :=
    takes (Q := lastQ P (l1.getLast hne) Q) hns (fun c a d v w h => hQ c a d v w h) hS idx rs.length _ a htk hput hr (seq_any rs _ af w.drew hseq h)
  rw [hlen] at h0
  have h1 := split_last3 (lastOk3_of hok) _ _ a w.drew (by simp) (shut_none _ _) (wpAny_of_held _ _ _ _ h0)
  have e1 : (Array.replicate l1.dropLast.length false).push false = Array.replicate (l1.dropLast ++ [l1.getLast hne]).toArray.size false := by
    simp [Array.replicate_succ]
  rw [e1, List.dropLast_concat_getLast hne] at h1
  have e2 : l1.dropLast.length + 1 = l1.toArray.size := by
    have := congrArg List.length (List.dropLast_concat_getLast hne)
    simpa using this
  rw [e2] at h1
  exact h1
/-- an append whose run is known -/
theorem wp_append_run {P : Program} {o : Oper} {a : Act} {w w' : World} {K : Act → World → Prop} {Q : Exit → Act → World → Prop} (s x : Operand) (t : TypeId) (hop : o.op = .call { callee := .builtin .append, args := #[s, x], argTypes := #[t, t] })
    (v u v' : Value) (hs : a.eval s = v) (hx : a.eval x = u) (hrun : (Builtin.append_ #[t, t] o.type #[v, u]).run P w = .ok v' w') (h : K (a.put o.dst v') w') : o.wp P a w K Q := by
  unfold Oper.wp execOp
  simp only [hop, resolve, invoke, builtin, Sem.run_bind, Sem.run_pure, Result.andThen_ok, List.map_toArray, List.map_cons, List.map_nil, hs, hx, hrun]
  exact h
theorem wpList_append_run {P : Program} {ops : Array Oper} {rest : List Oper} {o : Oper} {a : Act} {w w' : World} {Q : Exit → Act → World → Prop} (hg : o.guard = none) (s x : Operand) (t : TypeId) (hop : o.op = .call { callee := .builtin .append, args := #[s, x], argTypes := #[t, t] })
    (v u v' : Value) (hs : a.eval s = v) (hx : a.eval x = u) (hrun : (Builtin.append_ #[t, t] o.type #[v, u]).run P w = .ok v' w') (h : wpList P ops Q rest (a.put o.dst v') w') : wpList P ops Q (o :: rest) a w :=
  wpList_plain hg fun _ hK => wp_append_run s x t hop v u v' hs hx hrun (hK _ _ h)
end Go.Proofs.Ytafcgbahdfaiiaa
