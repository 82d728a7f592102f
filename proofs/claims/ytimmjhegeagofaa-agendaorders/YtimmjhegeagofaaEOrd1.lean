/- Ranging over what drains an agenda: the iterator changes the agenda, the round what it gathers. -/
import Derived.Test.YtimmjhegeagofaaEDrain3
import Derived.RangeFuncNested
import Derived.RangeFuncBound
import Derived.RangeFuncCalls
import Derived.RangeFuncLeaves
import Derived.RangeFuncWrites
import Derived.RangeFuncBox
import Derived.Shelf.Abstract
import Derived.Shelf.RegionOpen
import Derived.OwnWalkIn
import Derived.TacticsInMore
import Derived.LoopNIn
import Derived.LoopIn
import Derived.Maps.AppendAt
import Derived.Maps.OwnIn
namespace Go.Proofs.Ytimmjhegeagofaa
open Go.RowKit Go.Sort Go.Shelf
attribute [local go_sem] Oper.semAt_some
set_option maxRecDepth 100000

abbrev oY (Y : Nat → Prop) (N1 N2 : Nat) (v : Value) : Nat → Prop := fun b => Y b ∨ b = N1 ∨ b = N2 ∨ v.ownBlock = some b
/-- what the range keeps -/
structure Ok1 (l : Le) (p last : Nat) (Y : Nat → Prop) (N1 N2 : Nat) (D : List En) (w0 W : World) (v : Value) (T D' : List En) : Prop where
  b1 : Blk W N1 43 [v]
  b2 : Blk W N2 38 [.func (.func 24) #[ptr p] #[]]
  ow : W.ownsRow 0 27 2 v T.length (encT T)
  ag : Ag l W p D' last (oY Y N1 N2 v)
  dr : Dr l.Ord D T D'
  bu : But (Els Y) w0 W
  vb : v.ownBlock = none ∨ ∃ b, v.ownBlock = some b ∧ w0.heap.size ≤ b
section
variable {l : Le} {p last : Nat} {Y : Nat → Prop} {N1 N2 : Nat} {D : List En} {w0 W W' : World} {v : Value} {T D' : List En}
theorem Ok1.n2 (k : Ok1 l p last Y N1 N2 D w0 W v T D') : N2 ≠ N1 ∧ v.ownBlock ≠ some N2 := by
  have h1 : W.heap[N1]? = _ := k.b1
  have h2 : W.heap[N2]? = _ := k.b2
  refine ⟨fun e => ?_, fun e => ?_⟩
  · rw [e, h1] at h2; injection h2 with h2; injection h2 with _ h2; cases h2
  · rcases k.ow.2 with ⟨h, _⟩ | ⟨g, cap, cur, h, _, hg, _⟩
    · rw [h] at e; cases e
    · rw [h] at e; simp [Value.ownBlock] at e; subst e; rw [hg] at h2; injection h2 with h2; injection h2 with _ h2; cases h2
theorem Ok1.out (k : Ok1 l p last Y N1 N2 D w0 W v T D') : outN N1 W = T.length := by
  obtain ⟨a, cap, hv⟩ := eown_form k.ow
  have := k.b1.cell (i := 0) rfl
  rw [hv] at this
  unfold outN
  rw [this]
/-- a call of the agenda's own -/
theorem Ok1.pop {D2 : List En} (k : Ok1 l p last Y N1 N2 D w0 W v T D') (a : Ag l W' p D2 last (oY Y N1 N2 v)) (h : But (Els (oY Y N1 N2 v)) W W') :
    Blk W' N1 43 [v] ∧ Blk W' N2 38 [.func (.func 24) #[ptr p] #[]] ∧ W'.ownsRow 0 27 2 v T.length (encT T) ∧ Ag l W' p D2 last (oY Y N1 N2 v) ∧ But (Els Y) w0 W' :=
  ⟨k.b1.but h fun hn => hn (.inr (.inl rfl)), k.b2.but h fun hn => hn (.inr (.inr (.inl rfl))), eown_block k.ow fun b hb => h.block b (k.ow.lt b hb).2 fun hn => hn (.inr (.inr (.inr hb))), a, k.bu.trans (h.mono fun _ hb hy => hb (.inl hy))⟩
end
theorem nilYi (l : Nat) (W : World) : (binOp .eql 90 (.func (.yield l) #[] #[]) .nilFunc).run Try.prog W = .ok (.bool false) W := by kernel_rfl
/-- what a round makes of what was gathered -/
def RoundY (q L N1 : Nat) (X : Obj) : Prop := ∀ (W : World) (v : Value) (n : Nat) (xs : List Value) (k m : Int), n ≤ 1000000 → Blk W N1 43 [v] → W.ownsRow 0 27 2 v n xs → W.heap[L]? = some X →
  YieldAt Fence.wide (q - 1) Try.prog L #[thV k m] W fun e W' => e = .returned (.bool true) ∧ ∃ v', Blk W' N1 43 [v'] ∧ W'.ownsRow 0 27 2 v' (n + 1) (xs ++ [.int .i8 k, .int .i64 m]) ∧ But (fun b => b = N1 ∨ v.ownBlock = some b) W W' ∧ (v'.ownBlock = v.ownBlock ∨ ∃ b, v'.ownBlock = some b ∧ W.heap.size ≤ b)
set_option maxHeartbeats 4000000 in
theorem eeach_in (q : Nat) (hq : 1 ≤ q) (l : Le) (p last : Nat) (Y : Nat → Prop) (N1 N2 L : Nat) (X : Obj) (D : List En) (w0 : World) (v : Value) (k0 : Ok1 l p last Y N1 N2 D w0 w0 v [] D) (hY1 : ¬ Y N1) (hL : Y L) (hX : w0.heap[L]? = some X) (hR : RoundY q L N1 X) :
    CallsIn Fence.wide q Try.prog 90 #[.func (.yield L) #[] #[], ptr N2] w0 fun e w' => (∃ r, e = .returned r) ∧ ∃ v' T, Ok1 l p last Y N1 N2 D w0 w' v' T [] := by
  have hf1 := fpop
  have hny := nilYi L
  have hlb : D.length ≤ 1000000 := by have := k0.ag.len; omega
  have HSr : Hid (Srt D) := k0.ag.srt
  have K0 : Hid (Ok1 l p last Y N1 N2 D w0 w0 v [] D) := k0
  have HXL : Hid (Y L ∧ w0.heap[L]? = some X ∧ RoundY q L N1 X) := ⟨hL, hX, hR⟩
  clear k0 hL hX hR
  refine callsIn_of_wp Try.func90 rfl trivial ?_ rfl
  simp only [Try.ntmps90, List.size_toArray, List.length_cons, List.length_nil, Nat.reduceAdd, Nat.reduceSub, Array.replicate_succ, Array.replicate_zero, List.push_toArray, List.append_toArray, List.nil_append, List.cons_append]
  gi_wp2
  gi_loopw [4] (fun _ wr => ∃ (v' : Value) (T D' : List En), Hid (Ok1 l p last Y N1 N2 D w0 wr v' T D')) (fun _ wr => D.length - outN N1 wr)
  case atStart => exact ⟨v, [], D, K0⟩
  case round =>
    obtain ⟨v1, T, D1, K1⟩ := hrel
    have c2 := K1.out.b2.cell (i := 0) rfl
    have ON : Hid (outN N1 wr = T.length) := K1.out.out
    have HL : Hid (T.length + D1.length = D.length) := K1.out.dr.len HSr.out
    by_cases hD : D1 = []
    · subst hD
      have cP := pop0 K1.out.ag
      unfold tl0 thV at cP
      gi_wp2_with (refine ⟨trivial, ?_⟩; gi_at_call 24; refine (callsIn_wide.2 cP).mono ?_; rintro e w2 ⟨rfl, a2, b2⟩)
      have hb3 : Below w2.heap.size w2 (bxV w2 0 0) := (Below.refl _ w2).alloc (Nat.le_refl _) _
      obtain ⟨r1, r2, r3, r4, r5⟩ := K1.out.pop a2 b2
      have K3 : Hid (Ok1 l p last Y N1 N2 D w0 (bxV w2 0 0) v1 T []) := ⟨r1.below hb3, r2.below hb3, eown_block r3 fun b hb => hb3.block b (r3.lt b hb).2, r4.below hb3, K1.out.dr, r5.trans (But.of hb3), K1.out.vb⟩
      clear cP a2 b2 hb3 r1 r2 r3 r4 r5
      gi_wp2
      refine ⟨fun _ h => (by cases h), ?_⟩
      gi_wp2
      refine bodyPost_ret (results_none rfl _ _ _) rfl ?_
      exact ⟨⟨_, rfl⟩, v1, T, K3.out⟩
    · have cP := popA K1.out.ag hD
      unfold tlV thV at cP
      gi_wp2_with (refine ⟨trivial, ?_⟩; gi_at_call 24; refine (callsIn_wide.2 cP).mono ?_; rintro e w2 ⟨en, ⟨hen, hB⟩, rfl, a2, b2⟩)
      obtain ⟨w3, hw3⟩ : ∃ w3, bxV w2 en.k en.m = w3 := ⟨_, rfl⟩
      have hb3 : Below w2.heap.size w2 w3 := by rw [← hw3]; exact (Below.refl _ w2).alloc (Nat.le_refl _) _
      obtain ⟨r1, r2, r3, r4, r5⟩ := K1.out.pop a2 b2
      have r3' := eown_block (w' := w3) r3 fun b hb => hb3.block b (r3.lt b hb).2
      have u3 : But (Els Y) w0 w3 := r5.trans (But.of hb3)
      have x3 : w3.heap[L]? = some X := (u3.block L (Array.getElem?_eq_some_iff.1 HXL.out.2.1).1 (fun hn => hn HXL.out.1)).trans HXL.out.2.1
      obtain ⟨fn, tmps, assign, body, hy, hR⟩ := HXL.out.2.2 w3 v1 T.length (encT T) en.k en.m (by have := HL.out; omega) (r1.below hb3) r3' x3
      have H3 : Hid (Blk w3 N2 38 [.func (.func 24) #[ptr p] #[]] ∧ Ag l w3 p (dropD D1 en.n) last (oY Y N1 N2 v1) ∧ But (Els Y) w0 w3) := ⟨r2.below hb3, r4.below hb3, u3⟩
      have HE : Hid (Dr l.Ord D (T ++ [en]) (dropD D1 en.n)) := K1.out.dr.snoc hen hB
      have HV : Hid _ := K1.out.vb
      have HN : Hid (N2 ≠ N1 ∧ v1.ownBlock ≠ some N2) := K1.out.n2
      have HD1 : Hid (T.length < D.length) := by show T.length < D.length; have := HL.out; have := List.length_pos_iff.2 hD; omega
      have t0 : w3.cell? ⟨w2.heap.size, 0, none⟩ = some (.int .i8 en.k) := by rw [← hw3]; exact (blk_new w2 [.int .i8 en.k, .int .i64 en.m] _).cell (i := 0) rfl
      have t1 : w3.cell? ⟨w2.heap.size, 1, none⟩ = some (.int .i64 en.m) := by rw [← hw3]; exact (blk_new w2 [.int .i8 en.k, .int .i64 en.m] _).cell (i := 1) rfl
      clear cP a2 b2 hb3 r1 r2 r3 r4 r5 r3' u3 x3 c2
      unfold bxV at hw3
      unfold thV at hy
      subst hw3
      gi_wp2
      rw [hy]
      gi_wp2
      refine hR.mono ?_
      rintro e w4 ⟨rfl, v4, q1, q2, q3, q4⟩
      clear t0 t1
      have K4 : Hid (Ok1 l p last Y N1 N2 D w0 w4 v4 (T ++ [en]) (dropD D1 en.n)) := by
        obtain ⟨d2, a3, u3⟩ := H3.out
        obtain ⟨n21, nv2⟩ := HN.out
        have hV4 : v4.ownBlock = none ∨ ∃ b, v4.ownBlock = some b ∧ w0.heap.size ≤ b := by
          rcases q4 with h | ⟨b, h, hb⟩
          · rw [h]; exact HV.out
          · exact .inr ⟨b, h, Nat.le_trans u3.size hb⟩
        refine ⟨q1, d2.but q3 (fun h => h.elim n21 nv2), ?_, ?_, HE.out, ?_, hV4⟩
        · rw [encT_snoc, List.length_append]; exact q2
        · refine (a3.grow q3 (fun b hb => hb.elim (fun h => .inr (.inl h)) (fun h => .inr (.inr (.inr h))))).less fun b hb => ?_
          rcases hb with h | h | h | h
          · exact .inl (.inl h)
          · exact .inl (.inr (.inl h))
          · exact .inl (.inr (.inr (.inl h)))
          · rcases q4 with e | ⟨b', e, hb'⟩
            · exact .inl (.inr (.inr (.inr (by rw [← e]; exact h))))
            · rw [e] at h; injection h with h; subst h
              exact .inr ⟨hb', (q2.lt b' e).2⟩
        · refine u3.onto q3 fun b hb => ?_
          rcases hb with rfl | hb
          · exact .inl hY1
          · rcases HV.out with h | ⟨b', h, hb'⟩
            · rw [h] at hb; cases hb
            · rw [h] at hb; injection hb with hb; subst hb; exact .inr hb'
      have ON4 : Hid (outN N1 w4 = T.length + 1) := by have := K4.out.out; rw [List.length_append] at this; exact this
      clear q1 q2 q3 q4 HE H3 K1
      gi_wp2
      go_roundw
      case rel => exact ⟨v4, T ++ [en], _, K4⟩
      case measure => rw [ON.out, ON4.out]; have := HD1.out; omega
theorem But.strip {S : Nat → Prop} {L : Nat} {W W' : World} (h : But (fun b => b = L ∨ S b) W W') (hL : W'.heap[L]? = W.heap[L]?) : But S W W' :=
  ⟨h.os, h.tape, h.output, h.size, fun b hb hs => by
    by_cases e : b = L
    · rw [e]; exact hL
    · exact h.block b hb fun h => h.elim e hs⟩
theorem begin_at {W : World} {L : Nat} {r : Loop} (h : W.heap[L]? = some (.loop r)) (hr : r.state = .ready) : ∃ Wb, (Instr.beginRound L).run Try.prog W = .ok () Wb ∧ Wb.heap[L]? = some (.loop { r with state := .busy }) ∧ But (fun b => b = L) W Wb :=
  ⟨_, run_beginRound h hr, World.putObj_heap_same (Array.getElem?_eq_some_iff.1 h).1, ⟨rfl, rfl, rfl, by simp [World.putObj], fun b _ hb => World.putObj_heap_other hb⟩⟩
theorem end_at {W : World} {L : Nat} {r : Loop} (h : W.heap[L]? = some (.loop r)) : ∃ Wb, (Instr.endRound L none).run Try.prog W = .ok (.bool true) Wb ∧ Wb.heap[L]? = some (.loop { r with state := .ready, pending := none }) ∧ But (fun b => b = L) W Wb :=
  ⟨_, run_endRound none h, World.putObj_heap_same (Array.getElem?_eq_some_iff.1 h).1, ⟨rfl, rfl, rfl, by simp [World.putObj], fun b _ hb => World.putObj_heap_other hb⟩⟩
theorem app_fin {Wc w3 : World} {N1 : Nat} {v v' : Value} {n : Nat} {ys : List Value} (h1 : Blk Wc N1 43 [v]) (nv1 : v.ownBlock ≠ some N1) (hown : w3.ownsRow 0 27 2 v' n ys) (hgrow : Wc.grownBy w3 v.ownBlock) (hloc : v'.ownBlock = v.ownBlock ∨ v'.ownBlock = some Wc.heap.size) :
    Blk w3 N1 43 [v] ∧ Blk (w3.setCell ⟨N1, 0, none⟩ v') N1 43 [v'] ∧ (w3.setCell ⟨N1, 0, none⟩ v').ownsRow 0 27 2 v' n ys ∧ But (fun b => b = N1 ∨ v.ownBlock = some b) Wc (w3.setCell ⟨N1, 0, none⟩ v') ∧ (v'.ownBlock = v.ownBlock ∨ ∃ b, v'.ownBlock = some b ∧ Wc.heap.size ≤ b) := by
  have hN1 : Blk w3 N1 43 [v] := h1.same (hgrow.block N1 h1.lt (Ne.symm nv1))
  have hvN : v'.ownBlock ≠ some N1 := by
    rcases hloc with h | h
    · rw [h]; exact nv1
    · rw [h]; intro e; injection e with e; have := h1.lt; omega
  refine ⟨hN1, hN1.set 0 v', own_setO hown hvN _, ?_, hloc.imp id fun h => ⟨_, h, Nat.le_refl _⟩⟩
  exact (⟨hgrow.os, hgrow.tape, hgrow.output, hgrow.size, fun b hb hn => hgrow.block b hb fun e => hn (.inr e.symm)⟩ : But (fun b => b = N1 ∨ v.ownBlock = some b) Wc w3).setCell (p := ⟨N1, 0, none⟩) (.inl rfl) v'
/-- the range's frame -/
theorem eloop {g : Operand} {ps : Array Tmp} {assign body : Code} {Q : Exit → Act → World → Prop} {a : Act} {w1 : World} {N2 : Nat} (hg : a.eval g = sqV N2)
    (h : ∀ fn X W1, X = .loop { state := .ready, pending := none, fn, tmps := a.tmps, params := ps, assign, body, defers := w1.heap.size } → (w1.alloc (.deferred (some []))).alloc X = W1 → CallsIn Fence.wide 5 Try.prog 90 #[.func (.yield (w1.heap.size + 1)) #[] #[], ptr N2] W1 (rangePost Fence.wide 6 Try.prog (w1.heap.size + 1) Q { a with defers := [{ target := .collected w1.heap.size, args := #[] }] ++ a.defers })) :
    (Code.rangeFunc g ps assign body).wpIn Fence.wide 6 Try.prog Q a w1 := by
  refine wpIn_rangeFunc ?_
  intro fn _
  obtain ⟨W1, hW1⟩ : ∃ W1, (w1.alloc (.deferred (some []))).alloc (.loop { state := .ready, pending := none, fn, tmps := a.tmps, params := ps, assign, body, defers := w1.heap.size }) = W1 := ⟨_, rfl⟩
  have h' := h fn _ W1 rfl hW1
  refine ⟨w1.heap.size + 1, [{ target := .collected w1.heap.size, args := #[] }], W1, { target := .fn (.func 90) #[ptr N2], args := #[.func (.yield (w1.heap.size + 1)) #[] #[]] }, W1, 90, #[.func (.yield (w1.heap.size + 1)) #[] #[], ptr N2], W1, ?_, ?_, ?_, ?_, fun _ => by omega, h'⟩
  · rw [← hW1]; exact run_enterLoop_outer _ _ _ _ _
  · simp only [resolve, hg]
    simp [go_sem]
  · intro _ _; trivial
  · simp [invoke, go_sem]
/-- slices.AppendSeq over an agenda's drain -/
theorem put_same {W : World} {L : Nat} {X : Obj} (h : W.heap[L]? = some X) : (W.putObj L X).heap[L]? = some X := World.putObj_heap_same (Array.getElem?_eq_some_iff.1 h).1
set_option maxHeartbeats 4000000 in
theorem eappend (l : Le) (p last : Nat) (Y : Nat → Prop) (N2 : Nat) (D : List En) (w : World) (ag : Ag l w p D last (fun b => Y b ∨ b = N2)) (b2 : Blk w N2 38 [.func (.func 24) #[ptr p] #[]]) (hYw : ∀ b, Y b → b < w.heap.size) :
    Calls Try.prog 67 #[.slice none 0 0, sqV N2] w fun e w' => ∃ v T, e = .returned v ∧ w'.ownsRow 0 27 2 v T.length (encT T) ∧ Dr l.Ord D T [] ∧ But (Els Y) w w' ∧ ∀ b, v.ownBlock = some b → w.heap.size ≤ b := by
  refine (callsIn_wide (n := 6)).1 ?_
  refine callsIn_of_wp_marks Try.func67 rfl trivial ?_ rfl
  simp only [Try.ntmps67, List.size_toArray, List.length_cons, List.length_nil, Nat.reduceAdd, Nat.reduceSub, Array.replicate_succ, Array.replicate_zero, List.push_toArray, List.append_toArray, List.nil_append, List.cons_append]
  gi_wp2
  have bx := blk_new w [.slice none 0 0] 43
  have bb : Below w.heap.size w (w.alloc (.cells #[.slice none 0 0] 43)) := (Below.refl _ w).alloc (Nat.le_refl _) _
  change Blk (w.alloc (.cells #[.slice none 0 0] 43)) _ _ _ at bx
  have a1 := ag.box (.cells #[.slice none 0 0] 43)
  have c2 := b2.below bb
  have hz1 : (w.alloc (.cells #[.slice none 0 0] 43)).heap.size = w.heap.size + 1 := by simp
  generalize w.alloc (.cells #[.slice none 0 0] 43) = w1 at *
  refine eloop rfl fun fn X W1 hX hW1 => ?_
  have hK1 : W1.heap[w1.heap.size]? = some (.deferred (some [])) := by
    rw [← hW1]; exact (Below.heap_alloc _ _ _ (by simp)).trans (World.alloc_heap_new w1 _)
  have hb1 : Below w1.heap.size w1 W1 := by
    rw [← hW1]; exact ((Below.refl _ w1).alloc (Nat.le_refl _) _).alloc (by simp) _
  have hag : Ag l W1 p D last (fun b => (((Y b ∨ b = N2) ∨ b = w.heap.size) ∨ b = w1.heap.size) ∨ b = w1.heap.size + 1) := by
    have h := (a1.box (.deferred (some []))).box X
    rw [World.size_alloc, hW1] at h
    exact h
  have hXL : W1.heap[w1.heap.size + 1]? = some X := by
    have := World.alloc_heap_new (w1.alloc (.deferred (some []))) X; rw [World.size_alloc, hW1] at this; exact this
  refine (eeach_in 5 (by omega) l p last (fun b => Y b ∨ b = w1.heap.size ∨ b = w1.heap.size + 1) w.heap.size N2 (w1.heap.size + 1) X D W1 (.slice none 0 0) ?k0 ?hY1 (.inr (.inr rfl)) hXL ?hR).mono ?_
  case k0 =>
    refine ⟨bx.below hb1, c2.below hb1, World.ownsRow_nil _ _ _ _, hag.less fun b hb => ?_, .nil, But.refl _ _, .inl rfl⟩
    rcases hb with (h | h | h) | h | h | h
    · exact .inl (.inl (.inl (.inl h)))
    · exact .inl (.inr h)
    · exact .inr h
    · exact .inl (.inl (.inr h))
    · exact .inl (.inl (.inl (.inr h)))
    · cases h
  case hY1 =>
    rintro (h | h | h)
    · exact Nat.lt_irrefl _ (hYw _ h)
    · omega
    · omega
  case hR =>
    intro W v n xs k m hn hb hrow hX2
    subst hX
    obtain ⟨i0, hi, hz0, hz1', hz2⟩ := info_parts infoTh
    refine ⟨fn, _, _, _, run_yield hX2 rfl, roundIn_of_wpIn trivial ?_⟩
    have bw : Below W.heap.size W (bxV W k m) := (Below.refl _ W).alloc (Nat.le_refl _) _
    have hlL : w1.heap.size + 1 < W.heap.size := (Array.getElem?_eq_some_iff.1 hX2).1
    have nL1 : w.heap.size ≠ w1.heap.size + 1 := by omega
    have nvL : v.ownBlock ≠ some (w1.heap.size + 1) := fun e => by
      rcases hrow.2 with ⟨h, _⟩ | ⟨g, cap, cur, h, _, hg, _⟩
      · rw [h] at e; cases e
      · rw [h] at e; simp [Value.ownBlock] at e; subst e; rw [hg] at hX2; cases hX2
    have nv1 : v.ownBlock ≠ some w.heap.size := fun e => by
      have h1' : W.heap[w.heap.size]? = _ := hb
      rcases hrow.2 with ⟨h, _⟩ | ⟨g, cap, cur, h, _, hg, _⟩
      · rw [h] at e; cases e
      · rw [h] at e; simp [Value.ownBlock] at e; subst e; rw [hg] at h1'; injection h1' with h1'; injection h1' with _ h1'; cases h1'
    obtain ⟨Wb, hrun, hLb, hbb⟩ := begin_at ((bw.block _ hlL).trans hX2) rfl
    have d1 : Blk Wb w.heap.size 43 [v] := (hb.below bw).but hbb nL1
    have dx : Blk Wb W.heap.size 27 [.int .i8 k, .int .i64 m] := (show Blk (bxV W k m) W.heap.size _ _ from blk_new W _ _).but hbb (by intro h; omega)
    have ro : Wb.ownsRow 0 27 2 v n xs := eown_block hrow fun b hb' => (hbb.block b (Nat.lt_of_lt_of_le (hrow.lt b hb').2 bw.size) (fun h => nvL (by rw [← h]; exact hb'))).trans (bw.block b (hrow.lt b hb').2)
    have c0 := d1.cell (i := 0) rfl
    have t0 := dx.cell (i := 0) rfl
    have t1 := dx.cell (i := 1) rfl
    have bc : Below Wb.heap.size Wb (bxV Wb k m) := (Below.refl _ Wb).alloc (Nat.le_refl _) _
    have roc : (bxV Wb k m).ownsRow 0 27 2 v n xs := eown_block ro fun b hb' => bc.block b (ro.lt b hb').2
    have hnews : ∀ j u, [Value.int .i8 k, .int .i64 m][j]? = some u → (bxV Wb k m).cell? ((⟨Wb.heap.size, 0, none⟩ : Addr).add j) = some u := fun j u hj => by
      rw [Go.WideShapes.add_plain, Nat.zero_add]
      exact (blk_new Wb [.int .i8 k, .int .i64 m] _).cell hj
    obtain ⟨a0, cap0, hva⟩ := eown_form hrow
    have HS : Hid (Below W.heap.size W (bxV W k m) ∧ But (fun b => b = w1.heap.size + 1) (bxV W k m) Wb ∧ Below Wb.heap.size Wb (bxV Wb k m) ∧ Blk Wb w.heap.size 43 [v]) := ⟨bw, hbb, bc, d1⟩
    have HL2 : Hid (Wb.heap[w1.heap.size + 1]? = _) := hLb
    have HN : Hid (v.ownBlock ≠ some w.heap.size ∧ w.heap.size ≠ w1.heap.size + 1 ∧ v.ownBlock ≠ some (w1.heap.size + 1)) := ⟨nv1, nL1, nvL⟩
    have HX2 : Hid (W.heap[w1.heap.size + 1]? = _) := hX2
    clear hb hrow bw hbb d1 dx ro bc nv1 nL1 nvL hLb hX2 hXL hb1 hag hK1 bx bb a1 c2 ag b2 hz1
    gi_wp2
    refine ⟨Wb, hrun, ?_⟩
    clear hrun
    subst hva
    gi_wp2_with (gi_at_builtin; refine wpListIn_append_own_at _ rfl _ _ 43 rfl 0 27 i0 (.agg #[.int .i8 0, .int .i64 0]) 2 16 Try.underlying43 hi hz0 hz1' hz2 rfl (by decide) _ n xs rfl roc ⟨Wb.heap.size, 0, none⟩ 1 1 [.int .i8 k, .int .i64 m] rfl rfl hnews (by simp [Value.oneCell']) (by unfold maxLen; omega) (by omega) (Nat.zero_le _) ?_; intro v' w3 hown hgrow _ hloc; have AF := app_fin (HS.out.2.2.2.below HS.out.2.2.1) HN.out.1 hown hgrow hloc; obtain ⟨g', cap', rfl⟩ := ownsRow_succ hown; have e1 := AF.1.cell (i := 0) rfl; have e2 := AF.1.fz; have HAF : Hid _ := AF; clear AF hown hgrow hloc)
    obtain ⟨f1, f2, f3, f4, f5⟩ := HAF.out
    obtain ⟨p1, p2, p3, p4⟩ := HS.out
    obtain ⟨n1, n2, n3⟩ := HN.out
    have hlb : w1.heap.size + 1 < Wb.heap.size := (Array.getElem?_eq_some_iff.1 HL2.out).1
    have hl3 := (f4.block (w1.heap.size + 1) (Nat.lt_of_lt_of_le hlb p3.size) (by rintro (h | h); exact n2 h.symm; exact n3 h)).trans ((p3.block _ hlb).trans HL2.out)
    obtain ⟨We, hr, hLe, hbe⟩ := end_at hl3
    have hsz : W.heap.size ≤ (bxV Wb k m).heap.size := Nat.le_trans p1.size (Nat.le_trans p2.size p3.size)
    refine ⟨_, We, hr, rfl, _, f2.but hbe n2, eown_block f3 fun b hb' => hbe.block b (f3.lt b hb').2 ?_, ?_, ?_⟩
    · intro e
      rcases f5 with h | ⟨b', h, hb2⟩
      · exact n3 (by rw [← h, hb', e])
      · rw [h] at hb'; injection hb' with hb'; subst hb' e; have := p3.size; omega
    · refine But.strip (L := w1.heap.size + 1) ?_ (hLe.trans HX2.out.symm)
      exact ((((But.of p1).trans (p2.mono fun _ h => .inl h)).trans (But.of p3)).trans (f4.mono fun _ h => .inr h)).trans (hbe.mono fun _ h => .inl h)
    · rcases f5 with h | ⟨b', h, hb2⟩
      · exact .inl h
      · exact .inr ⟨b', h, by omega⟩
  rintro e w' ⟨⟨r, rfl⟩, v', T, K⟩
  have hsz : w1.heap.size + 1 < W1.heap.size := (Array.getElem?_eq_some_iff.1 hXL).1
  have x5 : w'.heap[w1.heap.size + 1]? = some X := (K.bu.block _ hsz (fun h => h (.inr (.inr rfl)))).trans hXL
  have k5 : w'.heap[w1.heap.size]? = some (.deferred (some [])) := (K.bu.block _ (by omega) (fun h => h (.inr (.inl rfl)))).trans hK1
  have nvL : ∀ b, v'.ownBlock = some b → w1.heap.size + 1 < b := fun b hb' => by
    rcases K.vb with h | ⟨b', h, hb2⟩
    · rw [h] at hb'; cases hb'
    · rw [h] at hb'; injection hb' with hb'; omega
  subst hX
  obtain ⟨W5, hrun, hb5⟩ : ∃ W5, (Instr.endLoop (w1.heap.size + 1)).run Try.prog w' = .ok none W5 ∧ But (fun b => b = w1.heap.size + 1) w' W5 :=
    ⟨_, run_endLoop x5 (by simp), ⟨rfl, rfl, rfl, by simp [World.putObj], fun b _ hb => World.putObj_heap_other hb⟩⟩
  refine ⟨none, W5, hrun, ?_⟩
  have k6 : W5.heap[w1.heap.size]? = some (.deferred (some [])) := (hb5.block _ (Array.getElem?_eq_some_iff.1 k5).1 (by omega)).trans k5
  have b6 : Blk W5 w.heap.size 43 [v'] := K.b1.but hb5 (by omega)
  have o6 : W5.ownsRow 0 27 2 v' T.length (encT T) := eown_block K.ow fun b hb' => hb5.block b (K.ow.lt b hb').2 (fun h => by have := nvL b hb'; omega)
  have c6 := b6.cell (i := 0) rfl
  obtain ⟨a0, cap0, hva⟩ := eown_form o6
  have HF : Hid (Dr l.Ord D T [] ∧ But (Els Y) w W5 ∧ (∀ b, v'.ownBlock = some b → w1.heap.size + 1 < b)) := by
    refine ⟨K.dr, ?_, nvL⟩
    refine ⟨?_, ?_, ?_, ?_, ?_⟩
    · exact hb5.os.trans (K.bu.os.trans (hb1.os.trans bb.os))
    · exact hb5.tape.trans (K.bu.tape.trans (hb1.tape.trans bb.tape))
    · exact hb5.output.trans (K.bu.output.trans (hb1.output.trans bb.output))
    · exact Nat.le_trans bb.size (Nat.le_trans hb1.size (Nat.le_trans K.bu.size hb5.size))
    · intro b hb hy
      have hy' : Y b := Classical.not_not.1 hy
      exact (hb5.block b (by have := K.bu.size; have := hb1.size; omega) (by omega)).trans ((K.bu.block b (by have := hb1.size; omega) (fun h => h (.inl hy'))).trans ((hb1.block b (by omega)).trans (bb.block b hb)))
  have HO : Hid (W5.ownsRow 0 27 2 v' T.length (encT T)) := o6
  have HZ : Hid (w1.heap.size = w.heap.size + 1) := hz1
  have HK6 : Hid (W5.heap[w1.heap.size]? = _) := k6
  clear K x5 k5 nvL hrun hb5 k6 b6 o6 hK1 hb1 hag hXL bx bb a1 c2 ag b2 hz1
  subst hva
  gi_wp2
  refine ⟨by simp, .inl ⟨_, _, rfl, run_takeDeferred HK6.out, ?_⟩⟩
  have hbK : But (fun b => b = w1.heap.size) W5 (W5.putObj w1.heap.size (.deferred none)) := ⟨rfl, rfl, rfl, by simp [World.putObj], fun b _ hb => World.putObj_heap_other hb⟩
  have hz := HZ.out
  refine ⟨_, results_tmp rfl _ _ _, .slice a0 T.length cap0, T, rfl, eown_block HO.out fun b hb' => hbK.block b (HO.out.lt b hb').2 (fun h => by have := HF.out.2.2 b hb'; omega), HF.out.1, HF.out.2.1.onto hbK (fun b h => .inr (by omega)), fun b hb' => by have := HF.out.2.2 b hb'; omega⟩
set_option maxHeartbeats 1000000 in
theorem ecollect (l : Le) (p last : Nat) (Y : Nat → Prop) (N2 : Nat) (D : List En) (w : World) (ag : Ag l w p D last (fun b => Y b ∨ b = N2)) (b2 : Blk w N2 38 [.func (.func 24) #[ptr p] #[]]) (hYw : ∀ b, Y b → b < w.heap.size) :
    Calls Try.prog 48 #[sqV N2] w fun e w' => ∃ v T, e = .returned v ∧ w'.ownsRow 0 27 2 v T.length (encT T) ∧ Dr l.Ord D T [] ∧ But (Els Y) w w' ∧ ∀ b, v.ownBlock = some b → w.heap.size ≤ b := by
  have ha := eappend l p last Y N2 D w ag b2 hYw
  clear ag b2 hYw
  go_enter Try.func48, Try.ntmps48
  go_wp2_with fail
  refine ha.mono ?_
  rintro e w1 ⟨v, T, rfl, h⟩
  have H : Hid _ := h
  clear h ha
  go_wp2_with fail
  go_ret
  exact ⟨v, T, rfl, H.out⟩
end Go.Proofs.Ytimmjhegeagofaa
