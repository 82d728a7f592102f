/- slices.Collect over the iterator of a list's nodes. -/
import Derived.Test.YtiaacjollcccaaaKWalk
namespace Go.Proofs.Ytiaacjollcccaaa
open Go.RowKit Go.Shelf
attribute [local go_sem] Oper.semAt_some

theorem encL_nat {n : Nat} (pre : List (Nd n)) (x : Nd n) : encL (nat (pre ++ [x])) = encL (nat pre) ++ [Value.int .i64 (x.1 : Int)] := by
  simp only [nat, List.map_append, List.map_cons, List.map_nil]; exact encL_snoc _ _

theorem WkOk.low {B1 B2 B3 B : Nat} {o : Pl} {s : Sx} {k : Nat} {f : Value} {W W' : World} (h : WkOk B1 B2 B3 o s k f W) (hb : Below B W W') (hlt : ∀ b, (b = B1 ∨ b = B2 ∨ b = B3 ∨ o.has b) → b < B) : WkOk B1 B2 B3 o s k f W' := by
  obtain ⟨h1, h2, h3, s', h4, e⟩ := h
  exact ⟨(hb.block _ (hlt _ (.inl rfl))).trans h1, (hb.block _ (hlt _ (.inr (.inl rfl)))).trans h2, (hb.block _ (hlt _ (.inr (.inr (.inl rfl))))).trans h3, s', h4.same hb.size fun b ho => hb.block b (hlt b (.inr (.inr (.inr ho)))), e⟩

set_option maxRecDepth 100000 in
set_option maxHeartbeats 4000000 in
theorem appendSeqwalkB (B1 B2 B3 : Nat) (o : Pl) (s : Sx) (k : Nat) (hk : k < s.m) (r : List (Nd s.n)) (hr : Nxt s.bh (s.n + k) (s.n + k) (nat r)) (nd : (nat r).Nodup) (hlen : r.length ≤ 70000) (w : World) (hw : WkOk B1 B2 B3 o s k (.func (.func 40) #[o.ptr] #[]) w) :
    Calls Try.prog 60 #[.slice none 0 0, .func (.func 61) #[] #[.pointer (some ⟨B1, 0, none⟩), .pointer (some ⟨B2, 0, none⟩), .pointer (some ⟨B3, 0, none⟩)]] w fun e w' => ∃ v, e = .returned v ∧ w'.ownsRow w.heap.size 3 1 v r.length (encL (nat r)) ∧ Below w.heap.size w w' := by
  obtain ⟨i0, hi, hz0, hz1, hz2⟩ := info_parts Try.info3
  refine (callsIn_wide (n := 6)).1 ?_
  refine callsIn_of_wp_marks Try.func60 rfl trivial ?_ rfl
  simp only [Try.ntmps60, List.size_toArray, List.length_cons, List.length_nil, Nat.reduceAdd, Nat.reduceSub, Array.replicate_succ, Array.replicate_zero, List.push_toArray, List.append_toArray, List.nil_append, List.cons_append]
  gi_wp2
  have bL := Boxed.new w 36 (Value.slice none 0 0)
  have hB0 : Below w.heap.size w (w.alloc (.cells #[Value.slice none 0 0] 36)) := (Below.refl _ w).alloc (Nat.le_refl _) _
  have HW : Hid (WkOk B1 B2 B3 o s k (.func (.func 40) #[o.ptr] #[]) (w.alloc (.cells #[Value.slice none 0 0] 36))) := hw.onto hB0
  have HO : Hid (∀ b, (b = B1 ∨ b = B2 ∨ b = B3 ∨ o.has b) → b < w.heap.size) := by
    obtain ⟨h1, h2, h3, s', h4, _⟩ := hw
    rintro b (rfl | rfl | rfl | hb)
    · exact h1.lt
    · exact h2.lt
    · exact h3.lt
    · exact h4.lt b hb
  refine wpIn_rangeFunc_ownG rfl (by omega) (gf := 61) (lb := #[.pointer (some ⟨B1, 0, none⟩), .pointer (some ⟨B2, 0, none⟩), .pointer (some ⟨B3, 0, none⟩)]) rfl trivial (enters_of Try.func61 (by kernel_rfl) rfl)
    (walkB_stops 5 (by omega) B1 B2 B3 o s k hk r hr nd _ HW.out) keepsWk_t (fun W l x x' _ hl hc _ => keepsWk_b hk W l x x' hl hc) (Below.refl _ _) (fun _ => rfl)
    (fun pre W => (∃ v, Boxed W w.heap.size 36 v ∧ W.ownsRow w.heap.size 3 1 v pre.length (encL (nat pre)) ∧ True) ∧ Below w.heap.size w W)
    (fun _ _ _ => False)
    (OwnFrom.and (Own.from (holdsRow_own w.heap.size w.heap.size 36 3 1 (fun pre : List (Nd s.n) => pre.length) (fun pre => encL (nat pre)) (fun _ _ => True)) _) (ownFrom_below (Nat.le_refl _) (by simp)))
    (fun _ _ _ _ _ hs _ _ => hs)
    ⟨⟨_, bL, World.ownsRow_nil _ _ _ _, trivial⟩, hB0⟩
    (fun x => { tmps := #[.slice none 0 0, .func (.func 61) #[] #[.pointer (some ⟨B1, 0, none⟩), .pointer (some ⟨B2, 0, none⟩), .pointer (some ⟨B3, 0, none⟩)], .pointer (some ⟨w.heap.size, 0, none⟩), undef, .slice none 0 0, .int .i64 (x.1 : Int), .func (.func 61) #[] #[.pointer (some ⟨B1, 0, none⟩), .pointer (some ⟨B2, 0, none⟩), .pointer (some ⟨B3, 0, none⟩)], .int .i64 (x.1 : Int), undef, undef, undef, undef, undef], defers := [] }) ?assign ?body ?done ?stop
  case assign =>
    intro l x W K hK
    gi_wp2
    exact hK
  case body =>
    rintro l pre x W ⟨⟨v, hv, hrow, _⟩, hB⟩ hlt
    have hc := hv.cell
    gi_wp2_with (gi_at_builtin; refine wpListIn_append_own _ rfl _ _ 36 rfl w.heap.size 3 i0 (.int .i64 0) 1 8 Try.underlying36 hi hz0 hz1 hz2 rfl (by decide) _ _ _ rfl (hrow.alloc _) ⟨W.heap.size, 0, none⟩ 1 1 [.int .i64 (x.1 : Int)] rfl rfl (cell_one_new _ _ _) (by simp [Value.oneCell']) (by unfold maxLen; omega) (by omega) (by have := hB.size; simp; omega) ?_; intro v' w3 hown' hgrow _; obtain ⟨g', cap', rfl⟩ := ownsRow_succ hown'; obtain ⟨hv1, hv2, hr2, hk2, hb2⟩ := hv.appended (by decide) hrow hB.size (Nat.le_refl _) hown' hgrow; have hc1 := hv1.cell; have hf1 := hv1.frozen)
    refine ⟨hk2.from _, ?_, ⟨_, hv2, by rw [encL_nat, List.length_append]; exact hr2, trivial⟩, hB.trans hb2⟩
    intro hwk
    exact WkOk.low hwk hb2 HO.out
  case done =>
    rintro D ys W hD rfl ⟨⟨v, hv, hrow, _⟩, hB⟩ hK
    have hc := hv.cell
    gi_wp2
    refine ⟨by simp, .inl ⟨_, _, rfl, run_takeDeferred hK, ?_⟩⟩
    have hrow2 := ownsRow_putObj hrow (.deferred none) hK rfl
    exact ⟨_, results_tmp rfl _ _ _, v, rfl, hrow2, hB.trans (belowK_b (w := w) (Nat.le_refl _) W D _ _ (by simp at hD; omega) hK rfl rfl)⟩
  case stop =>
    rintro D c pre W _ _ h _
    exact h.elim

theorem collectwalkB (B1 B2 B3 : Nat) (o : Pl) (s : Sx) (k : Nat) (hk : k < s.m) (r : List (Nd s.n)) (hr : Nxt s.bh (s.n + k) (s.n + k) (nat r)) (nd : (nat r).Nodup) (hlen : r.length ≤ 70000) (w : World) (hw : WkOk B1 B2 B3 o s k (.func (.func 40) #[o.ptr] #[]) w) :
    Calls Try.prog 58 #[.func (.func 61) #[] #[.pointer (some ⟨B1, 0, none⟩), .pointer (some ⟨B2, 0, none⟩), .pointer (some ⟨B3, 0, none⟩)]] w fun e w' => ∃ v, e = .returned v ∧ w'.ownsRow w.heap.size 3 1 v r.length (encL (nat r)) ∧ Below w.heap.size w w' := by
  have ha := appendSeqwalkB B1 B2 B3 o s k hk r hr nd hlen w hw
  clear hw hr nd
  go_enter Try.func58, Try.ntmps58
  go_wp2_with fail
  refine ha.mono ?_
  rintro e w1 ⟨v, rfl, h1, h2⟩
  go_wp2_with fail
  go_ret
  exact ⟨v, rfl, h1, h2⟩

set_option maxRecDepth 100000 in
set_option maxHeartbeats 4000000 in
theorem appendSeqwalkA (B1 B2 B3 : Nat) (o : Pl) (s : Sx) (k : Nat) (hk : k < s.m) (r : List (Nd s.n)) (hr : Nxt s.ah (s.n + k) (s.n + k) (nat r)) (nd : (nat r).Nodup) (hlen : r.length ≤ 70000) (w : World) (hw : WkOk B1 B2 B3 o s k (.func (.func 48) #[o.ptr] #[]) w) :
    Calls Try.prog 60 #[.slice none 0 0, .func (.func 61) #[] #[.pointer (some ⟨B1, 0, none⟩), .pointer (some ⟨B2, 0, none⟩), .pointer (some ⟨B3, 0, none⟩)]] w fun e w' => ∃ v, e = .returned v ∧ w'.ownsRow w.heap.size 3 1 v r.length (encL (nat r)) ∧ Below w.heap.size w w' := by
  obtain ⟨i0, hi, hz0, hz1, hz2⟩ := info_parts Try.info3
  refine (callsIn_wide (n := 6)).1 ?_
  refine callsIn_of_wp_marks Try.func60 rfl trivial ?_ rfl
  simp only [Try.ntmps60, List.size_toArray, List.length_cons, List.length_nil, Nat.reduceAdd, Nat.reduceSub, Array.replicate_succ, Array.replicate_zero, List.push_toArray, List.append_toArray, List.nil_append, List.cons_append]
  gi_wp2
  have bL := Boxed.new w 36 (Value.slice none 0 0)
  have hB0 : Below w.heap.size w (w.alloc (.cells #[Value.slice none 0 0] 36)) := (Below.refl _ w).alloc (Nat.le_refl _) _
  have HW : Hid (WkOk B1 B2 B3 o s k (.func (.func 48) #[o.ptr] #[]) (w.alloc (.cells #[Value.slice none 0 0] 36))) := hw.onto hB0
  have HO : Hid (∀ b, (b = B1 ∨ b = B2 ∨ b = B3 ∨ o.has b) → b < w.heap.size) := by
    obtain ⟨h1, h2, h3, s', h4, _⟩ := hw
    rintro b (rfl | rfl | rfl | hb)
    · exact h1.lt
    · exact h2.lt
    · exact h3.lt
    · exact h4.lt b hb
  refine wpIn_rangeFunc_ownG rfl (by omega) (gf := 61) (lb := #[.pointer (some ⟨B1, 0, none⟩), .pointer (some ⟨B2, 0, none⟩), .pointer (some ⟨B3, 0, none⟩)]) rfl trivial (enters_of Try.func61 (by kernel_rfl) rfl)
    (walkA_stops 5 (by omega) B1 B2 B3 o s k hk r hr nd _ HW.out) keepsWk_t (fun W l x x' _ hl hc _ => keepsWk_b hk W l x x' hl hc) (Below.refl _ _) (fun _ => rfl)
    (fun pre W => (∃ v, Boxed W w.heap.size 36 v ∧ W.ownsRow w.heap.size 3 1 v pre.length (encL (nat pre)) ∧ True) ∧ Below w.heap.size w W)
    (fun _ _ _ => False)
    (OwnFrom.and (Own.from (holdsRow_own w.heap.size w.heap.size 36 3 1 (fun pre : List (Nd s.n) => pre.length) (fun pre => encL (nat pre)) (fun _ _ => True)) _) (ownFrom_below (Nat.le_refl _) (by simp)))
    (fun _ _ _ _ _ hs _ _ => hs)
    ⟨⟨_, bL, World.ownsRow_nil _ _ _ _, trivial⟩, hB0⟩
    (fun x => { tmps := #[.slice none 0 0, .func (.func 61) #[] #[.pointer (some ⟨B1, 0, none⟩), .pointer (some ⟨B2, 0, none⟩), .pointer (some ⟨B3, 0, none⟩)], .pointer (some ⟨w.heap.size, 0, none⟩), undef, .slice none 0 0, .int .i64 (x.1 : Int), .func (.func 61) #[] #[.pointer (some ⟨B1, 0, none⟩), .pointer (some ⟨B2, 0, none⟩), .pointer (some ⟨B3, 0, none⟩)], .int .i64 (x.1 : Int), undef, undef, undef, undef, undef], defers := [] }) ?assign ?body ?done ?stop
  case assign =>
    intro l x W K hK
    gi_wp2
    exact hK
  case body =>
    rintro l pre x W ⟨⟨v, hv, hrow, _⟩, hB⟩ hlt
    have hc := hv.cell
    gi_wp2_with (gi_at_builtin; refine wpListIn_append_own _ rfl _ _ 36 rfl w.heap.size 3 i0 (.int .i64 0) 1 8 Try.underlying36 hi hz0 hz1 hz2 rfl (by decide) _ _ _ rfl (hrow.alloc _) ⟨W.heap.size, 0, none⟩ 1 1 [.int .i64 (x.1 : Int)] rfl rfl (cell_one_new _ _ _) (by simp [Value.oneCell']) (by unfold maxLen; omega) (by omega) (by have := hB.size; simp; omega) ?_; intro v' w3 hown' hgrow _; obtain ⟨g', cap', rfl⟩ := ownsRow_succ hown'; obtain ⟨hv1, hv2, hr2, hk2, hb2⟩ := hv.appended (by decide) hrow hB.size (Nat.le_refl _) hown' hgrow; have hc1 := hv1.cell; have hf1 := hv1.frozen)
    refine ⟨hk2.from _, ?_, ⟨_, hv2, by rw [encL_nat, List.length_append]; exact hr2, trivial⟩, hB.trans hb2⟩
    intro hwk
    exact WkOk.low hwk hb2 HO.out
  case done =>
    rintro D ys W hD rfl ⟨⟨v, hv, hrow, _⟩, hB⟩ hK
    have hc := hv.cell
    gi_wp2
    refine ⟨by simp, .inl ⟨_, _, rfl, run_takeDeferred hK, ?_⟩⟩
    have hrow2 := ownsRow_putObj hrow (.deferred none) hK rfl
    exact ⟨_, results_tmp rfl _ _ _, v, rfl, hrow2, hB.trans (belowK_b (w := w) (Nat.le_refl _) W D _ _ (by simp at hD; omega) hK rfl rfl)⟩
  case stop =>
    rintro D c pre W _ _ h _
    exact h.elim

theorem collectwalkA (B1 B2 B3 : Nat) (o : Pl) (s : Sx) (k : Nat) (hk : k < s.m) (r : List (Nd s.n)) (hr : Nxt s.ah (s.n + k) (s.n + k) (nat r)) (nd : (nat r).Nodup) (hlen : r.length ≤ 70000) (w : World) (hw : WkOk B1 B2 B3 o s k (.func (.func 48) #[o.ptr] #[]) w) :
    Calls Try.prog 58 #[.func (.func 61) #[] #[.pointer (some ⟨B1, 0, none⟩), .pointer (some ⟨B2, 0, none⟩), .pointer (some ⟨B3, 0, none⟩)]] w fun e w' => ∃ v, e = .returned v ∧ w'.ownsRow w.heap.size 3 1 v r.length (encL (nat r)) ∧ Below w.heap.size w w' := by
  have ha := appendSeqwalkA B1 B2 B3 o s k hk r hr nd hlen w hw
  clear hw hr nd
  go_enter Try.func58, Try.ntmps58
  go_wp2_with fail
  refine ha.mono ?_
  rintro e w1 ⟨v, rfl, h1, h2⟩
  go_wp2_with fail
  go_ret
  exact ⟨v, rfl, h1, h2⟩

end Go.Proofs.Ytiaacjollcccaaa
