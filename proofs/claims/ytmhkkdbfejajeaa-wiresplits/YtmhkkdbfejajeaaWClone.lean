/- bytes.Clone: a new row of the same bytes. -/
import Derived.Test.YtmhkkdbfejajeaaWShape
namespace Go.Proofs.Ytmhkkdbfejajeaa
open Go.RowKit

theorem own_block0 (w : World) (t : TypeId) (base : Nat) (hb : base ≤ w.heap.size) : (w.alloc (.cells #[] t)).ownsRow base t 1 (.slice (some ⟨w.heap.size, 0, none⟩) 0 0) 0 [] :=
  ⟨rfl, .inr ⟨w.heap.size, 0, #[], rfl, hb, heapNew _ _, Nat.le_refl _, by unfold maxLen; omega, rfl, rfl⟩⟩

set_option maxHeartbeats 1000000 in
theorem clone_nil (w : World) :
    Calls Try.prog 34 #[.slice none 0 0] w fun e w' => ∃ v, e = .returned v ∧ w'.ownsRow w.heap.size 5 1 v 0 (encB 0 (fun _ => 0)) ∧ Below w.heap.size w w' := by
  have he : ∀ w : World, (binOp .eql 27 (.slice none 0 0) (.slice none 0 0)).run Try.prog w = .ok (.bool true) w := fun _ => rfl
  go_enter Try.func34, Try.ntmps34
  go_wp2
  go_ret
  exact ⟨_, rfl, World.ownsRow_nil _ _ _ _, Below.refl _ _⟩
set_option maxHeartbeats 1000000 in
theorem clone_some (b off n cap : Nat) (z : Nat → Int) (w : World) (hn : n ≤ 1048576) (hc : Cells w .u8 (some ⟨b, off, none⟩) n z) :
    Calls Try.prog 34 #[.slice (some ⟨b, off, none⟩) n cap] w fun e w' => ∃ v, e = .returned v ∧ w'.ownsRow w.heap.size 5 1 v n (encB n z) ∧ Below w.heap.size w w' := by
  obtain ⟨i0, hi, hz0, hz1, hz2⟩ := info_parts Try.infoU8
  have hrow := own_block0 w 5 w.heap.size (Nat.le_refl _)
  have hn1 := news_of_cells (hc.below ((Below.refl _ w).alloc (Nat.le_refl _) (.cells #[] 5)))
  clear hc
  have he : ∀ w : World, (binOp .eql 27 (.slice (some ⟨b, off, none⟩) n cap) (.slice none 0 0)).run Try.prog w = .ok (.bool false) w := fun _ => rfl
  go_enter Try.func34, Try.ntmps34
  go_wp2_with (at_builtin; refine wpList_append_own _ rfl _ _ 27 rfl w.heap.size 5 i0 (.int .u8 0) 1 1 Try.underlying27 hi hz0 hz1 hz2 rfl (by decide) _ _ _ rfl hrow ⟨b, off, none⟩ n _ (encB n z) rfl (by rw [encB_length]; omega) hn1 (encB_one _ _) (by unfold maxLen; omega) (by omega) (by simp) ?_; intro v2 w2 hown2 hgrow2 _)
  have hB2 := ((Below.refl _ w).alloc (Nat.le_refl _) _).grown hgrow2 (by simp) (own_ge hrow)
  rw [Nat.zero_add, List.nil_append] at hown2
  go_ret
  exact ⟨_, rfl, hown2, hB2⟩

set_option maxHeartbeats 1000000 in
theorem clone_zero (x : Addr) (cap : Nat) (w : World) :
    Calls Try.prog 34 #[.slice (some x) 0 cap] w fun e w' => ∃ v, e = .returned v ∧ w'.ownsRow w.heap.size 5 1 v 0 (encB 0 (fun _ => 0)) ∧ Below w.heap.size w w' := by
  obtain ⟨i0, hi, hz0, hz1, hz2⟩ := info_parts Try.infoU8
  have hrow := own_block0 w 5 w.heap.size (Nat.le_refl _)
  have he : ∀ w : World, (binOp .eql 27 (.slice (some x) 0 cap) (.slice none 0 0)).run Try.prog w = .ok (.bool false) w := fun _ => rfl
  go_enter Try.func34, Try.ntmps34
  go_wp2_with (at_builtin; refine wpList_append_own _ rfl _ _ 27 rfl w.heap.size 5 i0 (.int .u8 0) 1 1 Try.underlying27 hi hz0 hz1 hz2 rfl (by decide) _ _ _ rfl hrow x 0 _ [] rfl rfl (fun j u h => by simp at h) (fun u h => by simp at h) (by unfold maxLen; omega) (by omega) (by simp) ?_; intro v2 w2 hown2 hgrow2 _)
  have hB2 := ((Below.refl _ w).alloc (Nat.le_refl _) _).grown hgrow2 (by simp) (own_ge hrow)
  go_ret
  exact ⟨_, rfl, hown2, hB2⟩

end Go.Proofs.Ytmhkkdbfejajeaa
