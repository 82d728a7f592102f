/- The document's New. -/
import Derived.Test.YtimmjhegeagofabVRef3
namespace Go.Proofs.Ytimmjhegeagofab
open Go.RowKit Go.Sort
set_option maxRecDepth 100000

/-- a new place's cells -/
def npC : List Value := [.bool false, .int .i64 1, .int .i64 0, .int .u8 0]
def npL (k : Nat) : List Value := (List.replicate k npC).flatten
theorem npL_len (k : Nat) : (npL k).length = k * 4 := by
  induction k with
  | zero => rfl
  | succ k ih => unfold npL at *; rw [List.replicate_succ, List.flatten_cons, List.length_append, ih]; simp [npC]; omega
theorem npL_succ (k : Nat) : npL (k + 1) = npL k ++ npC := by
  unfold npL
  rw [List.replicate_succ', List.flatten_append]
  simp
theorem npL_at : ∀ {k i : Nat}, i < k → ∀ f v, npC[f]? = some v → (npL k)[i * 4 + f]? = some v
  | k + 1, i, hi, f, v, hv => by
    have hf : f < 4 := (List.getElem?_eq_some_iff.1 hv).1
    rw [npL_succ]
    by_cases h : i < k
    · rw [List.getElem?_append_left (by rw [npL_len]; omega)]
      exact npL_at h f v hv
    · obtain rfl : i = k := by omega
      rw [List.getElem?_append_right (by rw [npL_len]; omega), npL_len, show i * 4 + f - i * 4 = f by omega]
      exact hv
theorem eltP : Elt 113 117 4 32 (.agg #[.bool false, .int .i64 0, .int .i64 0, .int .u8 0]) := ⟨Try.underlying113, by kernel_rfl, rfl, by decide, by decide⟩
set_option maxHeartbeats 4000000 in
theorem rnew_bad (n : Int) (w : World) (hn : n < 0 ∨ 32 < n) : Calls Try.prog 29 #[.int .i64 n] w fun e w' => e = .returned (.tuple #[.pointer none, .int .i64 1]) ∧ w' = w := by
  by_cases h : n < 0
  · go_enter Try.func29, Try.ntmps29
    go_wp2
    go_ret2
    exact ⟨rfl, rfl⟩
  · have h' : 32 < n := by omega
    go_enter Try.func29, Try.ntmps29
    go_wp2
    go_ret2
    exact ⟨rfl, rfl⟩
/-- while New makes it -/
structure RnI (w0 w : World) (v : Value) (k : Nat) : Prop where
  c : w.cell? ⟨w0.heap.size, 0, none⟩ = some v
  f : ∀ i, w.frozen? ⟨w0.heap.size, i, none⟩ = false
  o : w.ownsRow (w0.heap.size + 1) 117 4 v k (npL k)
  bel : Below w0.heap.size w0 w
theorem RnI.rt {w0 w : World} {v : Value} {n : Nat} (h : RnI w0 w v n) (hn : n ≤ 32) : ∃ b a cap, Rt w w0.heap.size b a cap (newTb n) ∧ w0.heap.size < b := by
  obtain ⟨a, cap, rfl⟩ := vown_form h.o
  by_cases h0 : 0 < n
  · obtain ⟨g, rfl, hc, hcell⟩ := vown_at h.o h0
    have hg := vown_base h.o (b := g) rfl
    have hfz : ∀ i, w.frozen? ⟨g, i, none⟩ = false := by
      rcases h.o.2 with ⟨e, _⟩ | ⟨g', cap', cur, e, _, h2, _⟩
      · cases e
      · cases e; exact fun i => frozen_of_row _ _ i _ _ h2
    refine ⟨g, _, cap, ⟨h.c, fun _ => rfl, hc, fun i hi => ?_, fun i hi => ?_, fun i hi => ?_, fun i hi => ?_, fun _ => hfz, by omega, newTb_ok hn⟩, by omega⟩
    · have hi : i < n := hi
      rw [newTb_at hi]; exact hcell _ _ (npL_at hi 0 _ rfl)
    · have hi : i < n := hi
      rw [newTb_at hi]; exact hcell _ _ (npL_at hi 1 _ rfl)
    · have hi : i < n := hi
      rw [newTb_at hi]; exact hcell _ _ (npL_at hi 2 _ rfl)
    · have hi : i < n := hi
      rw [newTb_at hi]; exact hcell _ _ (npL_at hi 3 _ rfl)
  · have e0 : (newTb n).n = n := rfl
    have hcap : n ≤ cap := by omega
    exact ⟨w0.heap.size + 1, a, cap, ⟨h.c, fun h => absurd h (by rw [e0]; omega), hcap, fun i hi => absurd hi (by rw [e0]; omega), fun i hi => absurd hi (by rw [e0]; omega), fun i hi => absurd hi (by rw [e0]; omega), fun i hi => absurd hi (by rw [e0]; omega), fun h => absurd h (by rw [e0]; omega), by omega, newTb_ok hn⟩, by omega⟩
set_option maxHeartbeats 8000000 in
theorem rnew_any (n : Nat) (w : World) (hn : n ≤ 32) : Calls Try.prog 29 #[.int .i64 (n : Int)] w fun e w' => ∃ b a cap, e = .returned (.tuple #[rfV w.heap.size, .int .i64 0]) ∧ Rt w' w.heap.size b a cap (newTb n) ∧ w.heap.size < b ∧ Below w.heap.size w w' := by
  have HI : Hid (RnI w (w.alloc (.cells #[.slice none 0 0] 115)) (.slice none 0 0) 0) :=
    ⟨bx_new w [.slice none 0 0] _ 0 _ rfl, fun i => frozen_of_row _ _ i _ _ (gheap_new w _), World.ownsRow_nil _ _ _ _, below_new _ _⟩
  go_enter Try.func29, Try.ntmps29
  go_wp2_with fail
  generalize w.alloc (.cells #[.slice none 0 0] 115) = w1 at *
  go_loopw [5] (fun t wr => ∃ (v : Value) (k : Nat), k ≤ n ∧ t = .int .i64 k ∧ Hid (RnI w wr v k)) (fun t _ => n - (intOf t).toNat)
  case atStart => exact ⟨_, 0, Nat.zero_le _, rfl, HI.out⟩
  case round =>
    obtain ⟨v, k, hk, rfl, hI⟩ := hrel
    by_cases hlt : k < n
    · obtain ⟨va, vc, rfl⟩ := vown_form hI.out.o
      have c0 := hI.out.c
      have l1 := cell_lt c0
      obtain ⟨v', w3, hrun, hown, hbut, hloc⟩ := vapp (ty := 113) eltP npC hI.out.o rfl (by simp [npC, Value.oneCell']) (by omega) (by omega)
      have hq : ¬ (Value.slice va k vc).ownBlock = some w.heap.size := fun e => by have := vown_base hI.out.o e; omega
      have d0 : w3.cell? ⟨w.heap.size, 0, none⟩ = some (.slice va k vc) := But.cell hbut c0 hq
      have df : ∀ i, w3.frozen? ⟨w.heap.size, i, none⟩ = false := fun i => (World.frozen?_of_block (w := wr) (a := ⟨w.heap.size, i, none⟩) (hbut.block _ l1 hq)).trans (hI.out.f i)
      have dl := cell_lt d0
      obtain ⟨va', vc', rfl⟩ := vown_form hown
      have HI3 : Hid (RnI w (w3.setCell ⟨w.heap.size, 0, none⟩ (.slice va' (k + 1) vc')) (.slice va' (k + 1) vc') (k + 1)) := by
        refine ⟨cell_set_eq d0, fun i => by rw [fz_set]; exact df i, ?_, ?_⟩
        · rw [npL_succ]
          refine vown_same hown fun b e => Below.heap_setCell _ _ _ _ ?_
          have := vown_base hown e
          show b ≠ w.heap.size
          omega
        · refine (hI.out.bel.trans (hbut.below hI.out.bel.size fun g hg => ?_)).setCell (Nat.le_refl _) _
          have := vown_base hI.out.o hg
          omega
      unfold npC at hrun
      clear hown hbut hloc
      go_wp2_with (at_builtin; refine wpList_append_run rfl (.tmp 23) (.tmp 25) 113 rfl _ _ _ rfl rfl hrun ?_)
      exact ⟨⟨_, k + 1, by omega, by go_num, HI3.out⟩, by simp [intOf]; omega⟩
    · obtain rfl : k = n := by omega
      obtain ⟨b, a, cap, hr, hb⟩ := hI.out.rt hn
      have HR : Hid (Rt wr w.heap.size b a cap (newTb k)) := hr
      clear hr
      go_wp2_with fail
      go_ret2
      exact ⟨b, a, cap, rfl, HR.out, hb, hI.out.bel⟩
end Go.Proofs.Ytimmjhegeagofab
