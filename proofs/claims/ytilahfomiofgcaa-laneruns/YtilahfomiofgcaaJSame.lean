/- SameSlots: two rows of slots that hold the same. -/
import Derived.Test.YtilahfomiofgcaaJLane
import Derived.Deep.Light
namespace Go.Proofs.Ytilahfomiofgcaa
open Go.RowKit Go.Sort
set_option maxRecDepth 100000

/-- a row of slots that can be read: made behind n blocks -/
def SlN (n : Nat) (w : World) (v : Value) (l : List (Int × Int)) : Prop :=
  ∃ a cap, v = .slice a l.length cap ∧ l.length ≤ cap ∧ cap ≤ maxLen ∧ ∀ j u, l[j]? = some u → ∃ g off, a = some ⟨g, off, none⟩ ∧ n ≤ g ∧ w.cell? ⟨g, off + j * 2, none⟩ = some (.int .i64 u.1) ∧ w.cell? ⟨g, off + j * 2 + 1, none⟩ = some (.int .u64 u.2)
theorem SlN.below {n : Nat} {w w' : World} {v : Value} {l : List (Int × Int)} (h : SlN n w v l) (hb : Below w.heap.size w w') : SlN n w' v l := by
  obtain ⟨a, cap, hv, h1, h2, h3⟩ := h
  exact ⟨a, cap, hv, h1, h2, fun j u hu => by
    obtain ⟨g, off, ha, hn, c0, c1⟩ := h3 j u hu
    exact ⟨g, off, ha, hn, jcells hb c0, jcells hb c1⟩⟩
theorem SlN.els {n : Nat} {X : Nat → Prop} {w w' : World} {v : Value} {l : List (Int × Int)} (h : SlN n w v l) (hX : ∀ b, n ≤ b → b < w.heap.size → X b) (hb : But (Els X) w w') : SlN n w' v l := by
  obtain ⟨a, cap, hv, h1, h2, h3⟩ := h
  exact ⟨a, cap, hv, h1, h2, fun j u hu => by
    obtain ⟨g, off, ha, hn, c0, c1⟩ := h3 j u hu
    exact ⟨g, off, ha, hn, els_cell hb (hX g hn (cell_lt c0)) c0, els_cell hb (hX g hn (cell_lt c0)) c1⟩⟩
set_option maxHeartbeats 2000000 in
theorem jsame {n1 n2 : Nat} {v1 v2 : Value} (l : List (Int × Int)) (w : World) (h1 : SlN n1 w v1 l) (h2 : SlN n2 w v2 l) :
    Calls Try.prog 26 #[v1, v2] w fun e w' => e = .returned (.bool true) ∧ Below w.heap.size w w' := by
  obtain ⟨a, cap, rfl, hc1, hc2, H1⟩ := h1
  obtain ⟨a', cap', rfl, hc1', hc2', H2⟩ := h2
  have hl : l.length ≤ 9223372036854775807 := by unfold maxLen at hc2; omega
  have G1 : Hid (∀ j u, l[j]? = some u → ∃ g off, a = some ⟨g, off, none⟩ ∧ n1 ≤ g ∧ w.cell? ⟨g, off + j * 2, none⟩ = some (.int .i64 u.1) ∧ w.cell? ⟨g, off + j * 2 + 1, none⟩ = some (.int .u64 u.2)) := H1
  have G2 : Hid (∀ j u, l[j]? = some u → ∃ g off, a' = some ⟨g, off, none⟩ ∧ n2 ≤ g ∧ w.cell? ⟨g, off + j * 2, none⟩ = some (.int .i64 u.1) ∧ w.cell? ⟨g, off + j * 2 + 1, none⟩ = some (.int .u64 u.2)) := H2
  clear H1 H2 hc1 hc2 hc1' hc2'
  generalize hN : l.length = N at *
  go_enter Try.func26, Try.ntmps26
  go_wp2_with fail
  go_loopw [5] (fun vi wr => ∃ k : Nat, k ≤ N ∧ vi = .int .i64 k ∧ Hid (Below w.heap.size w wr)) (fun vi _ => N - (intOf vi).toNat)
  case atStart => exact ⟨0, Nat.zero_le _, rfl, Below.refl _ _⟩
  case round =>
    obtain ⟨k, hk, rfl, HB⟩ := hrel
    by_cases hlt : k < N
    · obtain ⟨u, hu⟩ : ∃ u, l[k]? = some u := ⟨l[k]'(by omega), List.getElem?_eq_getElem (by omega)⟩
      obtain ⟨g, off, rfl, _, c0, c1⟩ := G1.out k u hu
      obtain ⟨g', off', rfl, _, d0, d1⟩ := G2.out k u hu
      have r0 := cell_regrown (jcells HB.out c0)
      have r1 := cell_regrown (jcells HB.out c1)
      have r2 := cell_regrown (jcells HB.out d0)
      have r3 := cell_regrown (jcells HB.out d1)
      clear c0 c1 d0 d1 hu hN
      go_wp2_with fail
      refine wp_region_quiet_below (by kernel_rfl) (by kernel_rfl) ?_
      repeat (go_big_quiet_step (fail))
      refine wpQuiet_nil ?_
      intro _ hw'
      obtain ⟨⟨dq, osq⟩, hw''⟩ := hw'
      subst hw''
      have HB2 : Hid (Below w.heap.size w (grow (redrawn wr dq) osq)) := Below.onto HB.out (below_regrown wr dq osq)
      clear r0 r1 r2 r3
      generalize grow (redrawn wr dq) osq = w3 at *
      go_wp2_with fail
      go_roundw
      case rel => exact ⟨k + 1, by omega, by go_num, HB2⟩
      case measure => simp [intOf]; omega
    · go_wp2_with fail
      go_ret
      exact ⟨rfl, HB.out⟩
end Go.Proofs.Ytilahfomiofgcaa
