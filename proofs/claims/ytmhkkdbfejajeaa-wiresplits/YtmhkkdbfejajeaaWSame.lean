/- The document's SamePieces, at rows of the same pieces. -/
import Derived.Test.YtmhkkdbfejajeaaWSplM
namespace Go.Proofs.Ytmhkkdbfejajeaa
open Go.RowKit

set_option maxHeartbeats 4000000 in
theorem same_pieces (v1 v2 : Value) (N n : Nat) (z : Nat → Int) (w : World) (hN : N ≤ 1048576) (h1 : PRow w v1 N n z) (h2 : PRow w v2 N n z) :
    Calls Try.prog 20 #[v1, v2] w fun e w' => e = .returned (.bool true) ∧ Below w.heap.size w w' := by
  obtain ⟨a1, c1, rfl, h1⟩ := h1
  obtain ⟨a2, c2, rfl, h2⟩ := h2
  have H1 : Hid (PRow w (.slice a1 N c1) N n z) := ⟨a1, c1, rfl, h1⟩
  have H2 : Hid (PRow w (.slice a2 N c2) N n z) := ⟨a2, c2, rfl, h2⟩
  clear h1 h2
  go_enter Try.func20, Try.ntmps20
  go_wp2
  go_loopw [5] (fun i wr => ∃ k : Nat, k ≤ N ∧ i = .int .i64 k ∧ Below w.heap.size w wr) (fun i _ => N - (intOf i).toNat)
  case atStart => exact ⟨0, by omega, rfl, Below.refl _ _⟩
  case round =>
    obtain ⟨k, hk, rfl, hbel⟩ := hrel
    by_cases hlt : k < N
    · obtain ⟨_, _, e1, h1⟩ := H1.out.below hbel
      obtain ⟨_, _, e2, h2⟩ := H2.out.below hbel
      cases e1
      cases e2
      obtain ⟨b1, o1, p1, q1, d1, rfl, x1, z1⟩ := h1 k hlt
      obtain ⟨b2, o2, p2, q2, d2, rfl, x2, z2⟩ := h2 k hlt
      have y1 := conv_at (cap := d1) (z1.below (Below.refl _ _).drew)
      have y2 := conv_at (cap := d2) (z2.below (Below.refl _ _).drew)
      have HZ : Hid (Cells wr .u8 (some ⟨p1, q1, none⟩) (ln n k) (fun j => z (16 * k + j)) ∧ Cells wr .u8 (some ⟨p2, q2, none⟩) (ln n k) (fun j => z (16 * k + j))) := ⟨z1, z2⟩
      have kI : (k : Int) < (N : Int) := by omega
      generalize strZ (ln n k) (fun j => z (16 * k + j)) = t at *
      clear h1 h2 z1 z2
      generalize ln n k = l at *
      go_wp2_with fail
      go_region_held3 (fun W => W.cell? ⟨b1, o1 + k, none⟩ = some (.slice (some ⟨p1, q1, none⟩) l d1) ∧ W.cell? ⟨b2, o2 + k, none⟩ = some (.slice (some ⟨p2, q2, none⟩) l d2) ∧ (convert 27 9 (.slice (some ⟨p1, q1, none⟩) l d1)).run Try.prog W = .ok (.string t) W ∧ (convert 27 9 (.slice (some ⟨p2, q2, none⟩) l d2)).run Try.prog W = .ok (.string t) W) (first | assumption | exact ⟨x1, x2, y1, y2⟩) (fail)
      go_wp2_with fail
      go_roundw
      case rel => exact ⟨k + 1, by omega, by go_num, hbel.drew⟩
      case measure => simp [intOf]; omega
    · obtain rfl : k = N := by omega
      go_wp2
      go_ret
      exact ⟨rfl, hbel⟩

end Go.Proofs.Ytmhkkdbfejajeaa
