/- The statements' head: the example. -/
import Derived.Test.YtmhkkdbfejajeaaWStr
namespace Go.Proofs.Ytmhkkdbfejajeaa
open Go.RowKit

theorem str_send : strZ 16 (layZ 3 0 0 65793 2) = ⟨#[3, 0, 0, 0, 1, 1, 1, 0, 2, 0, 0, 0, 0, 0, 0, 0]⟩ := by decide +kernel

set_option maxRecDepth 100000 in
set_option maxHeartbeats 2000000 in
theorem walive_any (w : World) : Calls Try.prog 13 #[] w fun e w' => e = .returned (.bool true) ∧ Below w.heap.size w w' := by
  go_enter Try.func13, Try.ntmps13
  go_wp2_with fail
  refine (bytes_ok 3 0 0 65793 2 _ (by omega) (by omega) (by omega) (by decide)).mono ?_
  rintro e w1 ⟨B, rfl, hl, _, h1⟩
  have HC : Hid (Cells w1 .u8 (some ⟨B, 0, none⟩) 16 (layZ 3 0 0 65793 2)) := hl.cells
  clear hl
  go_wp2_with fail
  have hp := parse_ok B 0 16 _ w1 (by omega) HC.out (byt_lay 3 0 0 65793 2 (by omega) (by omega) (by omega)) (by decide +kernel) (by decide +kernel)
  rw [n4_lay 3 0 0 65793 2 (by omega) (by omega), n8_lay 3 0 0 65793 2 (by omega) (by omega), show layZ 3 0 0 65793 2 0 = 3 from rfl, show layZ 3 0 0 65793 2 1 = 0 from rfl, show layZ 3 0 0 65793 2 2 = 0 from rfl] at hp
  refine hp.mono ?_
  rintro e w2 ⟨rfl, h2⟩
  have HC2 := HC.out.below h2
  have hb2 := Below.onto h1 h2
  clear hp h1 h2 HC
  have hs := hb2.size
  go_wp2_with fail
  refine (parts_any 65793 _ (by omega) (by omega)).mono ?_
  rintro e w3 ⟨rfl, h3⟩
  subst h3
  have hcv := conv_at (cap := 16) (HC2.below ((Below.refl _ w2).alloc (Nat.le_refl _) (.cells #[.int .u8 3, .int .u8 0, .int .u8 0, .int .u32 65793, .int .u64 2] 26)))
  rw [str_send] at hcv
  clear HC2
  go_wp2_with fail
  go_ret
  exact ⟨rfl, hb2.alloc hs _⟩

end Go.Proofs.Ytmhkkdbfejajeaa
