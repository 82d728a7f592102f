/- Handles and their parts: what the code and the document's answer come to. -/
import Derived.Test.YtmhkkdbfejajeabMem
import Derived.Test.YtmhkkdbfejajeabWMath
namespace Go.Proofs.Ytmhkkdbfejajeab
open Go.RowKit

theorem ret2 {k k' : IntKind} {a b c d : Int} (h : a = b) (h' : c = d) : Ending.returned (.tuple #[.int k a, .int k' c]) = .returned (.tuple #[.int k b, .int k' d]) := by rw [h, h']

set_option maxHeartbeats 400000 in
theorem parts_any (h : Int) (w : World) (h0 : 0 ≤ h) (h1 : h < 4294967296) :
    Calls Try.prog 14 #[.int .u32 h] w fun e w' => e = .returned (.tuple #[.int .i64 (h % 256), .int .i64 (h / 256 % 256), .int .i64 (h / 65536)]) ∧ w' = w := by
  have b1 := and_255 h0 h1
  have b2 := and_255 (x := h / 256) (by omega) (by omega)
  go_enter Try.func14, Try.ntmps14
  go_wp2
  go_ret3
  exact ⟨rfl, rfl⟩
end Go.Proofs.Ytmhkkdbfejajeab
