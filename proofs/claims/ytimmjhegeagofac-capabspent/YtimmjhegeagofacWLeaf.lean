/- Handles and their parts: what the code and the document's answer come to. -/
import Derived.Test.YtimmjhegeagofacMem
import Derived.Test.YtimmjhegeagofacWMath
namespace Go.Proofs.Ytimmjhegeagofac
open Go.RowKit

theorem ret2 {k k' : IntKind} {a b c d : Int} (h : a = b) (h' : c = d) : Ending.returned (.tuple #[.int k a, .int k' c]) = .returned (.tuple #[.int k b, .int k' d]) := by rw [h, h']

set_option maxHeartbeats 400000 in
theorem within_any (n l : Int) (w : World) :
    Calls Try.prog 25 #[.int .i64 n, .int .i64 l] w fun e w' => e = .returned (.bool (inB n l)) ∧ w' = w := by
  by_cases h : 0 ≤ n
  · go_enter Try.func25, Try.ntmps25
    go_wp2
    go_ret
    exact ⟨ret_bool (by simp [inB, h]), rfl⟩
  · have h' : n < 0 := by omega
    have hd : decide (0 ≤ n) = false := by simpa using h
    go_enter Try.func25, Try.ntmps25
    go_wp2
    go_ret
    exact ⟨ret_bool (by simp [inB, hd]), rfl⟩

theorem within_at (n l : Int) (w : World) (b : Bool) (hb : inB n l = b) :
    Calls Try.prog 25 #[.int .i64 n, .int .i64 l] w fun e w' => e = .returned (.bool b) ∧ w' = w := by
  rw [← hb]; exact within_any n l w

set_option maxHeartbeats 1000000 in
theorem hand_any (p r g : Int) (w : World) :
    Calls Try.prog 23 #[.int .i64 p, .int .i64 r, .int .i64 g] w fun e w' => e = .returned (.tuple #[.int .u32 (handAns p r g), .int .i64 (errI (handB p r g))]) ∧ w' = w := by
  cases h1 : inB p 255
  · have e1 : handB p r g = false := by simp [handB, h1]
    have H : Hid (handAns p r g = 0 ∧ errI (handB p r g) = 30) := ⟨by simp [handAns, e1], by simp [errI, e1]⟩
    have c := fun w => within_at p 255 w false h1
    clear h1 e1
    go_enter Try.func23, Try.ntmps23
    go_wp2_with fail
    refine (c _).mono ?_
    rintro e w' ⟨rfl, rfl⟩
    go_wp2_with fail
    go_ret2
    exact ⟨ret2 H.out.1.symm H.out.2.symm, rfl⟩
  · have c := fun w => within_at p 255 w true h1
    cases h2 : inB r 255
    · have e1 : handB p r g = false := by simp [handB, h2]
      have H : Hid (handAns p r g = 0 ∧ errI (handB p r g) = 30) := ⟨by simp [handAns, e1], by simp [errI, e1]⟩
      have c2 := fun w => within_at r 255 w false h2
      clear h1 h2 e1
      go_enter Try.func23, Try.ntmps23
      go_wp2_with fail
      refine (c _).mono ?_
      rintro e w' ⟨rfl, rfl⟩
      go_wp2_with fail
      refine (c2 _).mono ?_
      rintro e w' ⟨rfl, rfl⟩
      go_wp2_with fail
      go_ret2
      exact ⟨ret2 H.out.1.symm H.out.2.symm, rfl⟩
    · have c2 := fun w => within_at r 255 w true h2
      cases h3 : inB g 65535
      · have e1 : handB p r g = false := by simp [handB, h3]
        have H : Hid (handAns p r g = 0 ∧ errI (handB p r g) = 30) := ⟨by simp [handAns, e1], by simp [errI, e1]⟩
        have c3 := fun w => within_at g 65535 w false h3
        clear h1 h2 h3 e1
        go_enter Try.func23, Try.ntmps23
        go_wp2_with fail
        refine (c _).mono ?_
        rintro e w' ⟨rfl, rfl⟩
        go_wp2_with fail
        refine (c2 _).mono ?_
        rintro e w' ⟨rfl, rfl⟩
        go_wp2_with fail
        refine (c3 _).mono ?_
        rintro e w' ⟨rfl, rfl⟩
        go_wp2_with fail
        go_ret2
        exact ⟨ret2 H.out.1.symm H.out.2.symm, rfl⟩
      · have c3 := fun w => within_at g 65535 w true h3
        have e1 : handB p r g = true := by simp [handB, h1, h2, h3]
        obtain ⟨p0, p1⟩ := inB_true.1 h1
        obtain ⟨r0, r1⟩ := inB_true.1 h2
        obtain ⟨g0, g1⟩ := inB_true.1 h3
        have H : Hid (bits .or .u32 (bits .or .u32 p (r * 256)) (g * 65536) = handAns p r g ∧ errI (handB p r g) = 0) := ⟨by rw [hand_or p0 p1 r0 r1 g0 g1]; simp [handAns, e1], by simp [errI, e1]⟩
        clear h1 h2 h3 e1
        go_enter Try.func23, Try.ntmps23
        go_wp2_with fail
        refine (c _).mono ?_
        rintro e w' ⟨rfl, rfl⟩
        go_wp2_with fail
        refine (c2 _).mono ?_
        rintro e w' ⟨rfl, rfl⟩
        go_wp2_with fail
        refine (c3 _).mono ?_
        rintro e w' ⟨rfl, rfl⟩
        go_wp2_with fail
        go_ret2
        exact ⟨ret2 H.out.1 H.out.2.symm, rfl⟩

set_option maxHeartbeats 400000 in
theorem parts_any (h : Int) (w : World) (h0 : 0 ≤ h) (h1 : h < 4294967296) :
    Calls Try.prog 24 #[.int .u32 h] w fun e w' => e = .returned (.tuple #[.int .i64 (h % 256), .int .i64 (h / 256 % 256), .int .i64 (h / 65536)]) ∧ w' = w := by
  have b1 := and_255 h0 h1
  have b2 := and_255 (x := h / 256) (by omega) (by omega)
  go_enter Try.func24, Try.ntmps24
  go_wp2
  go_ret3
  exact ⟨rfl, rfl⟩
end Go.Proofs.Ytimmjhegeagofac
