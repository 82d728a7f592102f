/- A list's nodes are told: All, Back. -/
import Derived.Test.YtlphombjejgbiaaKRest1
namespace Go.Proofs.Ytlphombjejgbiaa
open Go.RowKit Go.Shelf
attribute [local go_sem] Oper.semAt_some

set_option maxHeartbeats 1000000 in
theorem tell_rest_none (B1 B2 B3 : Nat) (o : Pl) (s : Sx) (i : Int) (hi : inR s.m i = false) (f : Value) (W : World)
    (b1 : Boxed W B1 59 o.ptr) (b2 : Boxed W B2 3 (.int .i64 i)) (hK : Kx W o s) :
    Calls Try.prog 98 #[f, .pointer (some ⟨B1, 0, none⟩), .pointer (some ⟨B2, 0, none⟩), .pointer (some ⟨B3, 0, none⟩)] W fun e W' => e = .returned (.tuple #[]) ∧ W' = W := by
  have c1 := b1.cell
  have c2 := b2.cell
  have hl := hasList_k o s i W hK
  rw [hi] at hl
  clear hK b1 b2
  go_enter Try.func98, Try.ntmps98
  go_wp2_with fail
  refine hl.mono ?_
  rintro e w1 ⟨rfl, e1⟩
  subst e1
  go_wp2_with fail
  refine bodyPost_ret (results_none rfl _ _ _) rfl ?_
  exact ⟨rfl, rfl⟩

set_option maxHeartbeats 1000000 in
theorem tell_any (l : Option Addr) (k : Int) (g : Fn) (xs ys : Array Value) (w : World) :
    Calls Try.prog 97 #[.pointer l, .int .i64 k, .func g xs ys] w fun e w' => e = .returned (.func (.func 98) #[] #[.pointer (some ⟨w.heap.size, 0, none⟩), .pointer (some ⟨w.heap.size + 1, 0, none⟩), .pointer (some ⟨w.heap.size + 1 + 1, 0, none⟩)]) ∧ w' = ((w.alloc (.cells #[.pointer l] 59)).alloc (.cells #[.int .i64 k] 3)).alloc (.cells #[.func g xs ys] 76) := by
  go_enter Try.func97, Try.ntmps97
  go_wp2_with fail
  go_ret
  exact ⟨rfl, rfl⟩

/-- three boxes laid one behind the other -/
theorem boxes3 {w w' : World} {x y z : Value} {T U V : TypeId} (h : w' = ((w.alloc (.cells #[x] T)).alloc (.cells #[y] U)).alloc (.cells #[z] V)) :
    Below w.heap.size w w' ∧ Boxed w' w.heap.size T x ∧ Boxed w' (w.heap.size + 1) U y ∧ Boxed w' (w.heap.size + 1 + 1) V z ∧ w'.heap.size = w.heap.size + 1 + 1 + 1 := by
  subst h
  refine ⟨(((Below.refl _ w).alloc (Nat.le_refl _) _).alloc (by simp) _).alloc (by simp; omega) _, ((Boxed.new w _ _).alloc _).alloc _, ?_, ?_, by simp⟩
  · have := Boxed.new (w.alloc (.cells #[x] T)) U y
    rw [World.size_alloc] at this
    exact this.alloc _
  · have := Boxed.new ((w.alloc (.cells #[x] T)).alloc (.cells #[y] U)) V z
    rw [World.size_alloc, World.size_alloc] at this
    exact this

set_option maxHeartbeats 1000000 in
theorem all_k (l : Option Addr) (k : Int) (w : World) :
    Calls Try.prog 93 #[.pointer l, .int .i64 k] w fun e w' => e = .returned (.func (.func 98) #[] #[.pointer (some ⟨w.heap.size, 0, none⟩), .pointer (some ⟨w.heap.size + 1, 0, none⟩), .pointer (some ⟨w.heap.size + 1 + 1, 0, none⟩)]) ∧ w' = ((w.alloc (.cells #[.pointer l] 59)).alloc (.cells #[.int .i64 k] 3)).alloc (.cells #[.func (.func 92) #[.pointer l] #[]] 76) := by
  go_enter Try.func93, Try.ntmps93
  go_wp2_with fail
  refine (tell_any _ _ _ _ _ _).mono ?_
  rintro e w1 ⟨rfl, hw⟩
  subst hw
  go_wp2_with fail
  go_ret
  exact ⟨rfl, rfl⟩
theorem eql_tell_nil (A B C : Nat) (w : World) : Sem.run Try.prog (binOp BinOp.eql 78 (Value.func (Fn.func 98) #[] #[.pointer (some ⟨A, 0, none⟩), .pointer (some ⟨B, 0, none⟩), .pointer (some ⟨C, 0, none⟩)]) Value.nilFunc) w = .ok (.bool false) w := by kernel_rfl

end Go.Proofs.Ytlphombjejgbiaa
