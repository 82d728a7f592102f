/- Forests that nobody made: nil, or not made. -/
import Derived.Test.YtopjidlhhamjhaaDMade
namespace Go.Proofs.Ytopjidlhhamjhaa
open Go.RowKit Go.Shelf
attribute [local go_sem] Oper.semAt_some
set_option maxRecDepth 100000

def Nb (W : World) (p : Value) : Prop := p = .pointer none ∨ ∃ P, p = .pointer (some ⟨P, 0, none⟩) ∧ W.cell? ⟨P, 0, none⟩ = some (.pointer none)
theorem Nb.below {W W' : World} {p : Value} (h : Nb W p) (hb : Below W.heap.size W W') : Nb W' p := by
  rcases h with h | ⟨P, h1, h2⟩
  · exact .inl h
  · exact .inr ⟨P, h1, (hb.cell (p := ⟨P, 0, none⟩) (cell_lt h2)).trans h2⟩
theorem nis_k {W : World} {p : Value} (h : Nb W p) : Calls Try.prog 56 #[p] W fun e w' => e = .returned (.bool false) ∧ w' = W := by
  rcases h with rfl | ⟨P, rfl, c⟩
  all_goals
    go_enter Try.func56, Try.ntmps56
    go_wp2_with fail
    go_ret
    exact ⟨rfl, rfl⟩
theorem nmay_k {W : World} {p : Value} (h : Nb W p) (a : Option Addr) (n c : Nat) : Calls Try.prog 51 #[p, .slice a n c] W fun e w' => e = .returned (.int .i64 4) ∧ w' = W := by
  have hi := nis_k h
  clear h
  go_enter Try.func51, Try.ntmps51
  go_wp2_with fail
  refine hi.mono ?_
  rintro e w' ⟨rfl, rfl⟩
  go_wp2_with fail
  go_ret
  exact ⟨rfl, rfl⟩

theorem nhas_k {W : World} {p : Value} (h : Nb W p) (x : Int) : Calls Try.prog 18 #[p, .int .i64 x] W fun e w' => e = .returned (.bool false) ∧ Below W.heap.size W w' := by
  have HW : Hid (Nb W p ∧ Below W.heap.size W W) := ⟨h, Below.refl _ _⟩
  have hB : Below W.heap.size W (W.alloc (.cells #[.int .i64 x] 3)) := (Below.refl _ W).alloc (Nat.le_refl _) _
  have h0 := nmay_k (h.below hB) (some ⟨W.heap.size, 0, none⟩) 1 1
  clear h
  go_enter Try.func18, Try.ntmps18
  go_wp2_with fail
  refine h0.mono ?_
  rintro e w1 ⟨rfl, rfl⟩
  have HB : Hid (Below W.heap.size W _) := hB
  go_wp2_with fail
  go_ret
  exact ⟨rfl, HB.out⟩

theorem nmust_k {W : World} {p : Value} (h : Nb W p) (x : Int) : Calls Try.prog 59 #[p, .int .i64 x] W fun e w' => e = .returned (.int .i64 4) ∧ Below W.heap.size W w' := by
  have HW : Hid (Nb W p ∧ Below W.heap.size W W) := ⟨h, Below.refl _ _⟩
  have hB : Below W.heap.size W (W.alloc (.cells #[.int .i64 x] 3)) := (Below.refl _ W).alloc (Nat.le_refl _) _
  have h0 := nmay_k (h.below hB) (some ⟨W.heap.size, 0, none⟩) 1 1
  clear h
  go_enter Try.func59, Try.ntmps59
  go_wp2_with fail
  refine h0.mono ?_
  rintro e w1 ⟨rfl, rfl⟩
  have HB : Hid (Below W.heap.size W _) := hB
  go_wp2_with fail
  go_ret
  exact ⟨rfl, HB.out⟩

theorem nroot_k {W : World} {p : Value} (h : Nb W p) (x : Int) : Calls Try.prog 25 #[p, .int .i64 x] W fun e w' => e = .returned (.int .i64 4) ∧ Below W.heap.size W w' := by
  have HW : Hid (Nb W p ∧ Below W.heap.size W W) := ⟨h, Below.refl _ _⟩
  have hB : Below W.heap.size W (W.alloc (.cells #[.int .i64 x] 3)) := (Below.refl _ W).alloc (Nat.le_refl _) _
  have h0 := nmay_k (h.below hB) (some ⟨W.heap.size, 0, none⟩) 1 1
  clear h
  go_enter Try.func25, Try.ntmps25
  go_wp2_with fail
  refine h0.mono ?_
  rintro e w1 ⟨rfl, rfl⟩
  have HB : Hid (Below W.heap.size W _) := hB
  go_wp2_with fail
  go_ret
  exact ⟨rfl, HB.out⟩

theorem nder_k {W : World} {p : Value} (h : Nb W p) (x y : Int) : Calls Try.prog 26 #[p, .int .i64 x, .int .i64 y] W fun e w' => e = .returned (.int .i64 4) ∧ Below W.heap.size W w' := by
  have HW : Hid (Nb W p ∧ Below W.heap.size W W) := ⟨h, Below.refl _ _⟩
  have hB : Below W.heap.size W (W.alloc (.cells #[.int .i64 x, .int .i64 y] 3)) := (Below.refl _ W).alloc (Nat.le_refl _) _
  have h0 := nmay_k (h.below hB) (some ⟨W.heap.size, 0, none⟩) 2 2
  clear h
  go_enter Try.func26, Try.ntmps26
  go_wp2_with fail
  refine h0.mono ?_
  rintro e w1 ⟨rfl, rfl⟩
  have HB : Hid (Below W.heap.size W _) := hB
  go_wp2_with fail
  go_ret
  exact ⟨rfl, HB.out⟩

theorem ncut_k {W : World} {p : Value} (h : Nb W p) (x : Int) : Calls Try.prog 24 #[p, .int .i64 x] W fun e w' => e = .returned (.tuple #[.slice none 0 0, .int .i64 4]) ∧ Below W.heap.size W w' := by
  have HW : Hid (Nb W p ∧ Below W.heap.size W W) := ⟨h, Below.refl _ _⟩
  have h0 := fun W' (hW : Nb W' p) => nmust_k hW x
  clear h
  go_enter Try.func24, Try.ntmps24
  go_wp2_with fail
  refine (h0 _ HW.out.1).mono ?_
  rintro e w1 ⟨rfl, hb⟩
  have HB : Hid (Below W.heap.size W w1) := hb
  go_wp2_with fail
  go_ret2
  exact ⟨rfl, HB.out⟩

theorem npru_k {W : World} {p : Value} (h : Nb W p) (x : Int) : Calls Try.prog 23 #[p, .int .i64 x] W fun e w' => e = .returned (.tuple #[.slice none 0 0, .int .i64 4]) ∧ Below W.heap.size W w' := by
  have HW : Hid (Nb W p ∧ Below W.heap.size W W) := ⟨h, Below.refl _ _⟩
  have h0 := fun W' (hW : Nb W' p) => nmust_k hW x
  clear h
  go_enter Try.func23, Try.ntmps23
  go_wp2_with fail
  refine (h0 _ HW.out.1).mono ?_
  rintro e w1 ⟨rfl, hb⟩
  have HB : Hid (Below W.heap.size W w1) := hb
  go_wp2_with fail
  go_ret2
  exact ⟨rfl, HB.out⟩

theorem npar_k {W : World} {p : Value} (h : Nb W p) (x : Int) : Calls Try.prog 19 #[p, .int .i64 x] W fun e w' => e = .returned (.tuple #[.int .i64 0, .bool false]) ∧ Below W.heap.size W w' := by
  have HW : Hid (Nb W p ∧ Below W.heap.size W W) := ⟨h, Below.refl _ _⟩
  have h0 := fun W' (hW : Nb W' p) => nhas_k hW x
  clear h
  go_enter Try.func19, Try.ntmps19
  go_wp2_with fail
  refine (h0 _ HW.out.1).mono ?_
  rintro e w1 ⟨rfl, hb⟩
  have HB : Hid (Below W.heap.size W w1) := hb
  go_wp2_with fail
  go_ret2
  exact ⟨rfl, HB.out⟩

theorem ndep_k {W : World} {p : Value} (h : Nb W p) (x : Int) : Calls Try.prog 21 #[p, .int .i64 x] W fun e w' => e = .returned (.int .i64 0) ∧ Below W.heap.size W w' := by
  have hi := nis_k h
  clear h
  go_enter Try.func21, Try.ntmps21
  go_wp2_with fail
  refine hi.mono ?_
  rintro e w' ⟨rfl, rfl⟩
  go_wp2_with fail
  go_ret
  exact ⟨rfl, Below.refl _ _⟩

theorem nlen_k {W : World} {p : Value} (h : Nb W p)  : Calls Try.prog 22 #[p] W fun e w' => e = .returned (.int .i64 0) ∧ Below W.heap.size W w' := by
  have hi := nis_k h
  clear h
  go_enter Try.func22, Try.ntmps22
  go_wp2_with fail
  refine hi.mono ?_
  rintro e w' ⟨rfl, rfl⟩
  go_wp2_with fail
  go_ret
  exact ⟨rfl, Below.refl _ _⟩

theorem nund_k {W : World} {p : Value} (h : Nb W p) (x y : Int) : Calls Try.prog 20 #[p, .int .i64 x, .int .i64 y] W fun e w' => e = .returned (.bool false) ∧ Below W.heap.size W w' := by
  have hB : Below W.heap.size W (W.alloc (.cells #[.int .i64 y] 3)) := (Below.refl _ W).alloc (Nat.le_refl _) _
  have HB : Hid (Below W.heap.size W (W.alloc (.cells #[.int .i64 y] 3))) := hB
  have hh := nhas_k (h.below hB) x
  clear h hB
  go_enter Try.func20, Try.ntmps20
  go_wp2_with fail
  refine hh.mono ?_
  rintro e w1 ⟨rfl, hb⟩
  have HB2 : Hid (Below W.heap.size W w1) := Below.onto HB.out hb
  go_wp2_with fail
  go_ret
  exact ⟨rfl, HB2.out⟩
theorem nbelow_k {W : World} {p : Value} (h : Nb W p) (x : Int) : Calls Try.prog 14 #[p, .int .i64 x, .int .i64 5] W fun e w' => e = .returned (.tuple #[.slice none 0 0, .bool true]) ∧ Below W.heap.size W w' := by
  have hf : Calls Try.prog 49 #[p, .int .i64 x] (W.alloc (.cells #[.int .i64 5] 3)) fun e w' => e = .returned (.func (.func 78) #[] #[.pointer (some ⟨W.heap.size + 1, 0, none⟩), .pointer (some ⟨W.heap.size + 1 + 1, 0, none⟩)]) ∧ w' = ((W.alloc (.cells #[.int .i64 5] 3)).alloc (.cells #[p] 24)).alloc (.cells #[.int .i64 x] 3) := by
    rcases h with rfl | ⟨P, rfl, _⟩
    all_goals
      go_enter Try.func49, Try.ntmps49
      go_wp2_with fail
      go_ret
      exact ⟨by simp, rfl⟩
  have hnil := eql_below_nil (W.heap.size + 1) (W.heap.size + 1 + 1)
  have hb1 : ∀ (W3 : World) (C M : Nat), Nb W3 p → Boxed W3 (W.heap.size + 1) 24 p → Boxed W3 (W.heap.size + 1 + 1) 3 (.int .i64 x) → Calls Try.prog 78 #[.func (.func 50) #[] #[.pointer (some ⟨C, 0, none⟩), .pointer (some ⟨M, 0, none⟩)], .pointer (some ⟨W.heap.size + 1, 0, none⟩), .pointer (some ⟨W.heap.size + 1 + 1, 0, none⟩)] W3 fun e w' => e = .returned (.tuple #[]) ∧ Below W3.heap.size W3 w' := by
    intro W3 C M hN b1 b2
    have hh := nhas_k hN x
    have c1 := b1.cell
    have c2 := b2.cell
    clear hf h hN b1 b2 hnil
    go_enter Try.func78, Try.ntmps78
    go_wp2_with fail
    refine hh.mono ?_
    rintro e w1 ⟨rfl, hb⟩
    go_wp2_with fail
    exact bodyPost_ret (results_none rfl _ _ _) rfl ⟨rfl, hb⟩
  obtain ⟨W3, hW3⟩ : ∃ W3, W3 = (((W.alloc (.cells #[.int .i64 5] 3)).alloc (.cells #[p] 24)).alloc (.cells #[.int .i64 x] 3)).alloc (.cells #[.slice none 0 0] 35) := ⟨_, rfl⟩
  have hB : Below W.heap.size W W3 := by
    rw [hW3]
    exact ((((Below.refl W.heap.size W).alloc (Nat.le_refl _) _).alloc (by simp) _).alloc (by simp; omega) _).alloc (by simp; omega) _
  have x2 := ((Boxed.new (W.alloc (.cells #[.int .i64 5] 3)) 24 p).alloc (.cells #[.int .i64 x] 3)).alloc (.cells #[.slice none 0 0] 35)
  have x3 := (Boxed.new ((W.alloc (.cells #[.int .i64 5] 3)).alloc (.cells #[p] 24)) 3 (.int .i64 x)).alloc (.cells #[.slice none 0 0] 35)
  have x4 := Boxed.new (((W.alloc (.cells #[.int .i64 5] 3)).alloc (.cells #[p] 24)).alloc (.cells #[.int .i64 x] 3)) 35 (.slice none 0 0)
  rw [← hW3] at x2 x3 x4
  simp only [World.size_alloc] at x2 x3 x4
  have hc := hb1 W3 (W.heap.size + 1 + 1 + 1) W.heap.size (h.below hB) x2 x3
  have HX : Hid (Below W.heap.size W W3 ∧ Boxed W3 (W.heap.size + 1 + 1 + 1) 35 (.slice none 0 0)) := ⟨hB, x4⟩
  clear hb1 hB x2 x3 x4 h
  go_enter Try.func14, Try.ntmps14
  go_wp2_with fail
  refine hf.mono ?_
  rintro e w1 ⟨rfl, rfl⟩
  go_wp2_with fail
  rw [← hW3]
  clear hf hnil hW3
  refine hc.mono ?_
  rintro e w4 ⟨rfl, hb⟩
  have b4 : Boxed w4 (W.heap.size + 1 + 1 + 1) 35 (.slice none 0 0) := (hb.block _ HX.out.2.lt).trans HX.out.2
  have c := b4.cell
  have HB : Hid (Below W.heap.size W w4) := Below.onto HX.out.1 hb
  clear hb b4 hc
  go_wp2_with fail
  go_ret2
  exact ⟨rfl, HB.out⟩
end Go.Proofs.Ytopjidlhhamjhaa
