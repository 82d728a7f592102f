/- The law's below; two rows; the example. -/
import Derived.Test.YtlphombjejgbiaaDAsk
namespace Go.Proofs.Ytlphombjejgbiaa
open Go.RowKit Go.Shelf
attribute [local go_sem] Oper.semAt_some
set_option maxRecDepth 100000

set_option maxHeartbeats 1000000 in
theorem rsame12_true (a b : Option Addr) (n ca cb : Nat) (z y : Nat → Int) (w : World) (hn : n < 9223372036854775807) (ha : Cells w .i64 a n z) (hb : Cells w .i64 b n y) (he : ∀ j, j < n → z j = y j) :
    Calls Try.prog 12 #[.slice a n ca, .slice b n cb] w fun e w' => e = .returned (.bool true) ∧ Below w.heap.size w w' := by
  have HA : Hid (Cells w .i64 a n z) := ha
  have HB : Hid (Cells w .i64 b n y) := hb
  have HE : Hid (∀ j, j < n → z j = y j) := he
  clear ha hb he
  go_enter Try.func12, Try.ntmps12
  go_wp2
  go_loopw [5] (fun i wr => ∃ k : Nat, k ≤ n ∧ i = .int .i64 k ∧ Below w.heap.size w wr) (fun i _ => n - (intOf i).toNat)
  case atStart => exact ⟨0, by omega, rfl, Below.refl _ _⟩
  case round =>
    obtain ⟨k, hk, rfl, hbel⟩ := hrel
    by_cases hlt : k < n
    · obtain ⟨b1, o1, rfl, hc1⟩ := HA.out.below hbel k hlt
      obtain ⟨b2, o2, rfl, hc2⟩ := HB.out.below hbel k hlt
      rw [← HE.out k hlt] at hc2
      go_wp2
      go_quiet (fail)
      go_wp2
      go_roundw
      case rel => exact ⟨k + 1, by omega, by go_num, below_drewN hbel nq⟩
      case measure => simp [intOf]; omega
    · obtain rfl : k = n := by omega
      go_wp2
      go_ret
      exact ⟨rfl, hbel⟩

/-- two rows of one's own that hold the same -/
theorem rsame12_own {w : World} {b1 b2 : Nat} {v1 v2 : Value} {l : List Nat} (h1 : w.ownsRow b1 3 1 v1 l.length (encL l)) (h2 : w.ownsRow b2 3 1 v2 l.length (encL l)) (hl : l.length ≤ 100000) :
    Calls Try.prog 12 #[v1, v2] w fun e w' => e = .returned (.bool true) ∧ Below w.heap.size w w' := by
  obtain ⟨a, ca, rfl, ha, _⟩ := cells_of_own h1 (k := .i64) (z := atL l) (fun j hj => encL_at2 hj)
  obtain ⟨b, cb, rfl, hb, _⟩ := cells_of_own h2 (k := .i64) (z := atL l) (fun j hj => encL_at2 hj)
  exact rsame12_true a b l.length ca cb _ _ w (by omega) ha hb fun _ _ => rfl

theorem dlit3 (w : World) (x y z : Nat) : (w.alloc (.cells #[.int .i64 (x : Int), .int .i64 (y : Int), .int .i64 (z : Int)] 3)).ownsRow w.heap.size 3 1 (.slice (some ⟨w.heap.size, 0, none⟩) 3 3) 3 (encL [x, y, z]) :=
  ⟨by simp [encL], .inr ⟨w.heap.size, 3, _, rfl, Nat.le_refl _, World.alloc_heap_new w _, Nat.le_refl _, by decide, rfl, rfl⟩⟩

theorem dlit1 (w : World) (x : Nat) : (w.alloc (.cells #[.int .i64 (x : Int)] 3)).ownsRow w.heap.size 3 1 (.slice (some ⟨w.heap.size, 0, none⟩) 1 1) 1 (encL [x]) :=
  ⟨by simp [encL], .inr ⟨w.heap.size, 1, _, rfl, Nat.le_refl _, World.alloc_heap_new w _, Nat.le_refl _, by decide, rfl, rfl⟩⟩
theorem eql_below_nil (B1 B2 : Nat) (w : World) : Sem.run Try.prog (binOp BinOp.eql 78 (Value.func (Fn.func 71) #[] #[.pointer (some ⟨B1, 0, none⟩), .pointer (some ⟨B2, 0, none⟩)]) Value.nilFunc) w = .ok (.bool false) w := by kernel_rfl
set_option maxHeartbeats 4000000 in
theorem lbelow_k {w : World} {a : Fp} {N : Nat} {L : List Fe} (h : Fo w a N L) (x : Int) (m : Nat) (hm : 1 ≤ m) :
    Calls Try.prog 10 #[a.ptr, .int .i64 x, .int .i64 (m : Int)] w fun e w' => ∃ v, e = .returned (.tuple #[v, .bool true]) ∧ w'.ownsRow w.heap.size 3 1 v ((belT N L x).take m).length (encL ((belT N L x).take m)) ∧ Below w.heap.size w w' := by
  obtain ⟨z, h⟩ := h
  have hbf := belowf_k a x (w.alloc (.cells #[.int .i64 (m : Int)] 3))
  have hnil := eql_below_nil (w.heap.size + 1) (w.heap.size + 2)
  have s1 : (w.alloc (.cells #[.int .i64 (m : Int)] 3)).heap.size = w.heap.size + 1 := by simp
  have H : Hid (∀ W3, W3 = (((w.alloc (.cells #[.int .i64 (m : Int)] 3)).alloc (.cells #[a.ptr] 24)).alloc (.cells #[.int .i64 x] 3)).alloc (.cells #[.slice none 0 0] 35) →
      Fx W3 a N L z ∧ Boxed W3 (w.heap.size + 3) 35 (.slice none 0 0) ∧ Boxed W3 w.heap.size 3 (.int .i64 (m : Int)) ∧ Boxed W3 (w.heap.size + 1) 24 a.ptr ∧ Boxed W3 (w.heap.size + 2) 3 (.int .i64 x) ∧ ¬ a.has (w.heap.size + 3) ∧ Below w.heap.size w W3) := by
    intro W3 hW3
    have b1 := (Below.refl w.heap.size w).alloc (Nat.le_refl _) (.cells #[.int .i64 (m : Int)] 3)
    have x1 := Boxed.new w 3 (.int .i64 (m : Int))
    have x2 := Boxed.new (w.alloc (.cells #[.int .i64 (m : Int)] 3)) 24 a.ptr
    have x3 := Boxed.new ((w.alloc (.cells #[.int .i64 (m : Int)] 3)).alloc (.cells #[a.ptr] 24)) 3 (.int .i64 x)
    have x4 := Boxed.new (((w.alloc (.cells #[.int .i64 (m : Int)] 3)).alloc (.cells #[a.ptr] 24)).alloc (.cells #[.int .i64 x] 3)) 35 (.slice none 0 0)
    have x1' := ((x1.alloc (.cells #[a.ptr] 24)).alloc (.cells #[.int .i64 x] 3)).alloc (.cells #[.slice none 0 0] 35)
    have x2' := (x2.alloc (.cells #[.int .i64 x] 3)).alloc (.cells #[.slice none 0 0] 35)
    have x3' := x3.alloc (.cells #[.slice none 0 0] 35)
    rw [← hW3] at x1' x2' x3' x4
    simp only [World.size_alloc] at x2' x3' x4
    have hB : Below w.heap.size w W3 := by
      rw [hW3]
      exact ((((Below.refl w.heap.size w).alloc (Nat.le_refl _) _).alloc (by simp) _).alloc (by simp; omega) _).alloc (by simp; omega) _
    exact ⟨h.below hB, x4, x1', x2', x3', fun hh => by have := h.lt _ hh; omega, hB⟩
  clear h
  go_enter Try.func10, Try.ntmps10
  go_wp2_with fail
  refine hbf.mono ?_
  rintro e w2 ⟨rfl, rfl⟩
  rw [s1]
  clear s1 hbf
  go_wp2_with fail
  have HH := H.out _ rfl
  clear H
  generalize (((w.alloc (.cells #[.int .i64 (m : Int)] 3)).alloc (.cells #[a.ptr] 24)).alloc (.cells #[.int .i64 x] 3)).alloc (.cells #[.slice none 0 0] 35) = W3 at *
  have HB : Hid (Below w.heap.size w W3) := HH.2.2.2.2.2.2
  have hc := below1_k HH.1 x (w.heap.size + 1 + 1 + 1) w.heap.size (w.heap.size + 1) (w.heap.size + 1 + 1) m hm HH.2.1 HH.2.2.1 HH.2.2.2.1 HH.2.2.2.2.1 HH.2.2.2.2.2.1
  clear HH hnil
  refine hc.mono ?_
  rintro e w4 ⟨rfl, v, bC, own, hbut⟩
  have c := bC.cell
  have HO : Hid (w4.ownsRow w.heap.size 3 1 v ((belT N L x).take m).length (encL ((belT N L x).take m)) ∧ Below w.heap.size w w4) := ⟨own_mono own HB.out.size, HB.out.trans (hbut.below HB.out.size fun k hk => by omega)⟩
  clear bC own hbut hc
  go_wp2_with fail
  go_ret2
  exact ⟨v, rfl, HO.out⟩
theorem down_stay {w w' : World} {base : Nat} {e : TypeId} {size : Nat} {v : Value} {n : Nat} {xs : List Value} (h : w.ownsRow base e size v n xs) (hb : Below w.heap.size w w') : w'.ownsRow base e size v n xs := by
  refine ⟨h.1, ?_⟩
  rcases h.2 with h2 | ⟨g, cap, cur, e1, hg, hblk, h3⟩
  · exact .inl h2
  · exact .inr ⟨g, cap, cur, e1, hg, (hb.block g (Array.getElem?_eq_some_iff.1 hblk).1).trans hblk, h3⟩
/-- a forest that one made: all its blocks are new -/
def Fm (w0 w : World) (a : Fp) (N : Nat) (L : List Fe) : Prop := Fo w a N L ∧ (∀ b, a.has b → w0.heap.size ≤ b) ∧ Below w0.heap.size w0 w
theorem Fo.below {w w' : World} {a : Fp} {N : Nat} {L : List Fe} (h : Fo w a N L) (hb : Below w.heap.size w w') : Fo w' a N L := by
  obtain ⟨z, h⟩ := h
  exact ⟨z, h.below hb⟩
theorem Fo.lt {w : World} {a : Fp} {N : Nat} {L : List Fe} (h : Fo w a N L) : ∀ b, a.has b → b < w.heap.size := by
  obtain ⟨z, h⟩ := h
  exact h.lt
theorem Fm.act {w0 w w' : World} {a : Fp} {N : Nat} {L L' : List Fe} (h : Fm w0 w a N L) (hf : Fo w' a N L') (hb : But a.has w w') : Fm w0 w' a N L' :=
  ⟨hf, h.2.1, h.2.2.trans (hb.below h.2.2.size h.2.1)⟩
theorem Fm.below {w0 w w' : World} {a : Fp} {N : Nat} {L : List Fe} (h : Fm w0 w a N L) (hb : Below w.heap.size w w') : Fm w0 w' a N L :=
  ⟨h.1.below hb, h.2.1, Below.onto h.2.2 hb⟩
def dL1 : List Fe := [⟨0, -1⟩]
def dL2 : List Fe := [⟨0, -1⟩, ⟨2, 0⟩]
def dL3 : List Fe := [⟨0, -1⟩, ⟨2, 0⟩, ⟨1, 0⟩]
def dL4 : List Fe := [⟨0, -1⟩, ⟨2, 0⟩, ⟨1, 0⟩, ⟨3, 2⟩]
theorem dE1 : rootE 4 [] 0 = 0 ∧ rootL 4 [] 0 = dL1 := by constructor <;> first | decide | rfl
theorem dE2 : derE 4 dL1 0 2 = 0 ∧ derL 4 dL1 0 2 = dL2 := by constructor <;> first | decide | rfl
theorem dE3 : derE 4 dL2 0 1 = 0 ∧ derL 4 dL2 0 1 = dL3 := by constructor <;> first | decide | rfl
theorem dE4 : derE 4 dL3 2 3 = 0 ∧ derL 4 dL3 2 3 = dL4 := by constructor <;> first | decide | rfl
theorem dE5 : (belT 4 dL4 0).take 9 = [2, 3, 1] := by decide
theorem dE6 : askE 4 dL4 2 = 0 ∧ pruT 4 dL4 2 = [3] ∧ wout dL4 [3] = dL3 := by refine ⟨?_, ?_, ?_⟩ <;> first | decide | rfl
theorem dE7 : askE 4 dL3 0 = 0 ∧ cutT 4 dL3 0 = [0, 2, 1] ∧ wout dL3 [0, 2, 1] = [] := by refine ⟨?_, ?_, ?_⟩ <;> first | decide | rfl
theorem dE8 : rootE 4 [] 4 = 120 := by decide
set_option maxHeartbeats 4000000 in
theorem dawake_k (w : World) : Calls Try.prog 5 #[] w fun e w' => e = .returned (.bool true) ∧ Below w.heap.size w w' := by
  have hnew := dnew_k 4 (by omega) w
  go_enter Try.func5, Try.ntmps5
  go_wp2_with fail
  refine hnew.mono ?_
  rintro e w1 ⟨a, rfl, hf1, hb1, hge⟩
  have M1 : Hid (Fm w w1 a 4 []) := ⟨hf1, hge, hb1⟩
  have h1 := root_k hf1 0
  rw [dE1.1, dE1.2] at h1
  clear hnew hf1 hb1 hge
  go_wp2_with fail
  refine h1.mono ?_
  rintro e w2 ⟨rfl, hf, hb⟩
  have M2 : Hid (Fm w w2 a 4 dL1) := M1.out.act hf hb
  have h2 := derive_k hf 0 2
  rw [dE2.1, dE2.2] at h2
  clear h1 hf hb M1
  go_wp2_with fail
  refine h2.mono ?_
  rintro e w3 ⟨rfl, hf, hb⟩
  have M3 : Hid (Fm w w3 a 4 dL2) := M2.out.act hf hb
  have h3 := derive_k hf 0 1
  rw [dE3.1, dE3.2] at h3
  clear h2 hf hb M2
  go_wp2_with fail
  refine h3.mono ?_
  rintro e w4 ⟨rfl, hf, hb⟩
  have M4 : Hid (Fm w w4 a 4 dL3) := M3.out.act hf hb
  have h4 := derive_k hf 2 3
  rw [dE4.1, dE4.2] at h4
  clear h3 hf hb M3
  go_wp2_with fail
  refine h4.mono ?_
  rintro e w5 ⟨rfl, hf, hb⟩
  have M5 : Hid (Fm w w5 a 4 dL4) := M4.out.act hf hb
  have h5 := lbelow_k hf 0 9 (by omega)
  rw [dE5] at h5
  clear h4 hf hb M4
  go_wp2_with fail
  refine h5.mono ?_
  rintro e w6 ⟨v1, rfl, own1, hb⟩
  have M6 : Hid (Fm w w6 a 4 dL4) := M5.out.below hb
  have O1 : Hid (w6.ownsRow w5.heap.size 3 1 v1 3 (encL [2, 3, 1])) := own1
  have L5 : Hid (∀ b, a.has b → b < w5.heap.size) := M5.out.1.lt
  have h6 := prune_k M6.out.1 2
  rw [dE6.1, dE6.2.1, dE6.2.2] at h6
  clear h5 hb own1 M5
  go_wp2_with fail
  refine h6.mono ?_
  rintro e w7 ⟨v2, rfl, hf, own2, hb⟩
  have M7 : Hid (Fm w w7 a 4 dL3) := M6.out.act hf hb
  have O2 : Hid (w7.ownsRow w5.heap.size 3 1 v1 3 (encL [2, 3, 1]) ∧ w7.ownsRow w6.heap.size 3 1 v2 1 (encL [3])) := ⟨own_butD O1.out hb L5.out, own2⟩
  have L6 : Hid (∀ b, a.has b → b < w6.heap.size) := M6.out.1.lt
  have h7 := cut_k M7.out.1 0
  rw [dE7.1, dE7.2.1, dE7.2.2] at h7
  clear h6 hb own2 M6 O1 hf
  go_wp2_with fail
  refine h7.mono ?_
  rintro e w8 ⟨v3, rfl, hf, own3, hb⟩
  have M8 : Hid (Fm w w8 a 4 []) := M7.out.act hf hb
  have O3 : Hid (w8.ownsRow w5.heap.size 3 1 v1 3 (encL [2, 3, 1]) ∧ w8.ownsRow w6.heap.size 3 1 v2 1 (encL [3]) ∧ w8.ownsRow w7.heap.size 3 1 v3 3 (encL [0, 2, 1])) := ⟨own_butD O2.out.1 hb L5.out, own_butD O2.out.2 hb L6.out, own3⟩
  clear h7 hb own3 M7 O2 hf
  have hs1 := rsame12_own (O3.out.1.alloc (.cells #[.int .i64 ((2 : Nat) : Int), .int .i64 ((3 : Nat) : Int), .int .i64 ((1 : Nat) : Int)] 3)) (dlit3 w8 2 3 1) (by decide)
  go_wp2_with fail
  refine hs1.mono ?_
  rintro e w9 ⟨rfl, hb⟩
  have N9 : Below w8.heap.size w8 w9 := Below.onto ((Below.refl _ w8).alloc (Nat.le_refl _) _) hb
  have M9 : Hid (Fm w w9 a 4 []) := M8.out.below N9
  have O4 : Hid (w9.ownsRow w6.heap.size 3 1 v2 1 (encL [3]) ∧ w9.ownsRow w7.heap.size 3 1 v3 3 (encL [0, 2, 1])) := ⟨down_stay O3.out.2.1 N9, down_stay O3.out.2.2 N9⟩
  clear hs1 hb N9 M8 O3
  have hs2 := rsame12_own (O4.out.1.alloc (.cells #[.int .i64 ((3 : Nat) : Int)] 3)) (dlit1 w9 3) (by decide)
  go_wp2_with fail
  refine hs2.mono ?_
  rintro e w10 ⟨rfl, hb⟩
  have N10 : Below w9.heap.size w9 w10 := Below.onto ((Below.refl _ w9).alloc (Nat.le_refl _) _) hb
  have M10 : Hid (Fm w w10 a 4 []) := M9.out.below N10
  have O5 : Hid (w10.ownsRow w7.heap.size 3 1 v3 3 (encL [0, 2, 1])) := down_stay O4.out.2 N10
  clear hs2 hb N10 M9 O4
  have hs3 := rsame12_own (O5.out.alloc (.cells #[.int .i64 ((0 : Nat) : Int), .int .i64 ((2 : Nat) : Int), .int .i64 ((1 : Nat) : Int)] 3)) (dlit3 w10 0 2 1) (by decide)
  go_wp2_with fail
  refine hs3.mono ?_
  rintro e w11 ⟨rfl, hb⟩
  have N11 : Below w10.heap.size w10 w11 := Below.onto ((Below.refl _ w10).alloc (Nat.le_refl _) _) hb
  have M11 : Hid (Fm w w11 a 4 []) := M10.out.below N11
  have hl := len_k12 M11.out.1
  clear hs3 hb N11 M10 O5
  go_wp2_with fail
  refine hl.mono ?_
  rintro e w12 ⟨rfl, rfl⟩
  have hr := root_k M11.out.1 4
  rw [dE8] at hr
  clear hl
  go_wp2_with fail
  refine hr.mono ?_
  rintro e w13 ⟨rfl, hf, hb⟩
  have HB : Hid (Below w.heap.size w w13) := (M11.out.act hf hb).2.2
  clear hr hf hb
  go_wp2_with fail
  go_ret
  exact ⟨rfl, HB.out⟩
end Go.Proofs.Ytlphombjejgbiaa
