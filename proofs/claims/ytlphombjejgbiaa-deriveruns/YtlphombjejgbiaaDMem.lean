/- A forest in memory; is, may, Has. -/
import Derived.Test.YtlphombjejgbiaaDBel
namespace Go.Proofs.Ytlphombjejgbiaa
open Go.RowKit Go.Shelf
attribute [local go_sem] Oper.semAt_some
set_option maxRecDepth 100000

/-- where a forest lies -/
structure Fp where
  p : Nat
  k : Nat
  o : Pl
def Fp.has (a : Fp) (b : Nat) : Prop := b = a.p ∨ b = a.k ∨ a.o.has b
abbrev Fp.ptr (a : Fp) : Value := .pointer (some ⟨a.p, 0, none⟩)
/-- a forest in memory, with the words of its marks -/
structure Fx (w : World) (a : Fp) (N : Nat) (L : List Fe) (z : Nat → Int) : Prop where
  pc : Boxed w a.p 69 (.pointer (some ⟨a.k, 0, none⟩))
  k0 : w.cell? ⟨a.k, 0, none⟩ = some (.int .i64 (N : Int))
  kz : Wds w a.k z
  k17 : w.cell? ⟨a.k, 17, none⟩ = some a.o.ptr
  kf : ∀ i, w.frozen? ⟨a.k, i, none⟩ = false
  kv : Kv w a.o N N (kids L)
  ok : Fok N L
  hN : N ≤ 1024
  ma : ∀ i j, i < 16 → j < 64 → tb (z i) j = decide (64 * i + j ∈ nds L)
  ne : a.p ≠ a.k ∧ ¬ a.o.has a.p ∧ ¬ a.o.has a.k
theorem Fx.same {w w' : World} {a : Fp} {N : Nat} {L : List Fe} {z : Nat → Int} (h : Fx w a N L z) (hsz : w.heap.size ≤ w'.heap.size) (hb : ∀ b, a.has b → w'.heap[b]? = w.heap[b]?) : Fx w' a N L z := by
  have hk := hb a.k (.inr (.inl rfl))
  refine ⟨(hb a.p (.inl rfl)).trans h.pc, (World.cell?_of_block (a := ⟨a.k, 0, none⟩) hk).trans h.k0, fun i hi => ⟨(World.cell?_of_block (a := ⟨a.k, 1 + i, none⟩) hk).trans (h.kz i hi).1, (h.kz i hi).2⟩, (World.cell?_of_block (a := ⟨a.k, 17, none⟩) hk).trans h.k17, fun i => (World.frozen?_of_block (a := ⟨a.k, i, none⟩) hk).trans (h.kf i), ?_, h.ok, h.hN, h.ma, h.ne⟩
  obtain ⟨s, e1, e2, h3, h4⟩ := h.kv
  exact ⟨s, e1, e2, h3.same hsz fun b ho => hb b (.inr (.inr ho)), h4⟩
theorem Fx.lt {w : World} {a : Fp} {N : Nat} {L : List Fe} {z : Nat → Int} (h : Fx w a N L z) : ∀ b, a.has b → b < w.heap.size := by
  rintro b (rfl | rfl | hb)
  · exact h.pc.lt
  · exact cell_lt h.k0
  · exact h.kv.lt b hb
theorem Fx.below {w w' : World} {a : Fp} {N : Nat} {L : List Fe} {z : Nat → Int} (h : Fx w a N L z) (hb : Below w.heap.size w w') : Fx w' a N L z := h.same hb.size fun b ho => hb.block b (h.lt b ho)
theorem Fx.but {w w' : World} {a : Fp} {N : Nat} {L : List Fe} {z : Nat → Int} {S : Nat → Prop} (h : Fx w a N L z) (hb : But S w w') (hS : ∀ b, a.has b → ¬ S b) : Fx w' a N L z := h.same hb.size fun b ho => hb.block b (h.lt b ho) (hS b ho)
theorem Fx.mark {w : World} {a : Fp} {N : Nat} {L : List Fe} {z : Nat → Int} (h : Fx w a N L z) {x : Nat} (hx : x < 1024) : tb (z (x / 64)) (x % 64) = decide (x ∈ nds L) := by
  rw [h.ma _ _ (by omega) (by omega), show 64 * (x / 64) + x % 64 = x by omega]

set_option maxHeartbeats 1000000 in
theorem fis_any {w : World} {a : Fp} {N : Nat} {L : List Fe} {z : Nat → Int} (h : Fx w a N L z) :
    Calls Try.prog 57 #[a.ptr] w fun e w' => e = .returned (.bool true) ∧ w' = w := by
  have c := h.pc.cell
  clear h
  go_enter Try.func57, Try.ntmps57
  go_wp2_with fail
  go_ret
  exact ⟨rfl, rfl⟩

/-- what may answers: of n numbers -/
def allIn (N n : Nat) (z : Nat → Int) : Bool := (List.range n).all fun j => inR N (z j)
set_option maxHeartbeats 2000000 in
theorem fmay_any {w : World} {a : Fp} {N : Nat} {L : List Fe} {z : Nat → Int} (h : Fx w a N L z) (b n : Nat) (y : Nat → Int) (hn : n ≤ 10) (hy : Cells w .i64 (some ⟨b, 0, none⟩) n y) :
    Calls Try.prog 51 #[a.ptr, .slice (some ⟨b, 0, none⟩) n n] w fun e w' => e = .returned (.int .i64 (if allIn N n y then 0 else 120)) ∧ w' = w := by
  have hi := fis_any h
  have c := h.pc.cell
  have c0 := h.k0
  have HY : Hid (Cells w .i64 (some ⟨b, 0, none⟩) n y) := hy
  clear h hy
  obtain ⟨r, hr⟩ : ∃ r : Int, (if allIn N n y then (0 : Int) else 120) = r := ⟨_, rfl⟩
  rw [hr]
  have HRr : Hid ((if allIn N n y then (0 : Int) else 120) = r) := hr
  clear hr
  go_enter Try.func51, Try.ntmps51
  go_wp2_with fail
  refine hi.mono ?_
  rintro e w' ⟨rfl, rfl⟩
  go_wp2_with fail
  go_loopw [12] (fun i wr => ∃ j : Nat, j ≤ n ∧ i = .int .i64 j ∧ wr = w' ∧ Hid (∀ q, q < j → inR N (y q) = true)) (fun i _ => n - (intOf i).toNat)
  case atStart => exact ⟨0, by omega, rfl, rfl, fun q hq => by omega⟩
  case round =>
    obtain ⟨j, hj, rfl, rfl, hq⟩ := hrel
    by_cases hlt : j < n
    · obtain ⟨b', off, e1, hcell⟩ := HY.out j hlt
      cases e1
      rw [Nat.zero_add] at hcell
      cases hin : inR N (y j)
      · have HR : Hid (allIn N n y = false) := by
          show allIn N n y = false
          simp only [allIn, List.all_eq_false, List.mem_range]
          exact ⟨j, hlt, by simp [hin]⟩
        have hbad : y j < 0 ∨ (N : Int) ≤ y j := by simp [inR] at hin; omega
        generalize y j = v at *
        rcases hbad with h1 | h1
        · go_wp2_with fail
          go_ret
          rw [← HRr.out, HR.out]; exact ⟨rfl, rfl⟩
        · have h2 : 0 ≤ v := by omega
          go_wp2_with fail
          go_ret
          rw [← HRr.out, HR.out]; exact ⟨rfl, rfl⟩
      · obtain ⟨h1, h2⟩ := inR_iff.1 hin
        have HQ : Hid (∀ q, q < j + 1 → inR N (y q) = true) := fun q hq' => by
          by_cases e : q = j
          · rw [e]; exact hin
          · exact hq.out q (by omega)
        clear hin hq
        generalize y j = v at *
        go_wp2_with fail
        go_roundw
        case rel => exact ⟨j + 1, by omega, by go_num, trivial, HQ⟩
        case measure => simp [intOf]; omega
    · have HR : Hid (allIn N n y = true) := by
        show allIn N n y = true
        simp only [allIn, List.all_eq_true, List.mem_range]
        exact fun q hq' => hq.out q (by omega)
      obtain rfl : j = n := by omega
      go_wp2_with fail
      go_ret
      rw [← HRr.out, HR.out]; exact ⟨rfl, rfl⟩
theorem allIn1 (N : Nat) (y : Nat → Int) : allIn N 1 y = inR N (y 0) := by simp [allIn, List.range, List.range.loop]
theorem allIn2 (N : Nat) (y : Nat → Int) : allIn N 2 y = (inR N (y 0) && inR N (y 1)) := by simp [allIn, List.range, List.range.loop]
/-- a slice of one that was just made -/
theorem cells1 (w : World) (x : Int) : Cells (w.alloc (.cells #[.int .i64 x] 3)) .i64 (some ⟨w.heap.size, 0, none⟩) 1 (fun _ => x) := by
  intro j hj
  obtain rfl : j = 0 := by omega
  exact ⟨w.heap.size, 0, rfl, by unfold World.cell?; rw [World.alloc_heap_new]; rfl⟩
theorem cells2 (w : World) (x y : Int) : Cells (w.alloc (.cells #[.int .i64 x, .int .i64 y] 3)) .i64 (some ⟨w.heap.size, 0, none⟩) 2 (fun j => if j = 0 then x else y) := by
  intro j hj
  rcases (show j = 0 ∨ j = 1 by omega) with rfl | rfl
  · exact ⟨w.heap.size, 0, rfl, by unfold World.cell?; rw [World.alloc_heap_new]; rfl⟩
  · exact ⟨w.heap.size, 0, rfl, by unfold World.cell?; rw [World.alloc_heap_new]; rfl⟩
theorem fmay1 {w : World} {a : Fp} {N : Nat} {L : List Fe} {z : Nat → Int} (h : Fx w a N L z) (x : Int) :
    Calls Try.prog 51 #[a.ptr, .slice (some ⟨w.heap.size, 0, none⟩) 1 1] (w.alloc (.cells #[.int .i64 x] 3)) fun e w' => e = .returned (.int .i64 (if inR N x then 0 else 120)) ∧ w' = w.alloc (.cells #[.int .i64 x] 3) := by
  have := fmay_any (h.below ((Below.refl _ w).alloc (Nat.le_refl _) (.cells #[.int .i64 x] 3))) w.heap.size 1 _ (by omega) (cells1 w x)
  rw [allIn1] at this
  exact this
theorem fmay2 {w : World} {a : Fp} {N : Nat} {L : List Fe} {z : Nat → Int} (h : Fx w a N L z) (x y : Int) :
    Calls Try.prog 51 #[a.ptr, .slice (some ⟨w.heap.size, 0, none⟩) 2 2] (w.alloc (.cells #[.int .i64 x, .int .i64 y] 3)) fun e w' => e = .returned (.int .i64 (if inR N x && inR N y then 0 else 120)) ∧ w' = w.alloc (.cells #[.int .i64 x, .int .i64 y] 3) := by
  have := fmay_any (h.below ((Below.refl _ w).alloc (Nat.le_refl _) (.cells #[.int .i64 x, .int .i64 y] 3))) w.heap.size 2 _ (by omega) (cells2 w x y)
  rw [allIn2] at this
  exact this
/-- is x there? -/
def hasF (N : Nat) (L : List Fe) (x : Int) : Bool := inR N x && decide (x.toNat ∈ nds L)
set_option maxHeartbeats 1000000 in
theorem fhas_any {w : World} {a : Fp} {N : Nat} {L : List Fe} {z : Nat → Int} (h : Fx w a N L z) (x : Int) :
    Calls Try.prog 32 #[a.ptr, .int .i64 x] w fun e w' => e = .returned (.bool (hasF N L x)) ∧ Below w.heap.size w w' := by
  have hm := fmay1 h x
  have hB : Below w.heap.size w (w.alloc (.cells #[.int .i64 x] 3)) := (Below.refl _ w).alloc (Nat.le_refl _) _
  have h1 := h.below hB
  have c := h1.pc.cell
  cases hin : inR N x
  · rw [hin] at hm
    have HR : Hid (hasF N L x = false) := by show hasF N L x = false; simp [hasF, hin]
    simp only [Bool.false_eq_true, if_false] at hm
    clear h h1 hin
    go_enter Try.func32, Try.ntmps32
    go_wp2_with fail
    refine hm.mono ?_
    rintro e w' ⟨rfl, rfl⟩
    go_wp2_with fail
    go_ret
    rw [HR.out]
    exact ⟨rfl, hB⟩
  · have hin' := hin
    obtain ⟨k, rfl, hk⟩ := inR_nat hin
    rw [hin] at hm
    have hN := h.hN
    have HR : Hid (hasF N L (k : Int) = decide (k ∈ nds L)) := by show hasF N L (k : Int) = _; simp [hasF, hin']
    have hmh := mhas_any a.k z k (k / 64) (k % 64) (by omega) (by omega) (by omega) _ h1.kz
    rw [h.mark (by omega)] at hmh
    simp only [if_true] at hm
    clear h h1 hin hin'
    generalize decide (k ∈ nds L) = r at *
    go_enter Try.func32, Try.ntmps32
    go_wp2_with fail
    refine hm.mono ?_
    rintro e w' ⟨rfl, rfl⟩
    go_wp2_with fail
    refine hmh.mono ?_
    rintro e w' ⟨rfl, rfl⟩
    go_wp2_with fail
    go_ret
    rw [HR.out]
    exact ⟨rfl, hB⟩
set_option maxHeartbeats 1000000 in
/-- what mustHave answers -/
theorem fmust_any {w : World} {a : Fp} {N : Nat} {L : List Fe} {z : Nat → Int} (h : Fx w a N L z) (x : Int) :
    Calls Try.prog 54 #[a.ptr, .int .i64 x] w fun e w' => e = .returned (.int .i64 (if inR N x then (if hasF N L x then 0 else 122) else 120)) ∧ Below w.heap.size w w' := by
  have hm := fmay1 h x
  have hB : Below w.heap.size w (w.alloc (.cells #[.int .i64 x] 3)) := (Below.refl _ w).alloc (Nat.le_refl _) _
  have hh := fhas_any (h.below hB) x
  have HB : Hid _ := hB
  clear h hB
  generalize hasF N L x = r at *
  generalize inR N x = q at *
  cases q
  · simp only [Bool.false_eq_true, if_false] at hm ⊢
    go_enter Try.func54, Try.ntmps54
    go_wp2_with fail
    refine hm.mono ?_
    rintro e w' ⟨rfl, rfl⟩
    go_wp2_with fail
    go_ret
    exact ⟨rfl, HB.out⟩
  · simp only [if_true] at hm ⊢
    cases r
    all_goals
      simp only [if_true, Bool.false_eq_true, if_false] at hh ⊢
      go_enter Try.func54, Try.ntmps54
      go_wp2_with fail
      refine hm.mono ?_
      rintro e w' ⟨rfl, rfl⟩
      go_wp2_with fail
      refine hh.mono ?_
      rintro e w2 ⟨rfl, hb2⟩
      go_wp2_with fail
      go_ret
      exact ⟨rfl, Below.onto HB.out hb2⟩
end Go.Proofs.Ytlphombjejgbiaa
