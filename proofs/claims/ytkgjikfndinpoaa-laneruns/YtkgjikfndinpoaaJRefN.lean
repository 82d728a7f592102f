/- The document's State. -/
import Derived.Test.YtkgjikfndinpoaaJRefS
import Derived.Deep.RegionHeld3
namespace Go.Proofs.Ytkgjikfndinpoaa
open Go.RowKit Go.Sort
set_option maxRecDepth 100000

/-- a state's box -/
structure S6 (w : World) (D : Nat) (a b c d e f : Int) : Prop where
  c0 : w.cell? ⟨D, 0, none⟩ = some (.int .i64 a)
  c1 : w.cell? ⟨D, 1, none⟩ = some (.int .i64 b)
  c2 : w.cell? ⟨D, 2, none⟩ = some (.int .i64 c)
  c3 : w.cell? ⟨D, 3, none⟩ = some (.int .i64 d)
  c4 : w.cell? ⟨D, 4, none⟩ = some (.int .i64 e)
  c5 : w.cell? ⟨D, 5, none⟩ = some (.int .u64 f)
  fz : ∀ i, w.frozen? ⟨D, i, none⟩ = false
theorem s6_new (w : World) (a b c d e f : Int) (T : TypeId) : S6 (w.alloc (.cells #[.int .i64 a, .int .i64 b, .int .i64 c, .int .i64 d, .int .i64 e, .int .u64 f] T)) w.heap.size a b c d e f :=
  ⟨jnew_at w _ T 0 (by simp), jnew_at w _ T 1 (by simp), jnew_at w _ T 2 (by simp), jnew_at w _ T 3 (by simp), jnew_at w _ T 4 (by simp), jnew_at w _ T 5 (by simp), jnew_fz (Below.refl _ _)⟩
theorem S6.same {w w' : World} {D : Nat} {a b c d e f : Int} (h : S6 w D a b c d e f) (hb : w'.heap[D]? = w.heap[D]?) : S6 w' D a b c d e f := by
  have k := fun i => World.cell?_of_block (w := w) (a := ⟨D, i, none⟩) hb
  exact ⟨(k 0).trans h.c0, (k 1).trans h.c1, (k 2).trans h.c2, (k 3).trans h.c3, (k 4).trans h.c4, (k 5).trans h.c5, fun i => (World.frozen?_of_block (w := w) (a := ⟨D, i, none⟩) hb).trans (h.fz i)⟩
theorem S6.lt {w : World} {D : Nat} {a b c d e f : Int} (h : S6 w D a b c d e f) : D < w.heap.size := cell_lt h.c0
theorem S6.below {w w' : World} {D : Nat} {a b c d e f : Int} (h : S6 w D a b c d e f) (hb : Below w.heap.size w w') : S6 w' D a b c d e f := h.same (hb.block D h.lt)
/-- how many of the first k are s -/
def cntN (l : List Ms) (s k : Nat) : Nat := (l.take k).countP fun m => m.is == s
def cntO (l : List Ms) (k : Nat) : Nat := (l.take k).countP fun m => !(m.is == 1 || m.is == 2 || m.is == 3)
theorem cnt_hit {l : List Ms} {s k : Nat} {m : Ms} (h : l[k]? = some m) (hs : m.is = s) : cntN l s (k + 1) = cntN l s k + 1 := by
  unfold cntN
  rw [List.take_add_one, h, List.countP_append]
  simp [hs]
theorem cnt_miss {l : List Ms} {s k : Nat} {m : Ms} (h : l[k]? = some m) (hs : ¬ m.is = s) : cntN l s (k + 1) = cntN l s k := by
  unfold cntN
  rw [List.take_add_one, h, List.countP_append]
  simp [hs]
theorem cntO_hit {l : List Ms} {k : Nat} {m : Ms} (h : l[k]? = some m) (h1 : ¬ m.is = 1) (h2 : ¬ m.is = 2) (h3 : ¬ m.is = 3) : cntO l (k + 1) = cntO l k + 1 := by
  unfold cntO
  rw [List.take_add_one, h, List.countP_append]
  simp [h1, h2, h3]
theorem cntO_miss {l : List Ms} {k : Nat} {m : Ms} (h : l[k]? = some m) (hs : m.is = 1 ∨ m.is = 2 ∨ m.is = 3) : cntO l (k + 1) = cntO l k := by
  unfold cntO
  rw [List.take_add_one, h, List.countP_append]
  rcases hs with hs | hs | hs <;> simp [hs]
theorem cntN_le (l : List Ms) (s k : Nat) : cntN l s k ≤ k := by
  unfold cntN
  have := List.countP_le_length (p := fun m : Ms => m.is == s) (l := l.take k)
  simp at this
  omega
theorem cntO_le (l : List Ms) (k : Nat) : cntO l k ≤ k := by
  unfold cntO
  have := List.countP_le_length (p := fun m : Ms => !(m.is == 1 || m.is == 2 || m.is == 3)) (l := l.take k)
  rw [List.length_take] at this
  omega
section
variable {w : World} {r : Nat} {rv : Value} {A : La} {l : List Ms}
theorem s6_set {w : World} {D : Nat} {a b c d e f : Int} (h : S6 w D a b c d e f) (j : Nat) (x : Int) (a' b' c' d' e' : Int) (hj : (j = 1 ∧ b' = x ∧ a' = a ∧ c' = c ∧ d' = d ∧ e' = e) ∨ (j = 2 ∧ c' = x ∧ a' = a ∧ b' = b ∧ d' = d ∧ e' = e) ∨ (j = 3 ∧ d' = x ∧ a' = a ∧ b' = b ∧ c' = c ∧ e' = e) ∨ (j = 4 ∧ e' = x ∧ a' = a ∧ b' = b ∧ c' = c ∧ d' = d)) :
    S6 (w.setCell ⟨D, j, none⟩ (.int .i64 x)) D a' b' c' d' e' f := by
  have ot : ∀ i, i ≠ j → (w.setCell ⟨D, j, none⟩ (.int .i64 x)).cell? ⟨D, i, none⟩ = w.cell? ⟨D, i, none⟩ := fun i hi => World.cell?_setCell_other _ _ _ _ (by intro h; injection h with _ h2 _; exact hi h2.symm)
  have fz : ∀ i, (w.setCell ⟨D, j, none⟩ (.int .i64 x)).frozen? ⟨D, i, none⟩ = false := fun i => by rw [World.frozen?_setCell]; exact h.fz i
  rcases hj with ⟨rfl, rfl, rfl, rfl, rfl, rfl⟩ | ⟨rfl, rfl, rfl, rfl, rfl, rfl⟩ | ⟨rfl, rfl, rfl, rfl, rfl, rfl⟩ | ⟨rfl, rfl, rfl, rfl, rfl, rfl⟩
  · exact ⟨(ot 0 (by decide)).trans h.c0, World.cell?_setCell_same _ _ _ h.c1, (ot 2 (by decide)).trans h.c2, (ot 3 (by decide)).trans h.c3, (ot 4 (by decide)).trans h.c4, (ot 5 (by decide)).trans h.c5, fz⟩
  · exact ⟨(ot 0 (by decide)).trans h.c0, (ot 1 (by decide)).trans h.c1, World.cell?_setCell_same _ _ _ h.c2, (ot 3 (by decide)).trans h.c3, (ot 4 (by decide)).trans h.c4, (ot 5 (by decide)).trans h.c5, fz⟩
  · exact ⟨(ot 0 (by decide)).trans h.c0, (ot 1 (by decide)).trans h.c1, (ot 2 (by decide)).trans h.c2, World.cell?_setCell_same _ _ _ h.c3, (ot 4 (by decide)).trans h.c4, (ot 5 (by decide)).trans h.c5, fz⟩
  · exact ⟨(ot 0 (by decide)).trans h.c0, (ot 1 (by decide)).trans h.c1, (ot 2 (by decide)).trans h.c2, (ot 3 (by decide)).trans h.c3, World.cell?_setCell_same _ _ _ h.c4, (ot 5 (by decide)).trans h.c5, fz⟩
set_option maxHeartbeats 4000000 in
theorem rstate (x : Rq w r rv A l) (hl : l.length ≤ 1000) (hcr : A.cr ≤ 1000) :
    Calls Try.prog 11 #[pV r] w fun v w' => v = .returned (.agg #[.int .i64 ((A.cr : Int) - (l.length : Int)), .int .i64 (cntN l 1 l.length : Int), .int .i64 (cntN l 2 l.length : Int), .int .i64 (cntN l 3 l.length : Int), .int .i64 (cntO l l.length : Int), .int .u64 A.ep]) ∧ Below w.heap.size w w' := by
  obtain ⟨a0, cap0, hv0⟩ := x.form
  subst hv0
  have hrl := x.lt
  have hb1 := jalloc (Below.refl _ w) (.cells #[.int .i64 0, .int .i64 0, .int .i64 0, .int .i64 0, .int .i64 0, .int .u64 0] 42)
  have z1 := s6_new w 0 0 0 0 0 0 42
  have x1 := x.below hb1
  obtain ⟨w1, hw1⟩ : ∃ w1, w.alloc (.cells #[.int .i64 0, .int .i64 0, .int .i64 0, .int .i64 0, .int .i64 0, .int .u64 0] 42) = w1 := ⟨_, rfl⟩
  rw [hw1] at hb1 z1 x1
  have hs1 : w1.heap.size = w.heap.size + 1 := by rw [← hw1]; simp
  have HXw : Hid (Rq w r (.slice a0 l.length cap0) A l) := x
  have HX : Hid (Rq w1 r (.slice a0 l.length cap0) A l) := x1
  have HB1 : Hid (Below w.heap.size w w1) := hb1
  obtain ⟨B, hB⟩ : ∃ B, w.heap.size = B := ⟨_, rfl⟩
  have HZ : Hid (S6 w1 B 0 0 0 0 0 0) := hB ▸ z1
  have toS : ∀ W, Below w1.heap.size w1 W → W.cell? ⟨r, 0, none⟩ = some (.int .i64 (A.cr : Int)) ∧ W.cell? ⟨r, 4, none⟩ = some (.slice a0 l.length cap0) ∧ W.cell? ⟨r, 3, none⟩ = some (.int .u64 A.ep) := fun W hW => by
    have x2 := HX.out.below hW
    exact ⟨x2.cell 0, x2.cell 4, x2.cell 3⟩
  have to1 := toS _ (Below.refl _ _)
  have hsub : IntKind.i64.wrap ((A.cr : Int) - (l.length : Int)) = (A.cr : Int) - (l.length : Int) := by rw [IntKind.wrap_i64]; omega
  clear x x1 hb1 z1
  generalize hN : l.length = N at *
  go_enter Try.func11, Try.ntmps11
  go_wp2_with fail
  clear hw1
  go_region_held3 (fun W => W.cell? ⟨r, 0, none⟩ = some (.int .i64 (A.cr : Int)) ∧ W.cell? ⟨r, 4, none⟩ = some (.slice a0 N cap0) ∧ W.cell? ⟨r, 3, none⟩ = some (.int .u64 A.ep)) (first | assumption | exact to1 | exact toS _ (Below.refl _ _).drew | exact toS _ (((Below.refl _ w1).alloc (Nat.le_refl _) _).drew) | exact toS _ ((Below.refl _ w1).alloc (Nat.le_refl _) _)) (fail)
  have z2 := s6_new w1 ((A.cr : Int) - (N : Int)) 0 0 0 0 A.ep 42
  have hb2 := (jalloc (Below.refl _ w1) (.cells #[.int .i64 ((A.cr : Int) - (N : Int)), .int .i64 0, .int .i64 0, .int .i64 0, .int .i64 0, .int .u64 A.ep] 42)).drew
  have z2' : S6 ((w1.alloc (.cells #[.int .i64 ((A.cr : Int) - (N : Int)), .int .i64 0, .int .i64 0, .int .i64 0, .int .i64 0, .int .u64 A.ep] 42)).drew) (B + 1) ((A.cr : Int) - (N : Int)) 0 0 0 0 A.ep := by
    have e : w1.heap.size = B + 1 := by omega
    rw [← e]
    exact z2.same rfl
  have HZ2 : Hid (S6 ((w1.alloc (.cells #[.int .i64 ((A.cr : Int) - (N : Int)), .int .i64 0, .int .i64 0, .int .i64 0, .int .i64 0, .int .u64 A.ep] 42)).drew) (B + 1) ((A.cr : Int) - (N : Int)) (cntN l 1 0 : Int) (cntN l 2 0 : Int) (cntN l 3 0 : Int) (cntO l 0 : Int) A.ep) := z2'
  have HZ1 : Hid (S6 ((w1.alloc (.cells #[.int .i64 ((A.cr : Int) - (N : Int)), .int .i64 0, .int .i64 0, .int .i64 0, .int .i64 0, .int .u64 A.ep] 42)).drew) B 0 0 0 0 0 0) := HZ.out.below hb2
  have HB2 : Hid (Below w.heap.size w ((w1.alloc (.cells #[.int .i64 ((A.cr : Int) - (N : Int)), .int .i64 0, .int .i64 0, .int .i64 0, .int .i64 0, .int .u64 A.ep] 42)).drew)) := Below.onto HB1.out hb2
  clear z2 z2' hb2 toS to1 HX HZ HB1
  generalize (w1.alloc (.cells #[.int .i64 ((A.cr : Int) - (N : Int)), .int .i64 0, .int .i64 0, .int .i64 0, .int .i64 0, .int .u64 A.ep] 42)).drew = w2 at *
  clear hs1
  go_wp2_with fail
  go_loopw [4] (fun vi wr => ∃ k : Nat, k ≤ N ∧ vi = .int .i64 k ∧ Hid (Below w.heap.size w wr) ∧ Hid (S6 wr B 0 0 0 0 0 0) ∧ Hid (S6 wr (B + 1) ((A.cr : Int) - (N : Int)) (cntN l 1 k : Int) (cntN l 2 k : Int) (cntN l 3 k : Int) (cntO l k : Int) A.ep)) (fun vi _ => N - (intOf vi).toNat)
  case atStart => exact ⟨0, Nat.zero_le _, rfl, HB2, HZ1, HZ2⟩
  case round =>
    obtain ⟨k, hk, rfl, HBr, HZr, HS⟩ := hrel
    have xr := HXw.out.below HBr.out
    have k4 := xr.cell 4
    simp only [List.getElem?_toArray, List.getElem?_cons_succ, List.getElem?_cons_zero] at k4
    by_cases hkN : k < N
    · obtain ⟨m, hm⟩ : ∃ m, l[k]? = some m := ⟨l[k]'(by omega), List.getElem?_eq_getElem (by omega)⟩
      obtain ⟨g, cap2, hv2, _, _, _, m1, _⟩ := xr.at_ hm
      injection hv2 with hv2 hv3 hv4
      subst hv2 hv4
      clear hv3 xr
      obtain ⟨c1, hc1⟩ : ∃ c, cntN l 1 k = c := ⟨_, rfl⟩
      obtain ⟨c2, hc2⟩ : ∃ c, cntN l 2 k = c := ⟨_, rfl⟩
      obtain ⟨c3, hc3⟩ : ∃ c, cntN l 3 k = c := ⟨_, rfl⟩
      obtain ⟨c4, hc4⟩ : ∃ c, cntO l k = c := ⟨_, rfl⟩
      have b1 := cntN_le l 1 k
      have b2 := cntN_le l 2 k
      have b3 := cntN_le l 3 k
      have b4 := cntO_le l k
      rw [hc1] at HS b1
      rw [hc2] at HS b2
      rw [hc3] at HS b3
      rw [hc4] at HS b4
      obtain ⟨s0, s1, s2, s3, s4, s5, sf⟩ := HS.out
      by_cases h1 : m.is = 1
      · rw [h1] at m1
        have HZ4 : Hid (S6 (wr.setCell ⟨B + 1, 1, none⟩ (.int .i64 ((c1 : Int) + 1))) (B + 1) ((A.cr : Int) - (N : Int)) (cntN l 1 (k + 1) : Int) (cntN l 2 (k + 1) : Int) (cntN l 3 (k + 1) : Int) (cntO l (k + 1) : Int) A.ep) := by
          refine s6_set HS.out 1 _ _ _ _ _ _ ?_
          exact .inl ⟨rfl, by rw [cnt_hit hm h1, hc1]; go_num, rfl, by rw [cnt_miss hm (by omega), hc2], by rw [cnt_miss hm (by omega), hc3], by rw [cntO_miss hm (by omega), hc4]⟩
        have HZ5 : Hid (S6 (wr.setCell ⟨B + 1, 1, none⟩ (.int .i64 ((c1 : Int) + 1))) B 0 0 0 0 0 0) := HZr.out.same (Below.heap_setCell _ _ _ _ (by show B ≠ B + 1; omega))
        have HB5 : Hid (Below w.heap.size w (wr.setCell ⟨B + 1, 1, none⟩ (.int .i64 ((c1 : Int) + 1)))) := HBr.out.setCell (by show w.heap.size ≤ B + 1; omega) _
        clear h1
        clear hm HS hc1 hc2 hc3 hc4
        go_wp2_with fail
        go_roundw
        case rel => exact ⟨k + 1, by omega, by go_num, HB5, HZ5, HZ4⟩
        case measure => simp [intOf]; omega
      · by_cases h2 : m.is = 2
        · rw [h2] at m1
          have HZ4 : Hid (S6 (wr.setCell ⟨B + 1, 2, none⟩ (.int .i64 ((c2 : Int) + 1))) (B + 1) ((A.cr : Int) - (N : Int)) (cntN l 1 (k + 1) : Int) (cntN l 2 (k + 1) : Int) (cntN l 3 (k + 1) : Int) (cntO l (k + 1) : Int) A.ep) := by
            refine s6_set HS.out 2 _ _ _ _ _ _ ?_
            exact .inr (.inl ⟨rfl, by rw [cnt_hit hm h2, hc2]; go_num, rfl, by rw [cnt_miss hm (by omega), hc1], by rw [cnt_miss hm (by omega), hc3], by rw [cntO_miss hm (by omega), hc4]⟩)
          have HZ5 : Hid (S6 (wr.setCell ⟨B + 1, 2, none⟩ (.int .i64 ((c2 : Int) + 1))) B 0 0 0 0 0 0) := HZr.out.same (Below.heap_setCell _ _ _ _ (by show B ≠ B + 1; omega))
          have HB5 : Hid (Below w.heap.size w (wr.setCell ⟨B + 1, 2, none⟩ (.int .i64 ((c2 : Int) + 1)))) := HBr.out.setCell (by show w.heap.size ≤ B + 1; omega) _
          clear h1 h2
          clear hm HS hc1 hc2 hc3 hc4
          go_wp2_with fail
          go_roundw
          case rel => exact ⟨k + 1, by omega, by go_num, HB5, HZ5, HZ4⟩
          case measure => simp [intOf]; omega
        · by_cases h3 : m.is = 3
          · rw [h3] at m1
            have HZ4 : Hid (S6 (wr.setCell ⟨B + 1, 3, none⟩ (.int .i64 ((c3 : Int) + 1))) (B + 1) ((A.cr : Int) - (N : Int)) (cntN l 1 (k + 1) : Int) (cntN l 2 (k + 1) : Int) (cntN l 3 (k + 1) : Int) (cntO l (k + 1) : Int) A.ep) := by
              refine s6_set HS.out 3 _ _ _ _ _ _ ?_
              exact .inr (.inr (.inl ⟨rfl, by rw [cnt_hit hm h3, hc3]; go_num, rfl, by rw [cnt_miss hm (by omega), hc1], by rw [cnt_miss hm (by omega), hc2], by rw [cntO_miss hm (by omega), hc4]⟩))
            have HZ5 : Hid (S6 (wr.setCell ⟨B + 1, 3, none⟩ (.int .i64 ((c3 : Int) + 1))) B 0 0 0 0 0 0) := HZr.out.same (Below.heap_setCell _ _ _ _ (by show B ≠ B + 1; omega))
            have HB5 : Hid (Below w.heap.size w (wr.setCell ⟨B + 1, 3, none⟩ (.int .i64 ((c3 : Int) + 1)))) := HBr.out.setCell (by show w.heap.size ≤ B + 1; omega) _
            clear h1 h2 h3
            clear hm HS hc1 hc2 hc3 hc4
            go_wp2_with fail
            go_roundw
            case rel => exact ⟨k + 1, by omega, by go_num, HB5, HZ5, HZ4⟩
            case measure => simp [intOf]; omega
          · have e1 : ((m.is : Int) == 1) = false := by simp; omega
            have e2 : ((m.is : Int) == 2) = false := by simp; omega
            have e3 : ((m.is : Int) == 3) = false := by simp; omega
            have HZ4 : Hid (S6 (wr.setCell ⟨B + 1, 4, none⟩ (.int .i64 ((c4 : Int) + 1))) (B + 1) ((A.cr : Int) - (N : Int)) (cntN l 1 (k + 1) : Int) (cntN l 2 (k + 1) : Int) (cntN l 3 (k + 1) : Int) (cntO l (k + 1) : Int) A.ep) := by
              refine s6_set HS.out 4 _ _ _ _ _ _ ?_
              exact .inr (.inr (.inr ⟨rfl, by rw [cntO_hit hm h1 h2 h3, hc4]; go_num, rfl, by rw [cnt_miss hm (by omega), hc1], by rw [cnt_miss hm (by omega), hc2], by rw [cnt_miss hm (by omega), hc3]⟩))
            have HZ5 : Hid (S6 (wr.setCell ⟨B + 1, 4, none⟩ (.int .i64 ((c4 : Int) + 1))) B 0 0 0 0 0 0) := HZr.out.same (Below.heap_setCell _ _ _ _ (by show B ≠ B + 1; omega))
            have HB5 : Hid (Below w.heap.size w (wr.setCell ⟨B + 1, 4, none⟩ (.int .i64 ((c4 : Int) + 1)))) := HBr.out.setCell (by show w.heap.size ≤ B + 1; omega) _
            generalize m.is = mi at *
            clear hm HS hc1 hc2 hc3 hc4
            go_wp2_with fail
            go_roundw
            case rel => exact ⟨k + 1, by omega, by go_num, HB5, HZ5, HZ4⟩
            case measure => simp [intOf]; omega
    · obtain rfl : k = N := by omega
      obtain ⟨k0, k1, k2, k3, k4', k5, kf⟩ := HZr.out
      obtain ⟨s0, s1, s2, s3, s4, s5, sf⟩ := HS.out
      clear xr
      obtain ⟨c1, hc1⟩ : ∃ c, cntN l 1 k = c := ⟨_, rfl⟩
      obtain ⟨c2, hc2⟩ : ∃ c, cntN l 2 k = c := ⟨_, rfl⟩
      obtain ⟨c3, hc3⟩ : ∃ c, cntN l 3 k = c := ⟨_, rfl⟩
      obtain ⟨c4, hc4⟩ : ∃ c, cntO l k = c := ⟨_, rfl⟩
      rw [hc1] at s1
      rw [hc2] at s2
      rw [hc3] at s3
      rw [hc4] at s4
      have HC : Hid (cntN l 1 k = c1 ∧ cntN l 2 k = c2 ∧ cntN l 3 k = c3 ∧ cntO l k = c4) := ⟨hc1, hc2, hc3, hc4⟩
      clear hc1 hc2 hc3 hc4
      go_wp2_with fail
      refine bodyPost_ret (v := .agg #[.int .i64 ((A.cr : Int) - (k : Int)), .int .i64 (c1 : Int), .int .i64 (c2 : Int), .int .i64 (c3 : Int), .int .i64 (c4 : Int), .int .u64 A.ep]) (by simp [results, Try.results11, go_sem, k0, k1, k2, k3, k4', k5]) rfl ⟨by rw [HC.out.1, HC.out.2.1, HC.out.2.2.1, HC.out.2.2.2], ?_⟩
      iterate 6 (refine Below.setCell ?_ (by exact Nat.le_of_eq hB) _)
      exact HBr.out
end
end Go.Proofs.Ytkgjikfndinpoaa
