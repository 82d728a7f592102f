/- DeriveNobody, walked. -/
import Derived.Test.YtopjidlhhamjhaaDNob
namespace Go.Proofs.Ytopjidlhhamjhaa
open Go.RowKit Go.Shelf
attribute [local go_sem] Oper.semAt_some
set_option maxRecDepth 100000

set_option maxHeartbeats 4000000 in
theorem dnobody_any (q : DOp) (w : World) : Calls Try.prog 7 #[.agg #[.int .i64 q.k, .int .i64 q.a, .int .i64 q.b]] w fun e w' => e = .returned (.bool true) ∧ Below w.heap.size w w' := by
  obtain ⟨k, x, y⟩ := q
  simp only
  obtain ⟨W3, hW3⟩ : ∃ W3, W3 = ((w.alloc (.cells #[.int .i64 k, .int .i64 x, .int .i64 y] 33)).alloc (.cells #[.pointer none] 57)).alloc (.cells #[.pointer none, .pointer (some ⟨w.heap.size + 1, 0, none⟩)] 24) := ⟨_, rfl⟩
  have hB : Below w.heap.size w W3 := by
    rw [hW3]
    exact (((Below.refl w.heap.size w).alloc (Nat.le_refl _) _).alloc (by simp) _).alloc (by simp; omega) _
  have x1 : Bx W3 w.heap.size [.int .i64 k, .int .i64 x, .int .i64 y] := by
    rw [hW3]
    exact ((bx_new w [.int .i64 k, .int .i64 x, .int .i64 y] 33).below (below_new _ _)).below (below_new _ _)
  have x2 : Bx W3 (w.heap.size + 1) [.pointer none] := by
    have := (bx_new (w.alloc (.cells #[.int .i64 k, .int .i64 x, .int .i64 y] 33)) [.pointer none] 57).below (below_new _ (.cells #[.pointer none, .pointer (some ⟨w.heap.size + 1, 0, none⟩)] 24))
    simp only [World.size_alloc] at this
    rw [hW3]; exact this
  have x3 : Bx W3 (w.heap.size + 1 + 1) [.pointer none, .pointer (some ⟨w.heap.size + 1, 0, none⟩)] := by
    have := bx_new ((w.alloc (.cells #[.int .i64 k, .int .i64 x, .int .i64 y] 33)).alloc (.cells #[.pointer none] 57)) [.pointer none, .pointer (some ⟨w.heap.size + 1, 0, none⟩)] 24
    simp only [World.size_alloc] at this
    rw [hW3]; exact this
  have HX : Hid (Below w.heap.size w W3 ∧ Bx W3 w.heap.size [.int .i64 k, .int .i64 x, .int .i64 y] ∧ Bx W3 (w.heap.size + 1) [.pointer none] ∧ Bx W3 (w.heap.size + 1 + 1) [.pointer none, .pointer (some ⟨w.heap.size + 1, 0, none⟩)]) := ⟨hB, x1, x2, x3⟩
  have ha := fun W => dawake_k W
  clear hB x1 x2 x3
  go_enter Try.func7, Try.ntmps7
  go_wp2_with fail
  rw [← hW3]
  clear hW3
  obtain ⟨B, hB⟩ : ∃ B, w.heap.size = B := ⟨_, rfl⟩
  rw [hB] at HX ⊢
  have hB2 : Hid (w.heap.size = B) := hB
  clear hB
  go_loopw [19] (fun i wr => ∃ j : Nat, j ≤ 2 ∧ i = .int .i64 j ∧ Hid (Below W3.heap.size W3 wr)) (fun i _ => 2 - (intOf i).toNat)
  case atStart => exact ⟨0, by omega, rfl, Below.refl _ _⟩
  case round =>
    obtain ⟨j, hj, rfl, hI⟩ := hrel
    by_cases hlt : j < 2
    · obtain ⟨r0, r1⟩ := (HX.out.2.2.2.below hI.out).two
      obtain ⟨c0, c1, c2⟩ := (HX.out.2.1.below hI.out).three
      have cl := cell_lt c0
      have kc := (HX.out.2.2.1.below hI.out) 0 _ rfl
      rcases (show j = 0 ∨ j = 1 by omega) with rfl | rfl
      · have N0 : Hid (Nb wr (.pointer none) ∧ Bx wr B [.int .i64 k, .int .i64 x, .int .i64 y] ∧ Below W3.heap.size W3 wr) := ⟨.inl rfl, HX.out.2.1.below hI.out, hI.out⟩
        clear hI kc
        have hc := ncut_k N0.out.1 x
        go_wp2_with fail
        refine hc.mono ?_
        rintro e w1 ⟨rfl, hb⟩
        have N1 : Hid (Nb w1 (.pointer none) ∧ Bx w1 B [.int .i64 k, .int .i64 x, .int .i64 y] ∧ Below W3.heap.size W3 w1) := ⟨N0.out.1.below hb, N0.out.2.1.below hb, Below.onto N0.out.2.2 hb⟩
        clear hc hb N0 c0 c1 c2 cl r0 r1
        obtain ⟨c0, c1, c2⟩ := N1.out.2.1.three
        have cl := cell_lt c0
        have hc := npru_k N1.out.1 x
        go_wp2_with fail
        refine hc.mono ?_
        rintro e w2 ⟨rfl, hb⟩
        have N2 : Hid (Nb w2 (.pointer none) ∧ Bx w2 B [.int .i64 k, .int .i64 x, .int .i64 y] ∧ Below W3.heap.size W3 w2) := ⟨N1.out.1.below hb, N1.out.2.1.below hb, Below.onto N1.out.2.2 hb⟩
        clear hc hb N1 c0 c1 c2 cl
        obtain ⟨c0, c1, c2⟩ := N2.out.2.1.three
        have cl := cell_lt c0
        have hc := npar_k N2.out.1 x
        go_wp2_with fail
        refine hc.mono ?_
        rintro e w3 ⟨rfl, hb⟩
        have N3 : Hid (Nb w3 (.pointer none) ∧ Bx w3 B [.int .i64 k, .int .i64 x, .int .i64 y] ∧ Below W3.heap.size W3 w3) := ⟨N2.out.1.below hb, N2.out.2.1.below hb, Below.onto N2.out.2.2 hb⟩
        clear hc hb N2 c0 c1 c2 cl
        obtain ⟨c0, c1, c2⟩ := N3.out.2.1.three
        have cl := cell_lt c0
        have hc := nbelow_k N3.out.1 x
        go_wp2_with fail
        refine hc.mono ?_
        rintro e w4 ⟨rfl, hb⟩
        have N4 : Hid (Nb w4 (.pointer none) ∧ Bx w4 B [.int .i64 k, .int .i64 x, .int .i64 y] ∧ Below W3.heap.size W3 w4) := ⟨N3.out.1.below hb, N3.out.2.1.below hb, Below.onto N3.out.2.2 hb⟩
        clear hc hb N3 c0 c1 c2 cl
        obtain ⟨c0, c1, c2⟩ := N4.out.2.1.three
        have cl := cell_lt c0
        have hc := nroot_k N4.out.1 x
        go_wp2_with fail
        refine hc.mono ?_
        rintro e w5 ⟨rfl, hb⟩
        have N5 : Hid (Nb w5 (.pointer none) ∧ Bx w5 B [.int .i64 k, .int .i64 x, .int .i64 y] ∧ Below W3.heap.size W3 w5) := ⟨N4.out.1.below hb, N4.out.2.1.below hb, Below.onto N4.out.2.2 hb⟩
        clear hc hb N4 c0 c1 c2 cl
        obtain ⟨c0, c1, c2⟩ := N5.out.2.1.three
        have cl := cell_lt c0
        have hc := nder_k N5.out.1 x y
        go_wp2_with fail
        refine hc.mono ?_
        rintro e w6 ⟨rfl, hb⟩
        have N6 : Hid (Nb w6 (.pointer none) ∧ Bx w6 B [.int .i64 k, .int .i64 x, .int .i64 y] ∧ Below W3.heap.size W3 w6) := ⟨N5.out.1.below hb, N5.out.2.1.below hb, Below.onto N5.out.2.2 hb⟩
        clear hc hb N5 c0 c1 c2 cl
        obtain ⟨c0, c1, c2⟩ := N6.out.2.1.three
        have cl := cell_lt c0
        have hc := ndep_k N6.out.1 x
        go_wp2_with fail
        refine hc.mono ?_
        rintro e w7 ⟨rfl, hb⟩
        have N7 : Hid (Nb w7 (.pointer none) ∧ Bx w7 B [.int .i64 k, .int .i64 x, .int .i64 y] ∧ Below W3.heap.size W3 w7) := ⟨N6.out.1.below hb, N6.out.2.1.below hb, Below.onto N6.out.2.2 hb⟩
        clear hc hb N6 c0 c1 c2 cl
        obtain ⟨c0, c1, c2⟩ := N7.out.2.1.three
        have cl := cell_lt c0
        have hc := nlen_k N7.out.1
        go_wp2_with fail
        refine hc.mono ?_
        rintro e w8 ⟨rfl, hb⟩
        have N8 : Hid (Nb w8 (.pointer none) ∧ Bx w8 B [.int .i64 k, .int .i64 x, .int .i64 y] ∧ Below W3.heap.size W3 w8) := ⟨N7.out.1.below hb, N7.out.2.1.below hb, Below.onto N7.out.2.2 hb⟩
        clear hc hb N7 c0 c1 c2 cl
        obtain ⟨c0, c1, c2⟩ := N8.out.2.1.three
        have cl := cell_lt c0
        have hc := nhas_k N8.out.1 x
        go_wp2_with fail
        refine hc.mono ?_
        rintro e w9 ⟨rfl, hb⟩
        have N9 : Hid (Nb w9 (.pointer none) ∧ Bx w9 B [.int .i64 k, .int .i64 x, .int .i64 y] ∧ Below W3.heap.size W3 w9) := ⟨N8.out.1.below hb, N8.out.2.1.below hb, Below.onto N8.out.2.2 hb⟩
        clear hc hb N8 c0 c1 c2 cl
        obtain ⟨c0, c1, c2⟩ := N9.out.2.1.three
        have cl := cell_lt c0
        have hc := nund_k N9.out.1 x x
        go_wp2_with fail
        refine hc.mono ?_
        rintro e w10 ⟨rfl, hb⟩
        have N10 : Hid (Nb w10 (.pointer none) ∧ Bx w10 B [.int .i64 k, .int .i64 x, .int .i64 y] ∧ Below W3.heap.size W3 w10) := ⟨N9.out.1.below hb, N9.out.2.1.below hb, Below.onto N9.out.2.2 hb⟩
        clear hc hb N9 c0 c1 c2 cl
        obtain ⟨c0, c1, c2⟩ := N10.out.2.1.three
        have cl := cell_lt c0
        go_wp2_with fail
        go_roundw
        case rel => exact ⟨1, by omega, by first | rfl | go_num, N10.out.2.2⟩
        case measure => simp [intOf]
      · have N0 : Hid (Nb wr (.pointer (some ⟨B + 1, 0, none⟩)) ∧ Bx wr B [.int .i64 k, .int .i64 x, .int .i64 y] ∧ Below W3.heap.size W3 wr) := ⟨.inr ⟨B + 1, rfl, kc⟩, HX.out.2.1.below hI.out, hI.out⟩
        clear hI kc
        have hc := ncut_k N0.out.1 x
        go_wp2_with fail
        refine hc.mono ?_
        rintro e w1 ⟨rfl, hb⟩
        have N1 : Hid (Nb w1 (.pointer (some ⟨B + 1, 0, none⟩)) ∧ Bx w1 B [.int .i64 k, .int .i64 x, .int .i64 y] ∧ Below W3.heap.size W3 w1) := ⟨N0.out.1.below hb, N0.out.2.1.below hb, Below.onto N0.out.2.2 hb⟩
        clear hc hb N0 c0 c1 c2 cl r0 r1
        obtain ⟨c0, c1, c2⟩ := N1.out.2.1.three
        have cl := cell_lt c0
        have hc := npru_k N1.out.1 x
        go_wp2_with fail
        refine hc.mono ?_
        rintro e w2 ⟨rfl, hb⟩
        have N2 : Hid (Nb w2 (.pointer (some ⟨B + 1, 0, none⟩)) ∧ Bx w2 B [.int .i64 k, .int .i64 x, .int .i64 y] ∧ Below W3.heap.size W3 w2) := ⟨N1.out.1.below hb, N1.out.2.1.below hb, Below.onto N1.out.2.2 hb⟩
        clear hc hb N1 c0 c1 c2 cl
        obtain ⟨c0, c1, c2⟩ := N2.out.2.1.three
        have cl := cell_lt c0
        have hc := npar_k N2.out.1 x
        go_wp2_with fail
        refine hc.mono ?_
        rintro e w3 ⟨rfl, hb⟩
        have N3 : Hid (Nb w3 (.pointer (some ⟨B + 1, 0, none⟩)) ∧ Bx w3 B [.int .i64 k, .int .i64 x, .int .i64 y] ∧ Below W3.heap.size W3 w3) := ⟨N2.out.1.below hb, N2.out.2.1.below hb, Below.onto N2.out.2.2 hb⟩
        clear hc hb N2 c0 c1 c2 cl
        obtain ⟨c0, c1, c2⟩ := N3.out.2.1.three
        have cl := cell_lt c0
        have hc := nbelow_k N3.out.1 x
        go_wp2_with fail
        refine hc.mono ?_
        rintro e w4 ⟨rfl, hb⟩
        have N4 : Hid (Nb w4 (.pointer (some ⟨B + 1, 0, none⟩)) ∧ Bx w4 B [.int .i64 k, .int .i64 x, .int .i64 y] ∧ Below W3.heap.size W3 w4) := ⟨N3.out.1.below hb, N3.out.2.1.below hb, Below.onto N3.out.2.2 hb⟩
        clear hc hb N3 c0 c1 c2 cl
        obtain ⟨c0, c1, c2⟩ := N4.out.2.1.three
        have cl := cell_lt c0
        have hc := nroot_k N4.out.1 x
        go_wp2_with fail
        refine hc.mono ?_
        rintro e w5 ⟨rfl, hb⟩
        have N5 : Hid (Nb w5 (.pointer (some ⟨B + 1, 0, none⟩)) ∧ Bx w5 B [.int .i64 k, .int .i64 x, .int .i64 y] ∧ Below W3.heap.size W3 w5) := ⟨N4.out.1.below hb, N4.out.2.1.below hb, Below.onto N4.out.2.2 hb⟩
        clear hc hb N4 c0 c1 c2 cl
        obtain ⟨c0, c1, c2⟩ := N5.out.2.1.three
        have cl := cell_lt c0
        have hc := nder_k N5.out.1 x y
        go_wp2_with fail
        refine hc.mono ?_
        rintro e w6 ⟨rfl, hb⟩
        have N6 : Hid (Nb w6 (.pointer (some ⟨B + 1, 0, none⟩)) ∧ Bx w6 B [.int .i64 k, .int .i64 x, .int .i64 y] ∧ Below W3.heap.size W3 w6) := ⟨N5.out.1.below hb, N5.out.2.1.below hb, Below.onto N5.out.2.2 hb⟩
        clear hc hb N5 c0 c1 c2 cl
        obtain ⟨c0, c1, c2⟩ := N6.out.2.1.three
        have cl := cell_lt c0
        have hc := ndep_k N6.out.1 x
        go_wp2_with fail
        refine hc.mono ?_
        rintro e w7 ⟨rfl, hb⟩
        have N7 : Hid (Nb w7 (.pointer (some ⟨B + 1, 0, none⟩)) ∧ Bx w7 B [.int .i64 k, .int .i64 x, .int .i64 y] ∧ Below W3.heap.size W3 w7) := ⟨N6.out.1.below hb, N6.out.2.1.below hb, Below.onto N6.out.2.2 hb⟩
        clear hc hb N6 c0 c1 c2 cl
        obtain ⟨c0, c1, c2⟩ := N7.out.2.1.three
        have cl := cell_lt c0
        have hc := nlen_k N7.out.1
        go_wp2_with fail
        refine hc.mono ?_
        rintro e w8 ⟨rfl, hb⟩
        have N8 : Hid (Nb w8 (.pointer (some ⟨B + 1, 0, none⟩)) ∧ Bx w8 B [.int .i64 k, .int .i64 x, .int .i64 y] ∧ Below W3.heap.size W3 w8) := ⟨N7.out.1.below hb, N7.out.2.1.below hb, Below.onto N7.out.2.2 hb⟩
        clear hc hb N7 c0 c1 c2 cl
        obtain ⟨c0, c1, c2⟩ := N8.out.2.1.three
        have cl := cell_lt c0
        have hc := nhas_k N8.out.1 x
        go_wp2_with fail
        refine hc.mono ?_
        rintro e w9 ⟨rfl, hb⟩
        have N9 : Hid (Nb w9 (.pointer (some ⟨B + 1, 0, none⟩)) ∧ Bx w9 B [.int .i64 k, .int .i64 x, .int .i64 y] ∧ Below W3.heap.size W3 w9) := ⟨N8.out.1.below hb, N8.out.2.1.below hb, Below.onto N8.out.2.2 hb⟩
        clear hc hb N8 c0 c1 c2 cl
        obtain ⟨c0, c1, c2⟩ := N9.out.2.1.three
        have cl := cell_lt c0
        have hc := nund_k N9.out.1 x x
        go_wp2_with fail
        refine hc.mono ?_
        rintro e w10 ⟨rfl, hb⟩
        have N10 : Hid (Nb w10 (.pointer (some ⟨B + 1, 0, none⟩)) ∧ Bx w10 B [.int .i64 k, .int .i64 x, .int .i64 y] ∧ Below W3.heap.size W3 w10) := ⟨N9.out.1.below hb, N9.out.2.1.below hb, Below.onto N9.out.2.2 hb⟩
        clear hc hb N9 c0 c1 c2 cl
        obtain ⟨c0, c1, c2⟩ := N10.out.2.1.three
        have cl := cell_lt c0
        go_wp2_with fail
        go_roundw
        case rel => exact ⟨2, by omega, by first | rfl | go_num, N10.out.2.2⟩
        case measure => simp [intOf]
    · obtain rfl : j = 2 := by omega
      have HB : Hid (Below w.heap.size w wr) := Below.onto (by have h9 := HX.out.1; rw [← hB2.out] at h9; exact h9) hI.out
      go_wp2_with fail
      refine (ha _).mono ?_
      rintro e w1 ⟨rfl, hb⟩
      go_wp2_with fail
      go_ret
      exact ⟨rfl, Below.onto HB.out hb⟩
end Go.Proofs.Ytopjidlhhamjhaa
