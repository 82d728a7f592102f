/- Depth, Under, the law's below, two rows. -/
import Derived.Test.YtlphombjejgbiaaDSearch
import Derived.Test.YtlphombjejgbiaaDBelow
namespace Go.Proofs.Ytlphombjejgbiaa
open Go.RowKit Go.Shelf
attribute [local go_sem] Oper.semAt_some
set_option maxRecDepth 100000

/-- what Depth tells -/
def dptI (N : Nat) (L : List Fe) (x : Int) : Int := if hasF N L x then ((dpt N L x.toNat : Nat) : Int) else -1
set_option maxHeartbeats 4000000 in
theorem depth_k {w : World} {a : Fp} {N : Nat} {L : List Fe} (h : Fo w a N L) (x : Int) :
    Calls Try.prog 34 #[a.ptr, .int .i64 x] w fun e w' => e = .returned (.int .i64 (dptI N L x)) ∧ Below w.heap.size w w' := by
  obtain ⟨z, h⟩ := h
  have hi := fis_any h
  have hh := fhas_any h x
  have HX : Hid (Fx w a N L z) := h
  clear h
  cases hq : hasF N L x
  · have HR : Hid (dptI N L x = -1) := by show _ = _; simp [dptI, hq]
    rw [hq] at hh
    clear hq
    go_enter Try.func34, Try.ntmps34
    go_wp2_with fail
    refine hi.mono ?_
    rintro e w' ⟨rfl, rfl⟩
    go_wp2_with fail
    refine hh.mono ?_
    rintro e w2 ⟨rfl, hb2⟩
    go_wp2_with fail
    go_ret
    rw [HR.out]
    exact ⟨rfl, hb2⟩
  · have HR : Hid (dptI N L x = ((dpt N L x.toNat : Nat) : Int)) := by show _ = _; simp [dptI, hq]
    have hin : inR N x = true := by unfold hasF at hq; rw [Bool.and_eq_true] at hq; exact hq.1
    rw [hq] at hh
    clear hq
    obtain ⟨k, rfl, hk⟩ := inR_nat hin
    clear hin
    go_enter Try.func34, Try.ntmps34
    go_wp2_with fail
    refine hi.mono ?_
    rintro e w' ⟨rfl, rfl⟩
    go_wp2_with fail
    refine hh.mono ?_
    rintro e w2 ⟨rfl, hb2⟩
    have H2 : Hid (Fx w2 a N L z ∧ Below w'.heap.size w' w2) := ⟨HX.out.below hb2, hb2⟩
    have c := H2.out.1.pc.cell
    have c17 := H2.out.1.k17
    have hs := fun W (hW : Below w2.heap.size w2 W) => searchD_k (H2.out.1.below hW) k hk
    rw [srch_dpt H2.out.1.ok _ k (Nat.le_refl _)] at hs
    have toS : ∀ W, Below w2.heap.size w2 W → W.cell? ⟨a.p, 0, none⟩ = some (.pointer (some ⟨a.k, 0, none⟩)) ∧ W.cell? ⟨a.k, 17, none⟩ = some a.o.ptr := fun W hW => ⟨(hW.cell (p := ⟨a.p, 0, none⟩) (cell_lt c)).trans c, (hW.cell (p := ⟨a.k, 17, none⟩) (cell_lt c17)).trans c17⟩
    clear c c17 hb2 hh hi HX
    go_wp2_with fail
    go_region_held3 (fun W => W.cell? ⟨a.p, 0, none⟩ = some (.pointer (some ⟨a.k, 0, none⟩)) ∧ W.cell? ⟨a.k, 17, none⟩ = some a.o.ptr) (first | (with_reducible assumption) | exact toS _ (by assumption) | exact toS _ (Below.refl _ _).drew | exact toS _ (Below.refl _ _)) (first | (go_at_call 68; (with_reducible refine (hs _ ((Below.refl _ _).drew)).mono ?_); rintro v w5 ⟨rfl, hb5⟩; have e5 : Below w2.heap.size w2 w5 := (Below.refl _ w2).drew.trans hb5))
    all_goals
      have HB : Hid (Below w'.heap.size w' w5) := Below.onto H2.out.2 e5
      clear hb5 e5
      try go_wp2_with fail
      go_ret
      rw [HR.out]
      exact ⟨rfl, HB.out⟩
/-- what Under tells -/
def undI (N : Nat) (L : List Fe) (x r : Int) : Bool := hasF N L x && (hasF N L r && undB L x.toNat r.toNat)
theorem hasF_in {N : Nat} {L : List Fe} {x : Int} (h : hasF N L x = true) : inR N x = true := by unfold hasF at h; rw [Bool.and_eq_true] at h; exact h.1
set_option maxHeartbeats 4000000 in
theorem under_k {w : World} {a : Fp} {N : Nat} {L : List Fe} (h : Fo w a N L) (x r : Int) :
    Calls Try.prog 36 #[a.ptr, .int .i64 x, .int .i64 r] w fun e w' => e = .returned (.bool (undI N L x r)) ∧ Below w.heap.size w w' := by
  obtain ⟨z, h⟩ := h
  have b0 : Below w.heap.size w (w.alloc (.cells #[.int .i64 r] 3)) := (Below.refl _ w).alloc (Nat.le_refl _) _
  have HX : Hid (Fx (w.alloc (.cells #[.int .i64 r] 3)) a N L z ∧ Below w.heap.size w (w.alloc (.cells #[.int .i64 r] 3)) ∧ Boxed (w.alloc (.cells #[.int .i64 r] 3)) w.heap.size 3 (.int .i64 r)) := ⟨h.below b0, b0, Boxed.new _ _ _⟩
  clear h b0
  cases hq : hasF N L x
  · have hh := fhas_any HX.out.1 x
    have HR : Hid (undI N L x r = false) := by show _ = _; simp [undI, hq]
    rw [hq] at hh
    clear hq
    go_enter Try.func36, Try.ntmps36
    go_wp2_with fail
    refine hh.mono ?_
    rintro e w2 ⟨rfl, hb2⟩
    have HB : Hid (Below w.heap.size w w2) := Below.onto HX.out.2.1 hb2
    go_wp2_with fail
    go_ret
    rw [HR.out]
    exact ⟨rfl, HB.out⟩
  · cases hq2 : hasF N L r
    · have hh := fhas_any HX.out.1 x
      have hh2 := fun W (hW : Below (w.alloc (.cells #[.int .i64 r] 3)).heap.size (w.alloc (.cells #[.int .i64 r] 3)) W) => fhas_any (HX.out.1.below hW) r
      have HR : Hid (undI N L x r = false) := by show _ = _; simp [undI, hq2]
      rw [hq] at hh
      rw [hq2] at hh2
      clear hq hq2
      go_enter Try.func36, Try.ntmps36
      go_wp2_with fail
      refine hh.mono ?_
      rintro e w2 ⟨rfl, hb2⟩
      have cr := (show Boxed w2 w.heap.size _ _ from (hb2.block _ HX.out.2.2.lt).trans HX.out.2.2).cell
      go_wp2_with fail
      refine (hh2 _ hb2).mono ?_
      rintro e w3 ⟨rfl, hb3⟩
      have HB : Hid (Below w.heap.size w w3) := Below.onto (Below.onto HX.out.2.1 hb2) hb3
      go_wp2_with fail
      go_ret
      rw [HR.out]
      exact ⟨rfl, HB.out⟩
    · have hh := fhas_any HX.out.1 x
      have hh2 := fun W (hW : Below (w.alloc (.cells #[.int .i64 r] 3)).heap.size (w.alloc (.cells #[.int .i64 r] 3)) W) => fhas_any (HX.out.1.below hW) r
      have HR : Hid (undI N L x r = undB L x.toNat r.toNat) := by show _ = _; simp [undI, hq, hq2]
      have hin := hasF_in hq
      have hin2 := hasF_in hq2
      rw [hq] at hh
      rw [hq2] at hh2
      clear hq hq2
      obtain ⟨k, rfl, hk⟩ := inR_nat hin
      obtain ⟨q, rfl, hqN⟩ := inR_nat hin2
      clear hin hin2
      go_enter Try.func36, Try.ntmps36
      go_wp2_with fail
      refine hh.mono ?_
      rintro e w2 ⟨rfl, hb2⟩
      have bq : Boxed w2 w.heap.size 3 (.int .i64 (q : Int)) := (hb2.block _ HX.out.2.2.lt).trans HX.out.2.2
      have cr := bq.cell
      have BQ : Hid (Boxed w2 w.heap.size 3 (.int .i64 (q : Int))) := bq
      clear bq
      go_wp2_with fail
      refine (hh2 _ hb2).mono ?_
      rintro e w3 ⟨rfl, hb3⟩
      have HB : Hid (Below w.heap.size w w3) := Below.onto (Below.onto HX.out.2.1 hb2) hb3
      have h3 := (HX.out.1.below hb2).below hb3
      have c := h3.pc.cell
      have c17 := h3.k17
      have hs := searchU_k h3 k hk q w.heap.size ((hb3.block _ BQ.out.lt).trans BQ.out)
      have he := srch_und h3.ok q _ k (Nat.le_refl _)
      rw [he] at hs
      clear h3 hb3 hb2 hh hh2 cr he
      go_wp2_with fail
      refine hs.mono ?_
      rintro e w4 ⟨rfl, hb4⟩
      have HB4 : Hid (Below w.heap.size w w4) := Below.onto HB.out hb4
      go_wp2_with fail
      go_ret
      rw [HR.out]
      exact ⟨rfl, HB4.out⟩
set_option maxHeartbeats 1000000 in
/-- an iterator: two boxes -/
theorem belowf_k (a : Fp) (x : Int) (w : World) :
    Calls Try.prog 38 #[a.ptr, .int .i64 x] w fun e w' => e = .returned (.func (.func 71) #[] #[.pointer (some ⟨w.heap.size, 0, none⟩), .pointer (some ⟨w.heap.size + 1, 0, none⟩)]) ∧ w' = (w.alloc (.cells #[a.ptr] 24)).alloc (.cells #[.int .i64 x] 3) := by
  go_enter Try.func38, Try.ntmps38
  go_wp2_with fail
  go_ret
  exact ⟨rfl, rfl⟩
end Go.Proofs.Ytlphombjejgbiaa
