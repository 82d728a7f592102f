/- PROVED: for every act the statement ListNobody returns true: lists that nobody made refuse all (rule 3). No condition. -/
import Derived.Test.YtiaacjollcccaaaRows
import Derived.Test.YtiaacjollcccaaaKNobody
import Derived.Deep.RegionHeld3
import Derived.Test.YtiaacjollcccaaaKRow
import Derived.ProofKit
import Derived.ShutString
import Derived.ChangeOld
import Derived.OpenShut
namespace Go.Proofs.Ytiaacjollcccaaa.listNobody
open Go.ChangeShapes Go.WideShapes Go.ChangeAt Go.RowKit

theorem own : ownKnob Try.prog.godebug = none := by kernel_rfl
theorem laidOut : laidOutB Try.prog = true := by kernel_rfl

theorem cells3 (w : World) (a b c : Value) (T : TypeId) : (w.alloc (.cells #[a, b, c] T)).cell? ⟨w.heap.size, 1, none⟩ = some b ∧ (w.alloc (.cells #[a, b, c] T)).cell? ⟨w.heap.size, 2, none⟩ = some c :=
  ⟨by rw [cell_of_row _ _ 1 _ T (0, 0) (World.alloc_heap_new w _)]; rfl, by rw [cell_of_row _ _ 2 _ T (0, 0) (World.alloc_heap_new w _)]; rfl⟩
theorem cells0 (w : World) (a : Value) (l : List Value) (T : TypeId) : (w.alloc (.cells (a :: l).toArray T)).cell? ⟨w.heap.size, 0, none⟩ = some a := by
  rw [cell_of_row _ _ 0 _ T (0, 0) (World.alloc_heap_new w _)]; rfl
theorem cells1 (w : World) (a b : Value) (l : List Value) (T : TypeId) : (w.alloc (.cells (a :: b :: l).toArray T)).cell? ⟨w.heap.size, 1, none⟩ = some b := by
  rw [cell_of_row _ _ 1 _ T (0, 0) (World.alloc_heap_new w _)]; rfl
theorem five (w : World) (T : TypeId) : ∀ j, j < 5 → (w.alloc (.cells #[.int .i64 4, .int .i64 4, .int .i64 4, .int .i64 4, .int .i64 4] T)).cell? ⟨w.heap.size, j, none⟩ = some (.int .i64 4) := by
  intro j hj
  rw [cell_of_row _ _ j _ T (0, 0) (World.alloc_heap_new w _)]
  match j, hj with
  | 0, _ => rfl
  | 1, _ => rfl
  | 2, _ => rfl
  | 3, _ => rfl
  | 4, _ => rfl

set_option maxRecDepth 100000 in
set_option maxHeartbeats 4000000 in
theorem walk (k i x : Int) (w0 : World) :
    Calls Try.prog 7 #[.agg #[.int .i64 k, .int .i64 i, .int .i64 x]] w0 fun e w' => e = .returned (.bool true) ∧ Below w0.heap.size w0 w' := by
  go_enter Try.func7, Try.ntmps7
  go_wp2_with fail
  have x0 := cells3 w0 (.int .i64 k) (.int .i64 i) (.int .i64 x) 33
  have HX : Hid (∃ w3, w3 = ((w0.alloc (.cells #[.int .i64 k, .int .i64 i, .int .i64 x] 33)).alloc (.cells #[.bool false, .int .i64 0, .slice none 0 0, .slice none 0 0, .slice none 0 0] 55)).alloc (.cells #[.pointer none, .pointer (some ⟨w0.heap.size + 1, 0, none⟩)] 23)) := ⟨_, rfl⟩
  have hb1 : Below w0.heap.size w0 (w0.alloc (.cells #[.int .i64 k, .int .i64 i, .int .i64 x] 33)) := (Below.refl _ w0).alloc (Nat.le_refl _) _
  have x1 := cells0 (w0.alloc (.cells #[.int .i64 k, .int .i64 i, .int .i64 x] 33)) (.bool false) [.int .i64 0, .slice none 0 0, .slice none 0 0, .slice none 0 0] 55
  have x2 := cells0 ((w0.alloc (.cells #[.int .i64 k, .int .i64 i, .int .i64 x] 33)).alloc (.cells #[.bool false, .int .i64 0, .slice none 0 0, .slice none 0 0, .slice none 0 0] 55)) (.pointer none) [.pointer (some ⟨w0.heap.size + 1, 0, none⟩)] 23
  have x3 := cells1 ((w0.alloc (.cells #[.int .i64 k, .int .i64 i, .int .i64 x] 33)).alloc (.cells #[.bool false, .int .i64 0, .slice none 0 0, .slice none 0 0, .slice none 0 0] 55)) (.pointer none) (.pointer (some ⟨w0.heap.size + 1, 0, none⟩)) [] 23
  obtain ⟨w3, hw3⟩ := HX.out
  have hb2 : Below (w0.alloc (.cells #[.int .i64 k, .int .i64 i, .int .i64 x] 33)).heap.size (w0.alloc (.cells #[.int .i64 k, .int .i64 i, .int .i64 x] 33)) w3 := by rw [hw3]; exact ((Below.refl _ _).alloc (Nat.le_refl _) _).alloc (by simp) _
  have hb3 : Below w0.heap.size w0 w3 := Below.onto hb1 hb2
  have y1 : w3.cell? ⟨w0.heap.size, 1, none⟩ = some (.int .i64 i) := (hb2.cell (p := ⟨w0.heap.size, 1, none⟩) (by simp)).trans x0.1
  have y2 : w3.cell? ⟨w0.heap.size, 2, none⟩ = some (.int .i64 x) := (hb2.cell (p := ⟨w0.heap.size, 2, none⟩) (by simp)).trans x0.2
  simp only [World.size_alloc] at x1 x2 x3
  have y3 : w3.cell? ⟨w0.heap.size + 1, 0, none⟩ = some (.bool false) := by rw [hw3, World.cell?_alloc_lt _ _ _ (by simp)]; exact x1
  have y4 : w3.cell? ⟨w0.heap.size + 1 + 1, 0, none⟩ = some (.pointer none) := by rw [hw3]; exact x2
  have y5 : w3.cell? ⟨w0.heap.size + 1 + 1, 1, none⟩ = some (.pointer (some ⟨w0.heap.size + 1, 0, none⟩)) := by rw [hw3]; exact x3
  rw [← hw3]
  clear hw3 HX x0 x1 x2 x3 hb1 hb2
  have hround : Hid (∀ j, j < 2 → ∃ l, w3.cell? ⟨w0.heap.size + 1 + 1, j, none⟩ = some (.pointer l) ∧ Nb w3 l) := fun j hj => by
    match j, hj with
    | 0, _ => exact ⟨none, y4, .inl rfl⟩
    | 1, _ => exact ⟨_, y5, .inr ⟨_, rfl, y3⟩⟩
  have HY : Hid (w3.cell? ⟨w0.heap.size, 1, none⟩ = some (.int .i64 i) ∧ w3.cell? ⟨w0.heap.size, 2, none⟩ = some (.int .i64 x)) := ⟨y1, y2⟩
  clear y1 y2 y3 y4 y5
  go_loopw [17] (fun v wr => ∃ j : Nat, j ≤ 2 ∧ v = .int .i64 j ∧ Below w3.heap.size w3 wr) (fun v _ => 2 - (intOf v).toNat)
  case atStart => exact ⟨0, by omega, rfl, Below.refl _ _⟩
  case round =>
    obtain ⟨j, hj, rfl, hbel⟩ := hrel
    by_cases hlt : j < 2
    · obtain ⟨l, hc, hn⟩ := hround.out j hlt
      have c0 : wr.cell? ⟨w0.heap.size + 1 + 1, j, none⟩ = some (.pointer l) := (hbel.cell (p := ⟨w0.heap.size + 1 + 1, j, none⟩) (cell_lt hc)).trans hc
      have c1 : wr.cell? ⟨w0.heap.size, 1, none⟩ = some (.int .i64 i) := (hbel.cell (p := ⟨w0.heap.size, 1, none⟩) (cell_lt HY.out.1)).trans HY.out.1
      have c2 : wr.cell? ⟨w0.heap.size, 2, none⟩ = some (.int .i64 x) := (hbel.cell (p := ⟨w0.heap.size, 2, none⟩) (cell_lt HY.out.2)).trans HY.out.2
      have HN : Hid (Nb wr l) := hn.below hbel
      clear hc hn
      go_wp2_with fail
      refine (pop_nb l i _ HN.out).mono ?_
      rintro e w4 ⟨rfl, e1⟩
      subst e1
      go_wp2_with fail
      refine (of_nb l x _ HN.out).mono ?_
      rintro e w4 ⟨rfl, e1⟩
      subst e1
      have hnd : Nb w4.drew l := HN.out
      have hbA : Below w4.heap.size w4 (w4.alloc (.cells #[.int .i64 4, .int .i64 4, .int .i64 4, .int .i64 4, .int .i64 4] 24)).drew := ((Below.refl _ w4).alloc (Nat.le_refl _) _).drew
      have d1 := (hbA.cell (p := ⟨w0.heap.size, 1, none⟩) (cell_lt c1)).trans c1
      have d2 := (hbA.cell (p := ⟨w0.heap.size, 2, none⟩) (cell_lt c2)).trans c2
      have d3 := HN.out.below hbA
      go_wp2_with fail
      go_region_held3 (fun W => W.cell? ⟨w0.heap.size, 1, none⟩ = some (.int .i64 i) ∧ W.cell? ⟨w0.heap.size, 2, none⟩ = some (.int .i64 x) ∧ Nb W l) (first | assumption | exact ⟨c1, c2, hnd⟩ | exact ⟨d1, d2, d3⟩) (first
        | (go_at_call 22; (with_reducible refine (push_nb l i x _ (show (_ ∧ _ ∧ Nb _ l) by assumption).2.2).mono ?_); rintro e w' ⟨rfl, rfl⟩)
        | (go_at_call 23; (with_reducible refine (pushFront_nb l i x _ (show (_ ∧ _ ∧ Nb _ l) by assumption).2.2).mono ?_); rintro e w' ⟨rfl, rfl⟩)
        | (go_at_call 16; (with_reducible refine (drop_nb l x _ (show (_ ∧ _ ∧ Nb _ l) by assumption).2.2).mono ?_); rintro e w' ⟨rfl, rfl⟩)
        | (go_at_call 24; (with_reducible refine (move_nb l i x _ (show (_ ∧ _ ∧ Nb _ l) by assumption).2.2).mono ?_); rintro e w' ⟨rfl, rfl⟩)
        | (go_at_call 25; (with_reducible refine (take_nb l i x _ (show (_ ∧ _ ∧ Nb _ l) by assumption).2.2).mono ?_); rintro e w' ⟨rfl, rfl⟩))
      have HF : Hid (∀ j, j < 5 → (w4.alloc (.cells #[.int .i64 4, .int .i64 4, .int .i64 4, .int .i64 4, .int .i64 4] 24)).drew.cell? ⟨w4.heap.size, j, none⟩ = some (.int .i64 4)) := five w4 _
      have HB4 : Hid (Below w3.heap.size w3 w4) := hbel
      have HB5 : Hid (Below w3.heap.size w3 (w4.alloc (.cells #[.int .i64 4, .int .i64 4, .int .i64 4, .int .i64 4, .int .i64 4] 24)).drew) := Below.onto hbel hbA
      have HN5 : Hid (Nb (w4.alloc (.cells #[.int .i64 4, .int .i64 4, .int .i64 4, .int .i64 4, .int .i64 4] 24)).drew l) := d3
      clear c0 c1 c2 hnd HN hbA hbel d3
      generalize (w4.alloc (.cells #[.int .i64 4, .int .i64 4, .int .i64 4, .int .i64 4, .int .i64 4] 24)).drew = w5 at *
      go_wp2_with fail
      go_loopw [65] (fun v wx => ∃ q : Nat, q ≤ 5 ∧ v = .int .i64 q ∧ wx = w5) (fun v _ => 5 - (intOf v).toNat)
      case atStart => exact ⟨0, by omega, rfl, rfl⟩
      case round =>
        obtain ⟨q, hq, rfl, rfl⟩ := hrel
        by_cases hq5 : q < 5
        · have cq := HF.out q hq5
          go_wp2_with fail
          go_roundw
          case rel => exact ⟨q + 1, by omega, by go_num, trivial⟩
          case measure => simp [intOf]; omega
        · obtain rfl : q = 5 := by omega
          go_wp2_with fail
          refine (len_nb l i _ HN5.out).mono ?_
          rintro e w6 ⟨rfl, e1⟩
          subst e1
          go_wp2_with fail
          refine (told_nb l i _ HN5.out).mono ?_
          rintro e w7 ⟨a7, cap7, rfl, hb7⟩
          have e1 := (hb7.cell (p := ⟨w0.heap.size, 1, none⟩) (cell_lt d1)).trans d1
          have HN7 : Hid (Nb w7 l) := HN5.out.below hb7
          have HB7 : Hid (Below w3.heap.size w3 w7) := Below.onto HB5.out hb7
          clear d1 d2
          go_wp2_with fail
          refine (back_k _ _ _).mono ?_
          rintro e w8 ⟨rfl, hw8⟩
          have hb8 := (boxes3 hw8).1
          have hcall := rest_nb l i _ _ _ w7 w8 HN7.out hw8
          clear hw8
          go_wp2_with fail
          refine hcall.mono ?_
          rintro e w9 ⟨a9, cap9, rfl, hb9⟩
          have B9 : Below w3.heap.size w3 w9 := Below.onto (Below.onto HB7.out hb8) hb9
          clear hcall hb8 hb9 e1
          go_wp2_with fail
          go_roundw
          case rel => exact ⟨j + 1, by omega, by go_num, B9⟩
          case measure => simp [intOf]; omega
    · obtain rfl : j = 2 := by omega
      go_wp2_with fail
      refine (alive_k _).mono ?_
      rintro e w4 ⟨rfl, hb4⟩
      go_wp2_with fail
      go_ret
      exact ⟨rfl, Below.onto (Below.onto hb3 hbel) hb4⟩

set_option maxRecDepth 100000 in
theorem lifted (os : Os) (started : os.Started) (H : Type) (enc : TypeId × Value → H) :
    ReturnsInHanded {} Try.checked os 7 .any (Rows.listNobodySpec.pre6 enc Try.prog Try.f7 Rows.listNobodyRow.domain false) (Rows.listNobodySpec.post enc Try.prog Try.f7 false true false false) := by
  refine returnsInHanded_of_change (C := Try.checked) own started (by kernel_rfl) Try.func7
    (ChangeSpec.witness6 (enc := enc) (C := Try.checked) false ⟨#[], #[.agg #[.int .i64 0, .int .i64 0, .int .i64 0]], []⟩ 8 (by kernel_rfl) (by kernel_rfl) (by kernel_rfl) (by kernel_rfl)) ?_
  intro W base args ds gs before hval0 hW hcnd _
  have hval : ∀ (j : Nat) t v, Try.f7.params[j]? = some t → args[j]? = some v → Value.okWide Try.prog W .any base t v := hval0
  have hW' := hW
  obtain ⟨p, q, hA0, hV, rfl, hfz, hnd⟩ := hW
  have hA : DataW.TrodAll enc Try.prog W 0 (fun _ => true) true Try.f7.params.toList args.toList ds p := hA0
  rw [Try.params7] at hA hval
  obtain ⟨v0, vs0, d0, ds0, p0, q0, hargs, rfl, rfl, h0, r0⟩ := trodAll_cons hA
  obtain ⟨rfl, rfl, rfl⟩ := trodAll_nil r0
  obtain rfl : args = #[v0] := by cases args; simp_all
  obtain ⟨rfl, rfl⟩ := trodVars_none hV
  have k0 := h0
  have lt0 : ∀ x ∈ p0, x.block < W.heap.size := by obtain ⟨m, hm⟩ := k0; exact DataW.trod_lt m _ _ _ hm
  obtain ⟨ok, oi, ox, rfl, w0⟩ := open_op (hval 0 33 v0 rfl rfl) h0
  clear hA0 hval0
  refine (walk ok oi ox W).mono fun e W' ⟨he, bel⟩ => ?_
  subst he
  exact ⟨_, rfl, _, _, _, [], _, [], hW', trodAll_mk1 (shut_bool Try.underlying4 _), (trodAll_cons_mk (Below.trod laidOut (by kernel_rfl) (of_decide_eq_true (by kernel_rfl)) k0 bel lt0) trodAll_mk0), rfl, bel.frame _, fun h => by cases h⟩

end Go.Proofs.Ytiaacjollcccaaa.listNobody
namespace Go.Proofs.Ytiaacjollcccaaa

/-- The statement ListNobody. -/
theorem ListNobodyHolds : Rows.ListNobodySaid :=
  OpenClaim.holds_of_wide 7 Try.f7 rfl rfl rfl rfl rfl rfl rfl ⟨rfl, rfl, rfl, rfl, rfl⟩ rfl rfl rfl rfl rfl (by kernel_rfl) Try.func7 (by kernel_rfl)
    (of_decide_eq_true (by kernel_rfl)) (by unfold Func.isWrapper; first | (rw [if_pos (by decide +kernel)]; kernel_rfl) | (rw [if_neg (by decide +kernel)]; exact ⟨rfl, rfl⟩))
    (fun os started H enc _ => listNobody.lifted os started H enc)

end Go.Proofs.Ytiaacjollcccaaa
