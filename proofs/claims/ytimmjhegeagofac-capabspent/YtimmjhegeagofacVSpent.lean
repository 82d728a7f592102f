/- CapabSpent: a table of one place. -/
import Derived.Test.YtimmjhegeagofacVLive
namespace Go.Proofs.Ytimmjhegeagofac
open Go.RowKit Go.Sort
set_option maxRecDepth 100000

/-- a table of one place, free, of generation g; and taken -/
def spT (g : Int) : Tb := ⟨1, fun i => if i = 0 then ⟨0, 0, g⟩ else pc0⟩
def spM (g : Int) : Tb := ⟨1, fun i => if i = 0 then ⟨0, 1, g⟩ else pc0⟩
theorem sp_new : newTb 1 = spT 1 := by
  unfold newTb spT
  congr 1
  funext i
  by_cases h : i = 0
  · simp [h]
  · have : ¬ i < 1 := by omega
    simp [h]
theorem sp_fr {g : Int} (h : g ≤ 65535) : frN (spT g) = 0 := frTo_at (i := 0) (k := 1) (by omega) (fun j hj => absurd hj (by omega)) (by simp [spT, lefP, h])
theorem sp_full : frN (spT 65536) = 1 := frTo_same (k := 1) (fun j hj => by (obtain rfl : j = 0 := by omega); rfl)
theorem sp_n (g : Int) : (spT g).n = 1 := rfl
theorem sp_mtE {g : Int} (h : g ≤ 65535) : mtE (spT g) 1 = 0 := by unfold mtE; rw [sp_fr h, sp_n]; rfl
theorem sp_h {g : Int} (h0 : 1 ≤ g) (h : g ≤ 65535) : handAns 0 1 g = 256 + 65536 * g := by rw [hand_in (by omega) (by omega) (by omega) (by omega) (by omega) h]; omega
theorem sp_mtI {g : Int} (h0 : 1 ≤ g) (h : g ≤ 65535) : mtI (spT g) 1 = 256 + 65536 * g := by
  unfold mtI
  rw [sp_fr h, sp_n, if_neg (by omega), if_pos (by omega), ← sp_h h0 h]
  rfl
theorem sp_mtT {g : Int} (h : g ≤ 65535) : mtT (spT g) 0 1 = spM g := by
  unfold mtT
  rw [sp_fr h, sp_n, if_neg (by omega), if_pos (by omega)]
  unfold Tb.set spM
  congr 1
  funext i
  unfold updP
  by_cases e : i = 0
  · subst e; rfl
  · simp [spT, e]
theorem sp_plc (g : Int) : plc (256 + 65536 * g) = 0 := by unfold plc; omega
theorem sp_tkh {g : Int} (h0 : 1 ≤ g) (h : g ≤ 65535) : tkh (spM g) (256 + 65536 * g) = true := by
  have e : hdl (spM g) 0 = 256 + 65536 * g := by rw [← sp_h h0 h]; rfl
  unfold tkh
  rw [sp_plc, e]
  simp [spM, takP]
theorem sp_dpE {g : Int} (h0 : 1 ≤ g) (h : g ≤ 65535) : dpE (spM g) (256 + 65536 * g) = 0 := by unfold dpE; rw [sp_tkh h0 h]; rfl
theorem sp_dpT {g : Int} (h0 : 1 ≤ g) (h : g ≤ 65535) : dpT (spM g) (256 + 65536 * g) = spT (g + 1) := by
  unfold dpT
  rw [sp_tkh h0 h, sp_plc]
  simp only [if_true]
  unfold Tb.set spT
  congr 1
  funext i
  unfold updP
  by_cases e : i = 0
  · subst e; rfl
  · simp [spM, e]
theorem sp_end : mtE (spT 65536) 1 = 110 ∧ mtI (spT 65536) 1 = 0 ∧ mtT (spT 65536) 0 1 = spT 65536 ∧ lfTo (spT 65536) 1 = 0 ∧ lvTo (spT 65536) 1 = [] := by
  refine ⟨?_, ?_, ?_, rfl, rfl⟩
  · unfold mtE; rw [sp_full, sp_n]; rfl
  · unfold mtI; rw [sp_full, sp_n]; rfl
  · unfold mtT; rw [sp_full, sp_n]; rfl
set_option maxHeartbeats 8000000 in
theorem spent_law (again : Bool) (w : World) : Calls Try.prog 5 #[.bool again] w fun e w' => e = .returned (.bool true) ∧ Below w.heap.size w w' := by
  have hN := tnew_any 1 w (by omega)
  rw [sp_new] at hN
  have hA := fun W => valive_any W
  cases again
  · go_enter Try.func5, Try.ntmps5
    go_wp2_with fail
    refine hN.mono ?_
    rintro e w1 ⟨rfl, hx1, hb1⟩
    have B1 : Hid (Below w.heap.size w w1) := hb1
    clear hb1 hx1 hN
    go_wp2_with fail
    refine (hA _).mono ?_
    rintro e w2 ⟨rfl, hb2⟩
    go_wp2_with fail
    go_ret
    exact ⟨rfl, Below.onto B1.out hb2⟩
  · go_enter Try.func5, Try.ntmps5
    go_wp2_with fail
    refine hN.mono ?_
    rintro e w1 ⟨rfl, hx1, hb1⟩
    have B1 : Hid (Below w.heap.size w w1) := hb1
    have H1 : Hid (Tx w1 w.heap.size (spT 1)) := hx1
    clear hb1 hx1 hN
    go_wp2_with fail
    go_loopw [5] (fun t wr => ∃ g : Int, 1 ≤ g ∧ g ≤ 65536 ∧ t = .int .i64 g ∧ Hid (Tx wr w.heap.size (spT g)) ∧ Hid (Below w.heap.size w wr)) (fun t _ => 65536 - (intOf t).toNat)
    case atStart => exact ⟨1, by omega, by omega, rfl, H1.out, B1.out⟩
    case round =>
      obtain ⟨g, hg0, hg1, rfl, hx, hbel⟩ := hrel
      by_cases hlt : g ≤ 65535
      · have hM := tmint_any w.heap.size 0 1 (spT g) wr hx.out (by omega) (by omega)
        rw [sp_mtE hlt, sp_mtI hg0 hlt, sp_mtT hlt] at hM
        have hD := fun W hW => tdrop_any w.heap.size (256 + 65536 * g) (spM g) W hW (by omega) (by omega)
        rw [sp_dpE hg0 hlt, sp_dpT hg0 hlt] at hD
        go_wp2_with fail
        refine hM.mono ?_
        rintro e w2 ⟨rfl, hx2, hb2⟩
        have H2 : Hid (Tx w2 w.heap.size (spM g)) := hx2
        have B2 : Hid (Below w.heap.size w w2) := hbel.out.trans (hb2.below hbel.out.size (Nat.le_refl _))
        clear hM hx2 hb2
        go_wp2_with fail
        refine (hD _ H2.out).mono ?_
        rintro e w3 ⟨rfl, hx3, hb3⟩
        have H3 : Hid (Tx w3 w.heap.size (spT (g + 1))) := hx3
        have B3 : Hid (Below w.heap.size w w3) := B2.out.trans (hb3.below B2.out.size (Nat.le_refl _))
        clear hD hx3 hb3
        go_wp2_with fail
        exact ⟨⟨g + 1, by omega, by omega, by go_num, H3.out, B3.out⟩, by simp [intOf]; omega⟩
      · obtain rfl : g = 65536 := by omega
        obtain ⟨z1, z2, z3, z4, z5⟩ := sp_end
        have hM := tmint_any w.heap.size 0 1 (spT 65536) wr hx.out (by omega) (by omega)
        rw [z1, z2, z3] at hM
        have hL := fun W hW => tleft_any w.heap.size (spT 65536) W hW
        rw [show (spT 65536).n = 1 from rfl, z4] at hL
        have hV := fun W hW => tlive_any w.heap.size (spT 65536) W hW
        rw [show (spT 65536).n = 1 from rfl, z5] at hV
        clear z1 z2 z3 z4 z5
        go_wp2_with fail
        refine hM.mono ?_
        rintro e w2 ⟨rfl, hx2, hb2⟩
        have H2 : Hid (Tx w2 w.heap.size (spT 65536)) := hx2
        have B2 : Hid (Below w.heap.size w w2) := hbel.out.trans (hb2.below hbel.out.size (Nat.le_refl _))
        clear hM hx2 hb2
        go_wp2_with fail
        refine (hL _ H2.out).mono ?_
        rintro e w3 ⟨rfl, hb3⟩
        have H3 : Hid (Tx w3 w.heap.size (spT 65536)) := H2.out.below hb3
        have B3 : Hid (Below w.heap.size w w3) := Below.onto B2.out hb3
        clear hL hb3
        go_wp2_with fail
        refine (hV _ H3.out).mono ?_
        rintro e w4 ⟨v, rfl, hv, hb4⟩
        obtain ⟨a, cap, rfl⟩ := vown_form hv
        have B4 : Hid (Below w.heap.size w w4) := Below.onto B3.out hb4
        clear hV hb4 hv
        go_wp2_with fail
        refine (hA _).mono ?_
        rintro e w5 ⟨rfl, hb5⟩
        go_wp2_with fail
        go_ret
        exact ⟨rfl, Below.onto B4.out hb5⟩
end Go.Proofs.Ytimmjhegeagofac
