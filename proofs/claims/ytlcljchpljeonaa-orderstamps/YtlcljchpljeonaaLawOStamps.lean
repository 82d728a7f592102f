/- PROVED: for all stamps the statement OrderStamps returns true: order.Compare and Sorted answer as the document says (P7.3). No condition. -/
import Derived.Test.YtlcljchpljeonaaRows
import Derived.Test.YtlcljchpljeonaaORow
import Derived.Test.YtlcljchpljeonaaOBackM
import Derived.Test.YtlcljchpljeonaaOSame
import Derived.Deep.RegionHeld3
import Derived.Test.YtlcljchpljeonaaORow
import Derived.ProofKit
import Derived.ShutString
import Derived.ChangeOld
import Derived.OpenShut
namespace Go.Proofs.Ytlcljchpljeonaa.orderStamps
open Go.ChangeShapes Go.WideShapes Go.ChangeAt Go.RowKit

theorem own : ownKnob Try.prog.godebug = none := by kernel_rfl
theorem laidOut : laidOutB Try.prog = true := by kernel_rfl

/-- a row of one's own that holds what the document says -/
def OwnV (W : World) (v : Value) (D : List St) : Prop := ∃ b, W.ownsRow b 37 2 v D.length (encS D)
theorem OwnV.below {W W' : World} {v : Value} {D : List St} (h : OwnV W v D) (hb : Below W.heap.size W W') : OwnV W' v D := by
  obtain ⟨b, h⟩ := h
  exact ⟨b, own_stay h hb⟩
set_option maxRecDepth 100000 in
set_option maxHeartbeats 4000000 in
theorem walk_all (a : Option Addr) (m cap : Nat) (z : Nat → St) (t s t' s' : Int) (w : World) (hm : m ≤ 40) (hz : Sts w a m z) :
    Calls Try.prog 5 #[.slice a m cap, stV t s, stV t' s'] w fun e w' => e = .returned (.bool true) ∧ Below w.heap.size w w' := by
  obtain ⟨w2, hw2⟩ : ∃ w2, w2 = (w.alloc (.cells #[.int .i64 t, .int .i64 s] 37)).alloc (.cells #[.int .i64 t', .int .i64 s'] 37) := ⟨_, rfl⟩
  have hT : Two w2 w.heap.size (.int .i64 t) (.int .i64 s) (.int .i64 t') (.int .i64 s') := by rw [hw2]; exact two_new w _ _ _ _ _ _
  have hB : Below w.heap.size w w2 := by rw [hw2]; exact ((Below.refl _ w).alloc (Nat.le_refl _) _).alloc (by simp) _
  obtain ⟨L, hL0⟩ : ∃ L : World → Prop, L = fun W => Two W w.heap.size (.int .i64 t) (.int .i64 s) (.int .i64 t') (.int .i64 s') ∧ Sts W a m z ∧ Below w.heap.size w W := ⟨_, rfl⟩
  have on : ∀ {W W'}, L W → Below W.heap.size W W' → L W' := by subst hL0; exact fun h hb => ⟨h.1.below hb, h.2.1.below hb, Below.onto h.2.2 hb⟩
  have lb : ∀ {W}, L W → Below w.heap.size w W := by subst hL0; exact fun h => h.2.2
  have lz : ∀ {W}, L W → Sts W a m z := by subst hL0; exact fun h => h.2.1
  have hL2 : L w2 := by subst hL0; exact ⟨hT, hz.below hB, hB⟩
  have toS : ∀ W, L W → (W.cell? ⟨w.heap.size, 0, none⟩ = some (.int .i64 t) ∧ W.cell? ⟨w.heap.size, 1, none⟩ = some (.int .i64 s) ∧ W.cell? ⟨w.heap.size + 1, 0, none⟩ = some (.int .i64 t') ∧ W.cell? ⟨w.heap.size + 1, 1, none⟩ = some (.int .i64 s') ∧ L W) := by
    intro W hL
    have h := by rw [hL0] at hL; exact hL.1
    exact ⟨h.1, h.2.1, h.2.2.1, h.2.2.2.1, hL⟩
  have dK : (w2.drew.cell? ⟨w.heap.size, 0, none⟩ = some (.int .i64 t) ∧ w2.drew.cell? ⟨w.heap.size, 1, none⟩ = some (.int .i64 s) ∧ w2.drew.cell? ⟨w.heap.size + 1, 0, none⟩ = some (.int .i64 t') ∧ w2.drew.cell? ⟨w.heap.size + 1, 1, none⟩ = some (.int .i64 s') ∧ L w2.drew) := toS _ (on hL2 (Below.refl _ _).drew)
  have k1 : ∀ W, (W.cell? ⟨w.heap.size, 0, none⟩ = some (.int .i64 t) ∧ W.cell? ⟨w.heap.size, 1, none⟩ = some (.int .i64 s) ∧ W.cell? ⟨w.heap.size + 1, 0, none⟩ = some (.int .i64 t') ∧ W.cell? ⟨w.heap.size + 1, 1, none⟩ = some (.int .i64 s') ∧ L W) → Calls Try.prog 20 #[stV t s, stV t' s'] W fun e w' => e = .returned (.int .i64 (cmpI t s t' s')) ∧ L w' := fun W h => (cmp_any t s t' s' W).mono fun e w' ⟨he, hb⟩ => ⟨he, on h.2.2.2.2 hb⟩
  have k2 : ∀ W, (W.cell? ⟨w.heap.size, 0, none⟩ = some (.int .i64 t) ∧ W.cell? ⟨w.heap.size, 1, none⟩ = some (.int .i64 s) ∧ W.cell? ⟨w.heap.size + 1, 0, none⟩ = some (.int .i64 t') ∧ W.cell? ⟨w.heap.size + 1, 1, none⟩ = some (.int .i64 s') ∧ L W) → Calls Try.prog 21 #[stV t s, stV t' s'] W fun e w' => e = .returned (.int .i64 (cmpI t s t' s')) ∧ L w' := fun W h => (rcmp_any t s t' s' W).mono fun e w' ⟨he, hb⟩ => ⟨he, on h.2.2.2.2 hb⟩
  have k3 : ∀ W, (W.cell? ⟨w.heap.size, 0, none⟩ = some (.int .i64 t) ∧ W.cell? ⟨w.heap.size, 1, none⟩ = some (.int .i64 s) ∧ W.cell? ⟨w.heap.size + 1, 0, none⟩ = some (.int .i64 t') ∧ W.cell? ⟨w.heap.size + 1, 1, none⟩ = some (.int .i64 s') ∧ L W) → Calls Try.prog 23 #[.slice a m cap] W fun e w' => ∃ v, e = .returned v ∧ L w' ∧ OwnV w' v (docTo z m) := fun W h => (sorted_any a m cap z W (by omega) (lz h.2.2.2.2)).mono fun e w' ⟨v, he, ho, hb⟩ => ⟨v, he, on h.2.2.2.2 hb, _, ho⟩
  have k4 : ∀ W v, (W.cell? ⟨w.heap.size, 0, none⟩ = some (.int .i64 t) ∧ W.cell? ⟨w.heap.size, 1, none⟩ = some (.int .i64 s) ∧ W.cell? ⟨w.heap.size + 1, 0, none⟩ = some (.int .i64 t') ∧ W.cell? ⟨w.heap.size + 1, 1, none⟩ = some (.int .i64 s') ∧ L W) → OwnV W v (docTo z m) → Calls Try.prog 24 #[.slice a m cap] W fun e w' => ∃ v', e = .returned v' ∧ L w' ∧ OwnV w' v (docTo z m) ∧ OwnV w' v' (docTo z m) := fun W v h hv => (rsorted_any a m cap z W (by omega) (lz h.2.2.2.2)).mono fun e w' ⟨v', he, ho, hb⟩ => ⟨v', he, on h.2.2.2.2 hb, hv.below hb, _, ho⟩
  have k5 : ∀ W v v', (W.cell? ⟨w.heap.size, 0, none⟩ = some (.int .i64 t) ∧ W.cell? ⟨w.heap.size, 1, none⟩ = some (.int .i64 s) ∧ W.cell? ⟨w.heap.size + 1, 0, none⟩ = some (.int .i64 t') ∧ W.cell? ⟨w.heap.size + 1, 1, none⟩ = some (.int .i64 s') ∧ L W) → OwnV W v (docTo z m) → OwnV W v' (docTo z m) → Calls Try.prog 22 #[v, v'] W fun e w' => e = .returned (.bool true) ∧ L w' := fun W v v' h hv hv' => by
    obtain ⟨_, h1⟩ := hv
    obtain ⟨_, h2⟩ := hv'
    obtain ⟨oa, c1, rfl, s1⟩ := own_sts h1
    obtain ⟨oa', c2, rfl, s2⟩ := own_sts h2
    exact (rsame_any oa oa' _ c1 c2 _ W (by have := docTo_len z m; omega) s1 s2).mono fun e w' ⟨he, hb⟩ => ⟨he, on h.2.2.2.2 hb⟩
  have k6 : ∀ W, (W.cell? ⟨w.heap.size, 0, none⟩ = some (.int .i64 t) ∧ W.cell? ⟨w.heap.size, 1, none⟩ = some (.int .i64 s) ∧ W.cell? ⟨w.heap.size + 1, 0, none⟩ = some (.int .i64 t') ∧ W.cell? ⟨w.heap.size + 1, 1, none⟩ = some (.int .i64 s') ∧ L W) → Calls Try.prog 15 #[] W fun e w' => e = .returned (.bool true) ∧ L w' := fun W h => (oalive_any W).mono fun e w' ⟨he, hb⟩ => ⟨he, on h.2.2.2.2 hb⟩
  clear hT hB hL0 hL2 on lz hz
  generalize docTo z m = D at *
  generalize cmpI t s t' s' = r at *
  go_enter Try.func5, Try.ntmps5
  go_wp2_with fail
  rw [← hw2]
  clear hw2
  go_region_held3 (fun W => (W.cell? ⟨w.heap.size, 0, none⟩ = some (.int .i64 t) ∧ W.cell? ⟨w.heap.size, 1, none⟩ = some (.int .i64 s) ∧ W.cell? ⟨w.heap.size + 1, 0, none⟩ = some (.int .i64 t') ∧ W.cell? ⟨w.heap.size + 1, 1, none⟩ = some (.int .i64 s') ∧ L W)) (first | assumption | exact toS _ (by assumption)) (first
    | (go_at_call 20; refine (k1 _ ?_).mono ?_; assumption; rintro e w' ⟨rfl, hL⟩)
    | (go_at_call 21; refine (k2 _ ?_).mono ?_; assumption; rintro e w' ⟨rfl, hL⟩)
    | (go_at_call 23; refine (k3 _ ?_).mono ?_; assumption; rintro e w' ⟨v1, rfl, hL, R1⟩)
    | (go_at_call 24; refine (k4 _ v1 ?_ R1).mono ?_; assumption; rintro e w' ⟨v2, rfl, hL, R1, R2⟩)
    | (go_at_call 22; refine (k5 _ v1 v2 ?_ R1 R2).mono ?_; assumption; rintro e w' ⟨rfl, hL⟩)
    | (go_at_call 15; refine (k6 _ ?_).mono ?_; assumption; rintro e w' ⟨rfl, hL⟩))
  go_wp2_with fail
  go_ret
  exact ⟨rfl, lb (by assumption)⟩
set_option maxRecDepth 100000 in
set_option maxHeartbeats 4000000 in
theorem walk_cut (b off len cap : Nat) (z : Nat → St) (t s t' s' : Int) (w : World) (hlen : 40 < len) (hcap : len ≤ cap) (hz : Sts w (some ⟨b, off, none⟩) 40 z) :
    Calls Try.prog 5 #[.slice (some ⟨b, off, none⟩) len cap, stV t s, stV t' s'] w fun e w' => e = .returned (.bool true) ∧ Below w.heap.size w w' := by
  obtain ⟨w2, hw2⟩ : ∃ w2, w2 = (w.alloc (.cells #[.int .i64 t, .int .i64 s] 37)).alloc (.cells #[.int .i64 t', .int .i64 s'] 37) := ⟨_, rfl⟩
  have hT : Two w2 w.heap.size (.int .i64 t) (.int .i64 s) (.int .i64 t') (.int .i64 s') := by rw [hw2]; exact two_new w _ _ _ _ _ _
  have hB : Below w.heap.size w w2 := by rw [hw2]; exact ((Below.refl _ w).alloc (Nat.le_refl _) _).alloc (by simp) _
  obtain ⟨L, hL0⟩ : ∃ L : World → Prop, L = fun W => Two W w.heap.size (.int .i64 t) (.int .i64 s) (.int .i64 t') (.int .i64 s') ∧ Sts W (some ⟨b, off, none⟩) 40 z ∧ Below w.heap.size w W := ⟨_, rfl⟩
  have on : ∀ {W W'}, L W → Below W.heap.size W W' → L W' := by subst hL0; exact fun h hb => ⟨h.1.below hb, h.2.1.below hb, Below.onto h.2.2 hb⟩
  have lb : ∀ {W}, L W → Below w.heap.size w W := by subst hL0; exact fun h => h.2.2
  have lz : ∀ {W}, L W → Sts W (some ⟨b, off, none⟩) 40 z := by subst hL0; exact fun h => h.2.1
  have hL2 : L w2 := by subst hL0; exact ⟨hT, hz.below hB, hB⟩
  have toS : ∀ W, L W → (W.cell? ⟨w.heap.size, 0, none⟩ = some (.int .i64 t) ∧ W.cell? ⟨w.heap.size, 1, none⟩ = some (.int .i64 s) ∧ W.cell? ⟨w.heap.size + 1, 0, none⟩ = some (.int .i64 t') ∧ W.cell? ⟨w.heap.size + 1, 1, none⟩ = some (.int .i64 s') ∧ L W) := by
    intro W hL
    have h := by rw [hL0] at hL; exact hL.1
    exact ⟨h.1, h.2.1, h.2.2.1, h.2.2.2.1, hL⟩
  have dK : (w2.drew.cell? ⟨w.heap.size, 0, none⟩ = some (.int .i64 t) ∧ w2.drew.cell? ⟨w.heap.size, 1, none⟩ = some (.int .i64 s) ∧ w2.drew.cell? ⟨w.heap.size + 1, 0, none⟩ = some (.int .i64 t') ∧ w2.drew.cell? ⟨w.heap.size + 1, 1, none⟩ = some (.int .i64 s') ∧ L w2.drew) := toS _ (on hL2 (Below.refl _ _).drew)
  have k1 : ∀ W, (W.cell? ⟨w.heap.size, 0, none⟩ = some (.int .i64 t) ∧ W.cell? ⟨w.heap.size, 1, none⟩ = some (.int .i64 s) ∧ W.cell? ⟨w.heap.size + 1, 0, none⟩ = some (.int .i64 t') ∧ W.cell? ⟨w.heap.size + 1, 1, none⟩ = some (.int .i64 s') ∧ L W) → Calls Try.prog 20 #[stV t s, stV t' s'] W fun e w' => e = .returned (.int .i64 (cmpI t s t' s')) ∧ L w' := fun W h => (cmp_any t s t' s' W).mono fun e w' ⟨he, hb⟩ => ⟨he, on h.2.2.2.2 hb⟩
  have k2 : ∀ W, (W.cell? ⟨w.heap.size, 0, none⟩ = some (.int .i64 t) ∧ W.cell? ⟨w.heap.size, 1, none⟩ = some (.int .i64 s) ∧ W.cell? ⟨w.heap.size + 1, 0, none⟩ = some (.int .i64 t') ∧ W.cell? ⟨w.heap.size + 1, 1, none⟩ = some (.int .i64 s') ∧ L W) → Calls Try.prog 21 #[stV t s, stV t' s'] W fun e w' => e = .returned (.int .i64 (cmpI t s t' s')) ∧ L w' := fun W h => (rcmp_any t s t' s' W).mono fun e w' ⟨he, hb⟩ => ⟨he, on h.2.2.2.2 hb⟩
  have k3 : ∀ W, (W.cell? ⟨w.heap.size, 0, none⟩ = some (.int .i64 t) ∧ W.cell? ⟨w.heap.size, 1, none⟩ = some (.int .i64 s) ∧ W.cell? ⟨w.heap.size + 1, 0, none⟩ = some (.int .i64 t') ∧ W.cell? ⟨w.heap.size + 1, 1, none⟩ = some (.int .i64 s') ∧ L W) → Calls Try.prog 23 #[.slice (some ⟨b, off, none⟩) 40 cap] W fun e w' => ∃ v, e = .returned v ∧ L w' ∧ OwnV w' v (docTo z 40) := fun W h => (sorted_any (some ⟨b, off, none⟩) 40 cap z W (by omega) (lz h.2.2.2.2)).mono fun e w' ⟨v, he, ho, hb⟩ => ⟨v, he, on h.2.2.2.2 hb, _, ho⟩
  have k4 : ∀ W v, (W.cell? ⟨w.heap.size, 0, none⟩ = some (.int .i64 t) ∧ W.cell? ⟨w.heap.size, 1, none⟩ = some (.int .i64 s) ∧ W.cell? ⟨w.heap.size + 1, 0, none⟩ = some (.int .i64 t') ∧ W.cell? ⟨w.heap.size + 1, 1, none⟩ = some (.int .i64 s') ∧ L W) → OwnV W v (docTo z 40) → Calls Try.prog 24 #[.slice (some ⟨b, off, none⟩) 40 cap] W fun e w' => ∃ v', e = .returned v' ∧ L w' ∧ OwnV w' v (docTo z 40) ∧ OwnV w' v' (docTo z 40) := fun W v h hv => (rsorted_any (some ⟨b, off, none⟩) 40 cap z W (by omega) (lz h.2.2.2.2)).mono fun e w' ⟨v', he, ho, hb⟩ => ⟨v', he, on h.2.2.2.2 hb, hv.below hb, _, ho⟩
  have k5 : ∀ W v v', (W.cell? ⟨w.heap.size, 0, none⟩ = some (.int .i64 t) ∧ W.cell? ⟨w.heap.size, 1, none⟩ = some (.int .i64 s) ∧ W.cell? ⟨w.heap.size + 1, 0, none⟩ = some (.int .i64 t') ∧ W.cell? ⟨w.heap.size + 1, 1, none⟩ = some (.int .i64 s') ∧ L W) → OwnV W v (docTo z 40) → OwnV W v' (docTo z 40) → Calls Try.prog 22 #[v, v'] W fun e w' => e = .returned (.bool true) ∧ L w' := fun W v v' h hv hv' => by
    obtain ⟨_, h1⟩ := hv
    obtain ⟨_, h2⟩ := hv'
    obtain ⟨oa, c1, rfl, s1⟩ := own_sts h1
    obtain ⟨oa', c2, rfl, s2⟩ := own_sts h2
    exact (rsame_any oa oa' _ c1 c2 _ W (by have := docTo_len z 40; omega) s1 s2).mono fun e w' ⟨he, hb⟩ => ⟨he, on h.2.2.2.2 hb⟩
  have k6 : ∀ W, (W.cell? ⟨w.heap.size, 0, none⟩ = some (.int .i64 t) ∧ W.cell? ⟨w.heap.size, 1, none⟩ = some (.int .i64 s) ∧ W.cell? ⟨w.heap.size + 1, 0, none⟩ = some (.int .i64 t') ∧ W.cell? ⟨w.heap.size + 1, 1, none⟩ = some (.int .i64 s') ∧ L W) → Calls Try.prog 15 #[] W fun e w' => e = .returned (.bool true) ∧ L w' := fun W h => (oalive_any W).mono fun e w' ⟨he, hb⟩ => ⟨he, on h.2.2.2.2 hb⟩
  clear hT hB hL0 hL2 on lz hz
  generalize docTo z 40 = D at *
  generalize cmpI t s t' s' = r at *
  go_enter Try.func5, Try.ntmps5
  go_wp2_with fail
  rw [← hw2]
  clear hw2
  go_region_held3 (fun W => (W.cell? ⟨w.heap.size, 0, none⟩ = some (.int .i64 t) ∧ W.cell? ⟨w.heap.size, 1, none⟩ = some (.int .i64 s) ∧ W.cell? ⟨w.heap.size + 1, 0, none⟩ = some (.int .i64 t') ∧ W.cell? ⟨w.heap.size + 1, 1, none⟩ = some (.int .i64 s') ∧ L W)) (first | assumption | exact toS _ (by assumption)) (first
    | (go_at_call 20; refine (k1 _ ?_).mono ?_; assumption; rintro e w' ⟨rfl, hL⟩)
    | (go_at_call 21; refine (k2 _ ?_).mono ?_; assumption; rintro e w' ⟨rfl, hL⟩)
    | (go_at_call 23; refine (k3 _ ?_).mono ?_; assumption; rintro e w' ⟨v1, rfl, hL, R1⟩)
    | (go_at_call 24; refine (k4 _ v1 ?_ R1).mono ?_; assumption; rintro e w' ⟨v2, rfl, hL, R1, R2⟩)
    | (go_at_call 22; refine (k5 _ v1 v2 ?_ R1 R2).mono ?_; assumption; rintro e w' ⟨rfl, hL⟩)
    | (go_at_call 15; refine (k6 _ ?_).mono ?_; assumption; rintro e w' ⟨rfl, hL⟩))
  go_wp2_with fail
  go_ret
  exact ⟨rfl, lb (by assumption)⟩
set_option maxRecDepth 100000 in
set_option maxHeartbeats 4000000 in
theorem walk {W : World} (a : Option Addr) (len cap : Nat) (z : Nat → St) (h : StRow W a len cap z) (t s t' s' : Int) :
    Calls Try.prog 5 #[.slice a len cap, stV t s, stV t' s'] W fun e w' => e = .returned (.bool true) ∧ Below W.heap.size W w' := by
  obtain ⟨hz, hlc, _, _⟩ := h
  by_cases hl : len ≤ 40
  · exact walk_all a len cap z t s t' s' W hl hz
  · obtain ⟨b, off, rfl, _, _⟩ := hz 0 (by omega)
    exact walk_cut b off len cap z t s t' s' W (by omega) hlc (hz.less (by omega))

set_option maxRecDepth 100000 in
theorem lifted (os : Os) (started : os.Started) (H : Type) (enc : TypeId × Value → H) :
    ReturnsInHanded {} Try.checked os 5 .any (Rows.orderStampsSpec.pre6 enc Try.prog Try.f5 Rows.orderStampsRow.domain false) (Rows.orderStampsSpec.post enc Try.prog Try.f5 false true false false) := by
  refine returnsInHanded_of_change (C := Try.checked) own started (by kernel_rfl) Try.func5
    (ChangeSpec.witness6 (enc := enc) (C := Try.checked) false ⟨#[], #[.slice none 0 0, .agg #[.int .i64 0, .int .i64 0], .agg #[.int .i64 0, .int .i64 0]], []⟩ 8 (by kernel_rfl) (by kernel_rfl) (by kernel_rfl) (by kernel_rfl)) ?_
  intro W base args ds gs before hval0 hW hcnd _
  have hval : ∀ (j : Nat) t v, Try.f5.params[j]? = some t → args[j]? = some v → Value.okWide Try.prog W .any base t v := hval0
  have hW' := hW
  obtain ⟨p, q, hA0, hV, rfl, hfz, hnd⟩ := hW
  have hA : DataW.TrodAll enc Try.prog W 0 (fun _ => true) true Try.f5.params.toList args.toList ds p := hA0
  rw [Try.params5] at hA hval
  obtain ⟨v0, vs0, d0, ds0, p0, q0, hargs, rfl, rfl, h0, r0⟩ := trodAll_cons hA
  obtain ⟨v1, vs1, d1, ds1, p1, q1, rfl, rfl, rfl, h1, r1⟩ := trodAll_cons r0
  obtain ⟨v2, vs2, d2, ds2, p2, q2, rfl, rfl, rfl, h2, r2⟩ := trodAll_cons r1
  obtain ⟨rfl, rfl, rfl⟩ := trodAll_nil r2
  obtain rfl : args = #[v0, v1, v2] := by cases args; simp_all
  obtain ⟨rfl, rfl⟩ := trodVars_none hV
  have k0 := h0
  have lt0 : ∀ x ∈ p0, x.block < W.heap.size := by obtain ⟨m, hm⟩ := k0; exact DataW.trod_lt m _ _ _ hm
  obtain ⟨a, len, cap, z, rfl, w0⟩ := open_sts (hval 0 35 v0 rfl rfl) h0
  have k1 := h1
  have lt1 : ∀ x ∈ p1, x.block < W.heap.size := by obtain ⟨m, hm⟩ := k1; exact DataW.trod_lt m _ _ _ hm
  obtain ⟨t, s, rfl, w1⟩ := open_st (hval 1 37 v1 rfl rfl) h1
  have k2 := h2
  have lt2 : ∀ x ∈ p2, x.block < W.heap.size := by obtain ⟨m, hm⟩ := k2; exact DataW.trod_lt m _ _ _ hm
  obtain ⟨t', s', rfl, w2⟩ := open_st (hval 2 37 v2 rfl rfl) h2
  clear hA0 hval0
  refine (walk a len cap z w0 t s t' s').mono fun e W' ⟨he, bel⟩ => ?_
  subst he
  exact ⟨_, rfl, _, _, _, [], _, [], hW', trodAll_mk1 (shut_bool Try.underlying4 _), (trodAll_cons_mk (Below.trod laidOut (by kernel_rfl) (of_decide_eq_true (by kernel_rfl)) k0 bel lt0) (trodAll_cons_mk (Below.trod laidOut (by kernel_rfl) (of_decide_eq_true (by kernel_rfl)) k1 bel lt1) (trodAll_cons_mk (Below.trod laidOut (by kernel_rfl) (of_decide_eq_true (by kernel_rfl)) k2 bel lt2) trodAll_mk0))), rfl, bel.frame _, fun h => by cases h⟩

end Go.Proofs.Ytlcljchpljeonaa.orderStamps
namespace Go.Proofs.Ytlcljchpljeonaa

/-- The statement OrderStamps. -/
theorem OrderStampsHolds : Rows.OrderStampsSaid :=
  OpenClaim.holds_of_wide 5 Try.f5 rfl rfl rfl rfl rfl rfl rfl ⟨rfl, rfl, rfl, rfl, rfl⟩ rfl rfl rfl rfl rfl (by kernel_rfl) Try.func5 (by kernel_rfl)
    (of_decide_eq_true (by kernel_rfl)) (by unfold Func.isWrapper; first | (rw [if_pos (by decide +kernel)]; kernel_rfl) | (rw [if_neg (by decide +kernel)]; exact ⟨rfl, rfl⟩))
    (fun os started H enc _ => orderStamps.lifted os started H enc)

end Go.Proofs.Ytlcljchpljeonaa
