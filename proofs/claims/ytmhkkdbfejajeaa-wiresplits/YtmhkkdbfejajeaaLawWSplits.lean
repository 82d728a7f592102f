/- PROVED: for every b and most the statement WireSplits returns true: wire.Split answers the pieces as the document says, and they are the beginning of b (P3.2, P3.7). No condition (the statement looks at the first 400 bytes). -/
import Derived.Test.YtmhkkdbfejajeaaRows
import Derived.Test.YtmhkkdbfejajeaaWUn
import Derived.Test.YtmhkkdbfejajeaaWSplN
import Derived.Test.YtmhkkdbfejajeaaWSplR
import Derived.Test.YtmhkkdbfejajeaaWSame
import Derived.Test.YtmhkkdbfejajeaaWRow
import Derived.ProofKit
import Derived.ShutString
import Derived.ChangeOld
import Derived.OpenShut
namespace Go.Proofs.Ytmhkkdbfejajeaa.wireSplits
open Go.ChangeShapes Go.WideShapes Go.ChangeAt Go.RowKit

theorem own : ownKnob Try.prog.godebug = none := by kernel_rfl
theorem laidOut : laidOutB Try.prog = true := by kernel_rfl

theorem enc_next {n k : Nat} (z : Nat → Int) (h : 16 * k < n) : encB (min (16 * k) n) z ++ encB (ln n k) (fun j => z (16 * k + j)) = encB (min (16 * (k + 1)) n) z := by
  rw [encB_append, show min (16 * k) n + ln n k = min (16 * (k + 1)) n by unfold ln; omega]
  refine encB_congr fun j hj => ?_
  by_cases hk : j < min (16 * k) n
  · rw [if_pos hk]
  · rw [if_neg hk, show 16 * k + (j - min (16 * k) n) = j by omega]
/-- what is kept through the statement's last line -/
def K2 (w : World) (s1 s2 : Option Addr) (n : Nat) (z : Nat → Int) (W : World) : Prop := Cells W .u8 s1 n z ∧ Cells W .u8 s2 n z ∧ Below w.heap.size w W
theorem K2.on {w W W' : World} {s1 s2 : Option Addr} {n : Nat} {z : Nat → Int} (hK : K2 w s1 s2 n z W) (hb : Below W.heap.size W W') : K2 w s1 s2 n z W' :=
  ⟨hK.1.below hb, hK.2.1.below hb, Below.onto hK.2.2 hb⟩
set_option maxRecDepth 100000 in
set_option maxHeartbeats 4000000 in
theorem walk (a : Option Addr) (len cap : Nat) (z : Nat → Int) (m : Int) (w : World) (hr : ByRow w a len cap z) :
    Calls Try.prog 5 #[.slice a len cap, .int .i64 m] w fun e w' => e = .returned (.bool true) ∧ Below w.heap.size w w' := by
  obtain ⟨j0, hj, hy0, hy1, hy2⟩ := info_parts Try.infoU8
  have c0 := wcut_any a len cap w hr.2.2.1 hr.2.2.2.1
  have HR : Hid (ByRow w a (min len 400) cap z) := hr.cut _ (by omega)
  have hn : min len 400 ≤ 400 := by omega
  clear hr
  generalize min len 400 = n at *
  have hq : cnt n m = min m.toNat ((n + 15) / 16) := rfl
  have HF : Hid ((∀ k, k < cnt n m → 16 * k < n) ∧ (30 ≤ m → min (16 * cnt n m) n = n)) := ⟨fun k hk => by omega, fun h => by omega⟩
  have hN : cnt n m ≤ 25 := by omega
  have c1 := fun W (h : ByRow W a n cap z) => split_any a n cap m z W hn h.2.2.1 h.2.1 h.1
  have c2 := fun W (h : ByRow W a n cap z) => rsplit_any a n cap m z W hn h.2.2.1 h.1
  have c3 := fun v1 v2 W => same_pieces v1 v2 (cnt n m) n z W (by omega)
  clear hq
  generalize cnt n m = N at *
  go_enter Try.func5, Try.ntmps5
  go_wp2_with fail
  refine c0.mono ?_
  rintro e w0 ⟨rfl, e0⟩
  subst e0
  clear c0
  go_wp2_with fail
  refine (c1 _ HR.out).mono ?_
  rintro e w1 ⟨v1, rfl, hp1, h1⟩
  obtain ⟨a1, k1, rfl, hp1⟩ := hp1
  have P1 : Hid (PRow w1 (.slice a1 N k1) N n z) := ⟨a1, k1, rfl, hp1⟩
  clear hp1 c1
  go_wp2_with fail
  refine (c2 _ (HR.out.below h1)).mono ?_
  rintro e w2 ⟨v2, rfl, hp2, h2⟩
  obtain ⟨a2, k2, rfl, hp2⟩ := hp2
  have B2 := Below.onto h1 h2
  have P2 : Hid (PRow w2 (.slice a2 N k2) N n z ∧ PRow w2 (.slice a1 N k1) N n z) := ⟨⟨a2, k2, rfl, hp2⟩, P1.out.below h2⟩
  clear hp2 c2 P1 h1 h2
  go_wp2_with fail
  refine (c3 _ _ _ P2.out.2 P2.out.1).mono ?_
  rintro e w3 ⟨rfl, h3⟩
  have B3 := Below.onto B2 h3
  have P3 : Hid (PRow w3 (.slice a1 N k1) N n z) := P2.out.2.below h3
  clear P2 c3 h3 B2
  go_wp2_with fail
  go_loopw [6, 7] (fun v i wr => ∃ k : Nat, k ≤ N ∧ i = .int .i64 k ∧ (∃ va vc, v = .slice va (min (16 * k) n) vc ∧ Hid (wr.ownsRow w3.heap.size 5 1 v (min (16 * k) n) (encB (min (16 * k) n) z))) ∧ Below w3.heap.size w3 wr) (fun _ i _ => N - (intOf i).toNat)
  case atStart => exact ⟨0, by omega, rfl, ⟨none, 0, by simp, by rw [Nat.mul_zero, Nat.zero_min]; exact World.ownsRow_nil _ _ _ _⟩, Below.refl _ _⟩
  case round =>
    obtain ⟨k, hk, rfl, ⟨va, vc, rfl, hO⟩, hbel⟩ := hrel
    by_cases hlt : k < N
    · have hkn := HF.out.1 k hlt
      obtain ⟨_, _, e1, hp⟩ := P3.out.below hbel
      cases e1
      obtain ⟨b1, o1, p1, q1, d1, rfl, x1, z1⟩ := hp k hlt
      have hn1 := news_of_cells z1
      have hnx := enc_next z hkn
      have l1 : ln n k ≤ 16 := by unfold ln; omega
      have l2 : min (16 * k) n ≤ 400 := by omega
      have HE : Hid (encB (min (16 * k) n) z ++ encB (ln n k) (fun j => z (16 * k + j)) = encB (min (16 * (k + 1)) n) z ∧ min (16 * k) n + ln n k = min (16 * (k + 1)) n) := ⟨hnx, by unfold ln; omega⟩
      have hO1 := hO.out
      have sb := hbel.size
      have kI : (k : Int) < (N : Int) := by omega
      clear hp z1 hnx hkn hO
      generalize min (16 * k) n = s at *
      generalize ln n k = l at *
      generalize (fun j => z (16 * k + j)) = zk at *
      go_wp2_with (at_builtin; refine wpList_append_own _ rfl _ _ 27 rfl w3.heap.size 5 j0 (.int .u8 0) 1 1 Try.underlying27 hj hy0 hy1 hy2 rfl (by decide) _ _ _ rfl hO1 ⟨p1, q1, none⟩ l _ (encB l zk) rfl (by rw [encB_length]; omega) hn1 (encB_one _ _) (by unfold maxLen; omega) (by omega) sb ?_; intro v' w5 hown5 hgrow5 _)
      rw [HE.out.1, HE.out.2] at hown5
      obtain ⟨va', vc', rfl⟩ := own_any hown5
      have hle := own_ge hO1
      go_roundw
      case rel => exact ⟨k + 1, by omega, by go_num, ⟨va', vc', rfl, hown5⟩, hbel.grown hgrow5 sb hle⟩
      case measure => simp [intOf]; omega
    · obtain rfl : k = N := by omega
      obtain ⟨_, _, e1, hcl, _⟩ := cells_of_own hO.out (encB_at _ z)
      cases e1
      have hva := own_room hO.out
      have B4 := Below.onto B3 hbel
      have hR4 := HR.out.below B4
      obtain ⟨s, hs⟩ : ∃ s, s = min (16 * k) n := ⟨_, rfl⟩
      rw [← hs] at hcl hva ⊢
      have hsn : s ≤ n := by omega
      have hK : K2 w0 va a s z wr := ⟨hcl, hR4.1.mono hsn, B4⟩
      have v1 : ∀ W, K2 w0 va a s z W → (convert 27 9 (.slice va s vc)).run Try.prog W = .ok (.string (strZ s z)) W := fun W h => conv_cells h.1 (fun e => (hva.2 e).1) 9 Try.underlying9
      have v2 : ∀ W, K2 w0 va a s z W → (convert 27 9 (.slice a s cap)).run Try.prog W = .ok (.string (strZ s z)) W := fun W h => conv_cells h.2.1 (fun e => by have := (hR4.2.1 e).1; omega) 9 Try.underlying9
      have hcap : (s : Int) ≤ (cap : Int) := by have := hR4.2.2.1; omega
      have hsI : (s : Int) ≤ (n : Int) := by omega
      have HM : Hid (30 ≤ m → s = n) := fun h => by rw [hs]; exact HF.out.2 h
      clear hs hcl hva hR4 hO B4 hlt
      generalize strZ s z = t at *
      generalize hKK : K2 w0 va a s z = L at *
      have on : ∀ {W W'}, L W → Below W.heap.size W W' → L W' := by subst hKK; exact fun h hb => K2.on h hb
      have lb : ∀ {W}, L W → Below w0.heap.size w0 W := by subst hKK; exact fun h => h.2.2
      have toS : ∀ W, L W → (convert 27 9 (.slice va s vc)).run Try.prog W = .ok (.string t) W ∧ (convert 27 9 (.slice a s cap)).run Try.prog W = .ok (.string t) W ∧ L W := fun W h => ⟨v1 W h, v2 W h, h⟩
      have dK := toS _ (on hK (Below.refl _ _).drew)
      have ca : ∀ W, ((convert 27 9 (.slice va s vc)).run Try.prog W = .ok (.string t) W ∧ (convert 27 9 (.slice a s cap)).run Try.prog W = .ok (.string t) W ∧ L W) → Calls Try.prog 13 #[] W fun e w' => e = .returned (.bool true) ∧ L w' := fun W h => (walive_any W).mono fun e w' ⟨he, hb⟩ => ⟨he, on h.2.2 hb⟩
      clear v1 v2 hKK hK
      by_cases hm : m < 30
      · have hd : decide (m < 30) = true := by simpa using hm
        go_wp2_with fail
        refine wp_region_noPanic ?_
        refine wp_region_held_drew (S := fun W => (convert 27 9 (.slice va s vc)).run Try.prog W = .ok (.string t) W ∧ (convert 27 9 (.slice a s cap)).run Try.prog W = .ok (.string t) W ∧ L W) (by kernel_rfl) ?_ (fun hHeld => ?_)
        · exact dK
        clear dK
        refine wpAnyH_take (i := 0) (oi := ⟨some 31, _, _, _, _, _⟩) (v := ?_) rfl (by kernel_rfl) (by kernel_rfl) (by kernel_rfl) (fun _ _ _ h => h) (Or.inl ⟨by rfl, ?_⟩) (by assumption) ?_
        rotate_left 1
        · (intro w hSw; go_simp; try with_reducible rfl)
        simp only [Act.put, List.setIfInBounds_toArray, List.set_cons_zero, List.set_cons_succ]
        refine wpAnyH_take (i := 1) (oi := ⟨some 32, _, _, _, _, _⟩) (v := ?_) rfl (by kernel_rfl) (by kernel_rfl) (by kernel_rfl) (fun _ _ _ h => h) (Or.inl ⟨by rfl, ?_⟩) (by assumption) ?_
        rotate_left 1
        · (intro w hSw; go_simp; try with_reducible rfl)
        simp only [Act.put, List.setIfInBounds_toArray, List.set_cons_zero, List.set_cons_succ]
        refine wpAnyH_take (i := 2) (oi := ⟨some 33, _, _, _, _, _⟩) (v := ?_) rfl (by kernel_rfl) (by kernel_rfl) (by kernel_rfl) (fun _ _ _ h => h) (Or.inl ⟨by rfl, ?_⟩) (by assumption) ?_
        rotate_left 1
        · (intro w hSw; go_simp; try with_reducible rfl)
        simp only [Act.put, List.setIfInBounds_toArray, List.set_cons_zero, List.set_cons_succ]
        refine wpAnyH_take (i := 3) (oi := ⟨some 34, _, _, _, _, _⟩) (v := ?_) rfl (by kernel_rfl) (by kernel_rfl) (by kernel_rfl) (fun _ _ _ h => h) (Or.inl ⟨by rfl, ?_⟩) (by assumption) ?_
        rotate_left 1
        · (intro w hSw; go_simp; try with_reducible rfl)
        simp only [Act.put, List.setIfInBounds_toArray, List.set_cons_zero, List.set_cons_succ]
        refine wpAnyH_take (i := 4) (oi := ⟨some 35, _, _, _, _, _⟩) (v := ?_) rfl (by kernel_rfl) (by kernel_rfl) (by kernel_rfl) (fun _ _ _ h => h) (Or.inl ⟨by rfl, ?_⟩) (by assumption) ?_
        rotate_left 1
        · (intro w hSw; go_simp; try with_reducible rfl)
        simp only [Act.put, List.setIfInBounds_toArray, List.set_cons_zero, List.set_cons_succ]
        refine wpAnyH_take (i := 5) (oi := ⟨some 36, _, _, _, _, _⟩) (v := ?_) rfl (by kernel_rfl) (by kernel_rfl) (by kernel_rfl) (fun _ _ _ h => h) (Or.inl ⟨by rfl, ?_⟩) (by assumption) ?_
        rotate_left 1
        · (intro w hSw; go_simp; try with_reducible rfl)
        simp only [Act.put, List.setIfInBounds_toArray, List.set_cons_zero, List.set_cons_succ]
        refine wpAnyH_take (i := 6) (oi := ⟨some 37, _, _, _, _, _⟩) (v := ?_) rfl (by kernel_rfl) (by kernel_rfl) (by kernel_rfl) (fun _ _ _ h => h) (Or.inl ⟨by rfl, ?_⟩) (by assumption) ?_
        rotate_left 1
        · (intro w hSw; go_simp; try with_reducible rfl)
        simp only [Act.put, List.setIfInBounds_toArray, List.set_cons_zero, List.set_cons_succ]
        refine wpAnyH_take (i := 7) (oi := ⟨some 38, _, _, _, _, _⟩) (v := ?_) rfl (by kernel_rfl) (by kernel_rfl) (by kernel_rfl) (fun _ _ _ h => h) (Or.inl ⟨by rfl, ?_⟩) (by assumption) ?_
        rotate_left 1
        · (intro w hSw; go_simp; try with_reducible rfl)
        simp only [Act.put, List.setIfInBounds_toArray, List.set_cons_zero, List.set_cons_succ]
        refine wpAnyH_take (i := 8) (oi := ⟨some 39, _, _, _, _, _⟩) (v := ?_) rfl (by kernel_rfl) (by kernel_rfl) (by kernel_rfl) (fun _ _ _ h => h) (Or.inl ⟨by rfl, ?_⟩) (by assumption) ?_
        rotate_left 1
        · (intro w hSw; go_simp; try with_reducible rfl)
        simp only [Act.put, List.setIfInBounds_toArray, List.set_cons_zero, List.set_cons_succ]
        refine wpAnyH_take (i := 9) (oi := ⟨some 40, _, _, _, _, _⟩) (v := ?_) rfl (by kernel_rfl) (by kernel_rfl) (by kernel_rfl) (fun _ _ _ h => h) (Or.inl ⟨by rfl, ?_⟩) (by assumption) ?_
        rotate_left 1
        · (intro w hSw; go_simp; try with_reducible rfl)
        simp only [Act.put, List.setIfInBounds_toArray, List.set_cons_zero, List.set_cons_succ]
        refine wpAnyH_take (i := 10) (oi := ⟨some 41, _, _, _, _, _⟩) (v := ?_) rfl (by kernel_rfl) (by kernel_rfl) (by kernel_rfl) (fun _ _ _ h => h) (Or.inl ⟨by rfl, ?_⟩) (by assumption) ?_
        rotate_left 1
        · (intro w hSw; go_simp; try with_reducible rfl)
        simp only [Act.put, List.setIfInBounds_toArray, List.set_cons_zero, List.set_cons_succ]
        refine wpAnyH_take (i := 11) (oi := ⟨some 42, _, _, _, _, _⟩) (v := ?_) rfl (by kernel_rfl) (by kernel_rfl) (by kernel_rfl) (fun _ _ _ h => h) (Or.inl ⟨by rfl, ?_⟩) (by assumption) ?_
        rotate_left 1
        · (intro w hSw; go_simp; try with_reducible rfl)
        simp only [Act.put, List.setIfInBounds_toArray, List.set_cons_zero, List.set_cons_succ]
        refine wpAnyH_take (i := 12) (oi := ⟨some 43, _, _, _, _, _⟩) (v := ?_) rfl (by kernel_rfl) (by kernel_rfl) (by kernel_rfl) (fun _ _ _ h => h) (Or.inl ⟨by rfl, ?_⟩) (by assumption) ?_
        rotate_left 1
        · (intro w hSw; go_simp; try with_reducible rfl)
        simp only [Act.put, List.setIfInBounds_toArray, List.set_cons_zero, List.set_cons_succ]
        refine wpAnyH_take (i := 13) (oi := ⟨some 44, _, _, _, _, _⟩) (v := ?_) rfl (by kernel_rfl) (by kernel_rfl) (by kernel_rfl) (fun _ _ _ h => h) (Or.inl ⟨by rfl, ?_⟩) (by assumption) ?_
        rotate_left 1
        · (intro w hSw; go_simp; try with_reducible rfl)
        simp only [Act.put, List.setIfInBounds_toArray, List.set_cons_zero, List.set_cons_succ]
        refine wpAnyH_take (i := 14) (oi := ⟨some 45, _, _, _, _, _⟩) (v := ?_) rfl (by kernel_rfl) (by kernel_rfl) (by kernel_rfl) (fun _ _ _ h => h) (Or.inl ⟨by rfl, ?_⟩) (by assumption) ?_
        rotate_left 1
        · (intro w hSw; go_simp; try with_reducible rfl)
        simp only [Act.put, List.setIfInBounds_toArray, List.set_cons_zero, List.set_cons_succ]
        refine wpAnyH_take (i := 15) (oi := ⟨some 46, _, _, _, _, _⟩) (v := ?_) rfl (by kernel_rfl) (by kernel_rfl) (by kernel_rfl) (fun _ _ _ h => h) (Or.inl ⟨by rfl, ?_⟩) (by assumption) ?_
        rotate_left 1
        · (intro w hSw; go_simp; try with_reducible rfl)
        simp only [Act.put, List.setIfInBounds_toArray, List.set_cons_zero, List.set_cons_succ]
        refine wpAnyH_take (i := 16) (oi := ⟨some 47, _, _, _, _, _⟩) (v := ?_) rfl (by kernel_rfl) (by kernel_rfl) (by kernel_rfl) (fun _ _ _ h => h) (Or.inl ⟨by rfl, ?_⟩) (by assumption) ?_
        rotate_left 1
        · (intro w hSw; go_simp; try with_reducible rfl)
        simp only [Act.put, List.setIfInBounds_toArray, List.set_cons_zero, List.set_cons_succ]
        refine wpAnyH_take (i := 17) (oi := ⟨some 48, _, _, _, _, _⟩) (v := ?_) rfl (by kernel_rfl) (by kernel_rfl) (by kernel_rfl) (fun _ _ _ h => h) (Or.inl ⟨by rfl, ?_⟩) (by assumption) ?_
        rotate_left 1
        · (intro w hSw; go_simp; try with_reducible rfl)
        simp only [Act.put, List.setIfInBounds_toArray, List.set_cons_zero, List.set_cons_succ]
        refine wpAnyH_take (i := 18) (oi := ⟨some 49, _, _, _, _, _⟩) (v := ?_) rfl (by kernel_rfl) (by kernel_rfl) (by kernel_rfl) (fun _ _ _ h => h) (Or.inl ⟨by rfl, ?_⟩) (by assumption) ?_
        rotate_left 1
        · (intro w hSw; go_simp; try with_reducible rfl)
        simp only [Act.put, List.setIfInBounds_toArray, List.set_cons_zero, List.set_cons_succ]
        refine wpAnyH_take (i := 19) (oi := ⟨some 50, _, _, _, _, _⟩) (v := undef) rfl (by kernel_rfl) (by kernel_rfl) (by kernel_rfl) (fun _ _ _ h => h) (Or.inr ⟨by rfl, rfl⟩) (by assumption) ?_
        simp only [Act.put, List.setIfInBounds_toArray, List.set_cons_zero, List.set_cons_succ]
        refine wpAnyH_take (i := 20) (oi := ⟨some 51, _, _, _, _, _⟩) (v := undef) rfl (by kernel_rfl) (by kernel_rfl) (by kernel_rfl) (fun _ _ _ h => h) (Or.inr ⟨by rfl, rfl⟩) (by assumption) ?_
        simp only [Act.put, List.setIfInBounds_toArray, List.set_cons_zero, List.set_cons_succ]
        refine wpAnyH_take (i := 21) (oi := ⟨some 52, _, _, _, _, _⟩) (v := undef) rfl (by kernel_rfl) (by kernel_rfl) (by kernel_rfl) (fun _ _ _ h => h) (Or.inr ⟨by rfl, rfl⟩) (by assumption) ?_
        simp only [Act.put, List.setIfInBounds_toArray, List.set_cons_zero, List.set_cons_succ]
        refine wpAnyH_take (i := 22) (oi := ⟨some 53, _, _, _, _, _⟩) (v := undef) rfl (by kernel_rfl) (by kernel_rfl) (by kernel_rfl) (fun _ _ _ h => h) (Or.inr ⟨by rfl, rfl⟩) (by assumption) ?_
        simp only [Act.put, List.setIfInBounds_toArray, List.set_cons_zero, List.set_cons_succ]
        refine wpAnyH_take (i := 23) (oi := ⟨some 54, _, _, _, _, _⟩) (v := undef) rfl (by kernel_rfl) (by kernel_rfl) (by kernel_rfl) (fun _ _ _ h => h) (Or.inr ⟨by rfl, rfl⟩) (by assumption) ?_
        simp only [Act.put, List.setIfInBounds_toArray, List.set_cons_zero, List.set_cons_succ]
        refine wpAnyH_take (i := 24) (oi := ⟨some 55, _, _, _, _, _⟩) (v := ?_) rfl (by kernel_rfl) (by kernel_rfl) (by kernel_rfl) (fun _ _ _ h => h) (Or.inl ⟨by rfl, ?_⟩) (by assumption) ?_
        rotate_left 1
        · (intro w hSw; go_simp; try with_reducible rfl)
        simp only [Act.put, List.setIfInBounds_toArray, List.set_cons_zero, List.set_cons_succ]
        refine wpAnyH_take (i := 25) (oi := ⟨some 56, _, _, _, _, _⟩) (v := ?_) rfl (by kernel_rfl) (by kernel_rfl) (by kernel_rfl) (fun _ _ _ h => h) (Or.inl ⟨by rfl, ?_⟩) (by assumption) ?_
        rotate_left 1
        · (intro w hSw; go_simp; try with_reducible rfl)
        simp only [Act.put, List.setIfInBounds_toArray, List.set_cons_zero, List.set_cons_succ]
        refine wpAnyH_take (i := 26) (oi := ⟨some 57, _, _, _, _, _⟩) (v := ?_) rfl (by kernel_rfl) (by kernel_rfl) (by kernel_rfl) (fun _ _ _ h => h) (Or.inl ⟨by rfl, ?_⟩) (by assumption) ?_
        rotate_left 1
        · (intro w hSw; go_simp; try with_reducible rfl)
        simp only [Act.put, List.setIfInBounds_toArray, List.set_cons_zero, List.set_cons_succ]
        refine wpAnyH_ready (rs := [27]) (by kernel_rfl) (by simp) ?_
        refine AllReadyH.cons (o := ⟨some 58, _, _, _, _, _⟩) rfl (fun K hK => ?_) AllReadyH.nil
        rw [if_pos (by rfl)]
        go_simp
        refine (ca _ (by assumption)).mono ?_
        rintro e w9 ⟨rfl, hL⟩
        refine hK.out _ _ (toS _ hL) (fun hHeld => ?_)
        clear hK K
        refine wpAnyH_take (i := 28) (oi := ⟨some 59, _, _, _, _, _⟩) (v := ?_) rfl (by kernel_rfl) (by kernel_rfl) (by kernel_rfl) (fun _ _ _ h => h) (Or.inl ⟨by rfl, ?_⟩) (by assumption) ?_
        rotate_left 1
        · (intro w hSw; go_simp; try with_reducible rfl)
        simp only [Act.put, List.setIfInBounds_toArray, List.set_cons_zero, List.set_cons_succ]
        refine wpAnyH_take (i := 29) (oi := ⟨some 4, _, _, _, _, _⟩) (v := ?_) rfl (by kernel_rfl) (by kernel_rfl) (by kernel_rfl) (fun _ _ _ h => h) (Or.inl ⟨by rfl, ?_⟩) (by assumption) ?_
        rotate_left 1
        · (intro w hSw; go_simp; try with_reducible rfl)
        simp only [Act.put, List.setIfInBounds_toArray, List.set_cons_zero, List.set_cons_succ]
        refine wpAnyH_done (by kernel_rfl) ?_ _
        refine NoPanic.normal ?_
        go_wp2_with fail
        go_ret
        exact ⟨rfl, lb (by assumption)⟩
      · have hd : decide (m < 30) = false := by simpa using hm
        obtain rfl : s = n := HM.out (by omega)
        go_wp2_with fail
        go_region_held3 (fun W => (convert 27 9 (.slice va s vc)).run Try.prog W = .ok (.string t) W ∧ (convert 27 9 (.slice a s cap)).run Try.prog W = .ok (.string t) W ∧ L W) (first | assumption | exact toS _ (by assumption)) (first
          | (go_at_call 13; refine (ca _ ?_).mono ?_; assumption; rintro e w' ⟨rfl, hL⟩))
        go_wp2_with fail
        go_ret
        exact ⟨rfl, lb (by assumption)⟩

set_option maxRecDepth 100000 in
theorem lifted (os : Os) (started : os.Started) (H : Type) (enc : TypeId × Value → H) :
    ReturnsInHanded {} Try.checked os 5 .any (Rows.wireSplitsSpec.pre6 enc Try.prog Try.f5 Rows.wireSplitsRow.domain false) (Rows.wireSplitsSpec.post enc Try.prog Try.f5 false true false false) := by
  refine returnsInHanded_of_change (C := Try.checked) own started (by kernel_rfl) Try.func5
    (ChangeSpec.witness6 (enc := enc) (C := Try.checked) false ⟨#[], #[.slice none 0 0, .int .i64 0], []⟩ 8 (by kernel_rfl) (by kernel_rfl) (by kernel_rfl) (by kernel_rfl)) ?_
  intro W base args ds gs before hval0 hW hcnd _
  have hval : ∀ (j : Nat) t v, Try.f5.params[j]? = some t → args[j]? = some v → Value.okWide Try.prog W .any base t v := hval0
  have hW' := hW
  obtain ⟨p, q, hA0, hV, rfl, hfz, hnd⟩ := hW
  have hA : DataW.TrodAll enc Try.prog W 0 (fun _ => true) true Try.f5.params.toList args.toList ds p := hA0
  rw [Try.params5] at hA hval
  obtain ⟨v0, vs0, d0, ds0, p0, q0, hargs, rfl, rfl, h0, r0⟩ := trodAll_cons hA
  obtain ⟨v1, vs1, d1, ds1, p1, q1, rfl, rfl, rfl, h1, r1⟩ := trodAll_cons r0
  obtain ⟨rfl, rfl, rfl⟩ := trodAll_nil r1
  obtain rfl : args = #[v0, v1] := by cases args; simp_all
  obtain ⟨rfl, rfl⟩ := trodVars_none hV
  obtain ⟨a0, len0, cap0, rfl⟩ := okWide_slice Try.underlying27 (hval 0 27 v0 rfl rfl)
  have k0 := h0
  have lt0 : ∀ x ∈ p0, x.block < W.heap.size := by obtain ⟨m, hm⟩ := k0; exact DataW.trod_lt m _ _ _ hm
  obtain ⟨z0, w0⟩ : ∃ z, ByRow W a0 len0 cap0 z := by
    obtain ⟨fuel, hf⟩ := h0
    rcases open_ints Try.underlying27 Try.underlying5 (by kernel_rfl) hf with ⟨hcs, _⟩ | ⟨x, l, c, zs, hcs, _, hl, hm, hz, _, hcell, hwz⟩
    · simp [Value.cells] at hcs
      obtain ⟨rfl, rfl, rfl⟩ := hcs
      exact ⟨_, byRow_nil _⟩
    · simp [Value.cells] at hcs
      obtain ⟨rfl, rfl, rfl⟩ := hcs
      exact ⟨_, byRow_some hl hm (by simpa using hz) hcell hwz⟩
  obtain ⟨a1, rfl, rfl, rfl, w1⟩ := open_int Try.underlying3 (hval 1 3 v1 rfl rfl) h1
  clear hA0 hval0
  refine (walk a0 len0 cap0 z0 a1 W w0).mono fun e W' ⟨he, bel⟩ => ?_
  subst he
  exact ⟨_, rfl, _, _, _, [], _, [], hW', trodAll_mk1 (shut_bool Try.underlying4 _), (trodAll_cons_mk (Below.trod laidOut (by kernel_rfl) (of_decide_eq_true (by kernel_rfl)) k0 bel lt0) (trodAll_cons_mk (shut_int Try.underlying3 w1) trodAll_mk0)), rfl, bel.frame _, fun h => by cases h⟩

end Go.Proofs.Ytmhkkdbfejajeaa.wireSplits
namespace Go.Proofs.Ytmhkkdbfejajeaa

/-- The statement WireSplits. -/
theorem WireSplitsHolds : Rows.WireSplitsSaid :=
  OpenClaim.holds_of_wide 5 Try.f5 rfl rfl rfl rfl rfl rfl rfl ⟨rfl, rfl, rfl, rfl, rfl⟩ rfl rfl rfl rfl rfl (by kernel_rfl) Try.func5 (by kernel_rfl)
    (of_decide_eq_true (by kernel_rfl)) (by unfold Func.isWrapper; first | (rw [if_pos (by decide +kernel)]; kernel_rfl) | (rw [if_neg (by decide +kernel)]; exact ⟨rfl, rfl⟩))
    (fun os started H enc _ => wireSplits.lifted os started H enc)

end Go.Proofs.Ytmhkkdbfejajeaa
