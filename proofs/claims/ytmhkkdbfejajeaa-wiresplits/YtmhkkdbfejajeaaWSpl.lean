/- wire.Split: the pieces of bytes, cut out of one new row. -/
import Derived.Test.YtmhkkdbfejajeaaWSplM
namespace Go.Proofs.Ytmhkkdbfejajeaa
open Go.RowKit

set_option maxHeartbeats 4000000 in
theorem split_some (b off n cap : Nat) (m : Int) (z : Nat → Int) (w : World) (hn : n ≤ 400) (hcap : n ≤ cap) (hc : Cells w .u8 (some ⟨b, off, none⟩) n z) :
    Calls Try.prog 19 #[.slice (some ⟨b, off, none⟩) n cap, .int .i64 m] w fun e w' => ∃ v, e = .returned v ∧ PRow w' v (cnt n m) n z ∧ Below w.heap.size w w' := by
  obtain ⟨i0, hi, hz0, hz1, hz2⟩ := info_parts Try.infoSl
  have hN := cnt_le n m
  have hq : cnt n m = min m.toNat ((n + 15) / 16) := rfl
  obtain ⟨M, hM⟩ : ∃ M : Nat, M = m.toNat := ⟨_, rfl⟩
  obtain ⟨L, hL⟩ : ∃ L : Nat, L = min (cnt n m * 16) n := ⟨_, rfl⟩
  have hk0 := fun k => more_iff (k := k) hN
  have hlen : ∀ i, i < cnt n m → ln L i = ln n i := fun i hi => by rw [hL]; exact ln_cut hi
  have hpart : ∀ i, i < cnt n m → 16 * i + ln n i ≤ L := fun i hi => by have := (hk0 i).1 hi; unfold ln; omega
  have hmx : ∀ W ts t, (Builtin.max_ ts t #[.int .i64 m, .int .i64 0]).run Try.prog W = .ok (.int .i64 (M : Int)) W := fun W ts t => by
    rw [run_max_int2, show (if m < 0 then (0 : Int) else m) = (M : Int) by split <;> omega]
  have hmi : ∀ W ts t, (Builtin.min_ ts t #[.int .i64 (M : Int), .int .i64 (((n : Int) + 16 - 1) / 16)]).run Try.prog W = .ok (.int .i64 (cnt n m : Int)) W := fun W ts t => by
    rw [run_min_int2, show (if ((n : Int) + 16 - 1) / 16 < (M : Int) then ((n : Int) + 16 - 1) / 16 else (M : Int)) = (cnt n m : Int) by split <;> omega]
  have hmi2 : ∀ W ts t, (Builtin.min_ ts t #[.int .i64 ((cnt n m : Int) * 16), .int .i64 (n : Int)]).run Try.prog W = .ok (.int .i64 (L : Int)) W := fun W ts t => by
    rw [run_min_int2, show (if (n : Int) < (cnt n m : Int) * 16 then (n : Int) else (cnt n m : Int) * 16) = (L : Int) by split <;> omega]
  have hmi3 : ∀ (r : Nat) W ts t, (Builtin.min_ ts t #[.int .i64 16, .int .i64 (r : Int)]).run Try.prog W = .ok (.int .i64 ((min 16 r : Nat) : Int)) W := fun r W ts t => by
    rw [run_min_int2, show (if (r : Int) < 16 then (r : Int) else 16) = ((min 16 r : Nat) : Int) by split <;> omega]
  rw [← hL] at hk0
  have hLn : L ≤ n := by omega
  have hLc : (L : Int) ≤ (cap : Int) := by omega
  have c1 := fun W h => clone_some b off L cap z W (by omega) h
  have HC : Hid (Cells w .u8 (some ⟨b, off, none⟩) L z) := hc.mono hLn
  have HF : Hid ((∀ k, k < cnt n m ↔ 16 * k < L) ∧ (∀ i, i < cnt n m → ln L i = ln n i) ∧ ∀ i, i < cnt n m → 16 * i + ln n i ≤ L) := ⟨hk0, hlen, hpart⟩
  have hN25 : cnt n m ≤ 25 := by omega
  clear hc hk0 hlen hpart hq hM hL hN
  generalize cnt n m = N at *
  go_enter Try.func19, Try.ntmps19
  go_wp2_with fail
  refine (c1 _ HC.out).mono ?_
  rintro e w1 ⟨v1, rfl, hown1, hb1⟩
  obtain ⟨ra, rc, rfl, hcr, hge⟩ := cells_of_own hown1 (encB_at L z)
  have hroom := own_room hown1
  have HR : Hid (Cells w1 .u8 ra L z) := hcr
  obtain ⟨g, hg⟩ : ∃ g, 0 < L → ra = some ⟨g, 0, none⟩ := by
    rcases hown1.2 with ⟨e, e0⟩ | ⟨g, c, cur, e, _⟩
    · exact ⟨0, fun h => absurd h (by omega)⟩
    · cases e; exact ⟨g, fun _ => rfl⟩
  clear hcr hown1 hge c1 HC hmx hmi hmi2
  go_wp2_with (at_make; refine wpList_make_own _ rfl _ _ 49 rfl w1.heap.size 27 i0 (.slice none 0 0) 1 Try.underlying49 hi hz0 hz1 .i64 .i64 _ N rfl rfl rfl (by rw [hz2]; omega) (by unfold maxLen; omega) (Nat.le_refl _) ?_; intro w2 hown2 hgrow2)
  have hB2 : Below w1.heap.size w1 w2 := Below.grow (Below.refl _ w1) hgrow2 (fun k e => by cases e)
  go_loopw [6, 7] (fun r v wr => ∃ k : Nat, k ≤ N ∧ Hid (∃ a c, r = .slice a (L - 16 * k) c ∧ (16 * k < L → a = some ⟨g, 16 * k, none⟩ ∧ L - 16 * k ≤ c)) ∧ wr.ownsRow w1.heap.size 27 1 v k (encP g L k) ∧ Below w1.heap.size w1 wr) (fun r _ _ => lenV r)
  case atStart => exact ⟨0, by omega, ⟨ra, rc, by rw [Nat.mul_zero, Nat.sub_zero], fun h => ⟨hg (by omega), by omega⟩⟩, hown2, hB2⟩
  case round =>
    obtain ⟨k, hk, hr, hown, hbel⟩ := hrel
    obtain ⟨a, c, rfl, ha⟩ := hr.out
    clear hr
    by_cases hlt : 16 * k < L
    · obtain ⟨rfl, hcc⟩ := ha hlt
      have hkN := (HF.out.1 k).2 hlt
      obtain ⟨r, hr⟩ : ∃ r, r = L - 16 * k := ⟨_, rfl⟩
      rw [← hr] at hcc ⊢
      have hm3 := hmi3 r
      obtain ⟨q, hq⟩ : ∃ q, q = min 16 r := ⟨_, rfl⟩
      rw [← hq] at hm3
      have HQ : Hid (q = ln L k) := by show q = ln L k; unfold ln; omega
      have HE : Hid (encP g L (k + 1) = encP g L k ++ [.slice (some ⟨g, 16 * k, none⟩) q q]) := by rw [HQ.out]; exact encP_snoc g L k
      have q1 : (q : Int) ≤ (c : Int) := by omega
      have q2 : (q : Int) ≤ (r : Int) := by omega
      have q3 : (0 : Int) < (r : Int) := by omega
      have q4 : (0 : Int) < (q : Int) := by omega
      have q5 : (k : Int) + 1 ≤ 25 := by omega
      have HS : Hid (r = L - 16 * k ∧ q = min 16 r ∧ r ≤ c ∧ 16 * k < L) := ⟨hr, hq, hcc, hlt⟩
      clear hr hq ha hmi3 hcc HQ hlt
      go_wp2_with (at_builtin; refine wpList_append_own _ rfl _ _ 49 rfl w1.heap.size 27 i0 (.slice none 0 0) 1 24 Try.underlying49 hi hz0 hz1 hz2 rfl (by decide) _ _ _ rfl (hown.alloc _) ⟨wr.heap.size, 0, none⟩ 1 1 [.slice (some ⟨g, 16 * k, none⟩) q q] rfl rfl (cell_one_new _ _ _) (by simp [Value.oneCell']) (by unfold maxLen; omega) (by omega) (by have := hbel.size; simp; omega) ?_; intro v' w3 hown' hgrow _)
      obtain ⟨hr, hq, hcc, hlt⟩ := HS.out
      have hle := own_ge hown
      refine ⟨⟨k + 1, by omega, ⟨_, _, by rw [show r - q = L - 16 * (k + 1) by omega], fun h => ⟨?_, by omega⟩⟩, by rw [HE.out]; exact hown', (hbel.alloc hbel.size _).grown hgrow (by have := hbel.size; simp; omega) hle⟩, ?_⟩
      · rw [if_neg (show ¬ c = q by omega), show 16 * k + q = 16 * (k + 1) by omega]
      · show r - q < r
        omega
    · have hkN : k = N := by have := HF.out.1 k; omega
      have e0 : L - 16 * k = 0 := by omega
      rw [e0]
      have HP : Hid (PRow wr u7 N n z) := by
        subst hkN
        have hcl : Cells wr .u8 (some ⟨g, 0, none⟩) L z := by
          by_cases h0 : 0 < L
          · have := HR.out.below hbel
            rwa [hg h0] at this
          · exact fun j hj => absurd hj (by omega)
        exact (pieces_of_own (n := L) hown hcl (fun i hi => by rw [HF.out.2.1 i hi]; exact HF.out.2.2 i hi)).len HF.out.2.1
      clear ha hown e0 hlt
      go_wp2_with fail
      go_ret
      exact ⟨_, rfl, HP.out, Below.onto hb1 hbel⟩

end Go.Proofs.Ytmhkkdbfejajeaa
