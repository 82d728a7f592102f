/- The document's own answers of layer 2: shape, Check, label, asked, joins, meets. -/
import Derived.Test.YtcfpfddbbhphgaaLMath
import Derived.Test.YtcfpfddbbhphgaaUn
namespace Go.Proofs.Ytcfpfddbbhphgaa
open Go.RowKit Go.Shelf

theorem shl_bit {k : Nat} (hk : k < 64) : IntKind.u64.wrap (2 ^ min k 64) = IntKind.u64.wrap (2 ^ k) := by rw [Nat.min_eq_left (by omega)]

set_option maxHeartbeats 400000 in
theorem rshape_un (a : Option Addr) (n cap : Nat) (z : Nat → Int) (w : World) (hn : n < 9223372036854775807) (hc : Cells w .u64 a n z) (hz : Bds n z) :
    Calls Try.prog 39 #[.slice a n cap] w fun e w' => e = .returned (.int .i64 (shpE n z)) ∧ Below w.heap.size w w' := by
  by_cases h1 : 16 < n
  · have e : shpE n z = 3 := by simp [shpE, h1]
    rw [e]
    clear hc hz e
    go_enter Try.func39, Try.ntmps39
    go_wp2
    go_ret
    exact ⟨rfl, Below.refl _ _⟩
  · by_cases h2 : n = 0
    · have e : shpE n z = 1 := by simp [shpE, h2]
      rw [e]
      subst h2
      clear hc hz e
      go_enter Try.func39, Try.ntmps39
      go_wp2
      go_ret
      exact ⟨rfl, Below.refl _ _⟩
    · have hcl := rcheck_any a n cap z w hn hc hz
      rw [shpE_of (z := z) (by omega) (by omega)]
      have hne : ((n : Int) == 0) = false := by simp; omega
      have hcc := chk_cases n z
      generalize chkI n z = c at *
      clear hc hz
      go_enter Try.func39, Try.ntmps39
      go_wp2_with fail
      refine hcl.mono ?_
      rintro e w1 ⟨rfl, hb⟩
      go_wp2_with fail
      go_ret
      exact ⟨ret_int (by rcases hcc with h | h | h <;> subst h <;> rfl), hb⟩

set_option maxHeartbeats 1000000 in
theorem rjoins_at (a : Option Addr) (n cap : Nat) (z : Nat → Int) (p q : Nat) (w : World) (hp : p < n) (hq : q < n) (hn : n ≤ 64) (hc : Cells w .u64 a n z) (hz : Bds n z) :
    Calls Try.prog 46 #[.slice a n cap, .int .i64 p, .int .i64 q] w fun e w' => e = .returned (.int .u64 (jn n z p q)) ∧ Below w.heap.size w w' := by
  have HC : Hid (Cells w .u64 a n z) := hc
  have HZ : Hid (Bds n z) := hz
  obtain ⟨p0, p1⟩ := hz p hp
  obtain ⟨q0, q1⟩ := hz q hq
  obtain ⟨b, off, rfl, hcp⟩ := hc p hp
  obtain ⟨b', off', e', hcq⟩ := hc q hq
  cases e'
  have he := and_eq p0 p1 q0 q1
  have hu0 := andI_nonneg (z p) (z q)
  have hu1 := andI_lt (z q) p1
  clear hc hz
  show Calls _ _ _ _ fun e w' => e = .returned (.int .u64 (jnS n z (andI (z p) (z q)))) ∧ Below w.heap.size w w'
  go_enter Try.func46, Try.ntmps46
  go_wp2
  go_quiet (fail)
  go_wp2
  have hB0 : Below w.heap.size w (w.drewN nq) := below_drewN (Below.refl _ _) nq
  clear he
  generalize hue : andI (z p) (z q) = u at *
  have HUe : Hid (andI (z p) (z q) = u) := hue
  clear hue
  go_loopw [8, 9] (fun s i wr => ∃ k : Nat, k ≤ n ∧ i = .int .i64 k ∧ s = .int .u64 (setTo (fun c => tb u c && subB u (z c)) k) ∧ Below w.heap.size w wr) (fun _ i _ => n - (intOf i).toNat)
  case atStart => exact ⟨0, Nat.zero_le _, rfl, rfl, hB0⟩
  case round =>
    clear hB0
    obtain ⟨k, hk, rfl, rfl, hbel⟩ := hrel
    have hs0 := setTo_nonneg (fun c => tb u c && subB u (z c)) k
    have hs1 := setTo_lt (fun c => tb u c && subB u (z c)) (show k ≤ 64 by omega)
    by_cases hlt : k < n
    · obtain ⟨k0, k1⟩ := HZ.out k hlt
      obtain ⟨b2, o2, e2, hck⟩ := HC.out.below hbel k hlt
      cases e2
      have HT : Hid ((bits .andNot .u64 u (z k) == 0) = subB u (z k)) := by
        show _ = _
        rw [an_eq hu0 hu1 k0 k1]; exact an_sub hu1 k0 k1
      cases ht : tb u k
      · have HN : Hid (setTo (fun c => tb u c && subB u (z c)) (k + 1) = setTo (fun c => tb u c && subB u (z c)) k) := setTo_miss (by simp [ht])
        have hh := fun w => rhas_at u k w hu0 hu1 (by omega) false ht
        clear ht HT
        generalize setTo (fun c => tb u c && subB u (z c)) k = S at *
        go_wp2_with (go_at_call 35; refine (hh _).mono ?_; rintro e w' ⟨rfl, rfl⟩)
        go_roundw
        case rel => exact ⟨k + 1, by omega, by go_num, by rw [HN.out], hbel⟩
        case measure => simp [intOf]; omega
      · have hh := fun w => rhas_at u k w hu0 hu1 (by omega) true ht
        cases hs : subB u (z k)
        · have HN : Hid (setTo (fun c => tb u c && subB u (z c)) (k + 1) = setTo (fun c => tb u c && subB u (z c)) k) := setTo_miss (by simp [hs])
          have ht' : (bits .andNot .u64 u (z k) == 0) = false := by rw [HT.out, hs]
          clear ht HT hs
          generalize setTo (fun c => tb u c && subB u (z c)) k = S at *
          go_wp2_with (go_at_call 35; refine (hh _).mono ?_; rintro e w' ⟨rfl, rfl⟩)
          go_roundw
          case rel => exact ⟨k + 1, by omega, by go_num, by rw [HN.out], hbel⟩
          case measure => simp [intOf]; omega
        · have HN : Hid (setTo (fun c => tb u c && subB u (z c)) (k + 1) = setI (setTo (fun c => tb u c && subB u (z c)) k) k) := setTo_hit (by simp [hs, ht])
          have ht' : (bits .andNot .u64 u (z k) == 0) = true := by rw [HT.out, hs]
          clear ht HT hs
          generalize setTo (fun c => tb u c && subB u (z c)) k = S at *
          go_wp2_with (go_at_call 35; refine (hh _).mono ?_; rintro e w' ⟨rfl, rfl⟩)
          go_roundw
          case rel => exact ⟨k + 1, by omega, by go_num, by rw [HN.out, or_bit' hs0 hs1 (by omega)], hbel⟩
          case measure => simp [intOf]; omega
    · obtain rfl : k = n := by omega
      go_wp2
      go_ret
      exact ⟨ret_int (by rw [HUe.out]; rfl), hbel⟩

end Go.Proofs.Ytcfpfddbbhphgaa
