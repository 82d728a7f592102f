/- The document's own Turn and Then. -/
import Derived.Test.YtcfpfddbbhphgaaThen
namespace Go.Proofs.Ytcfpfddbbhphgaa
open Go.RowKit Go.Shelf

theorem encU_set (n : Nat) (z : Nat → Int) (j : Nat) (v : Int) : (encU n z).set j (.int .u64 v) = encU n (upd z j v) := by
  apply List.ext_getElem?
  intro i
  rw [List.getElem?_set]
  by_cases e : j = i
  · subst e
    by_cases h : j < n
    · simp [encU, h, upd]
    · simp [encU, h]
  · rw [if_neg e]
    by_cases h : i < n
    · rw [encU_at n z i h, encU_at n _ i h]; simp [upd, show ¬ i = j from fun h => e h.symm]
    · simp [encU, h]
theorem encU_zero (n : Nat) : List.replicate n (Value.int .u64 0) = encU n (fun _ => 0) := by
  apply List.ext_getElem <;> simp [encU]
/-- a made slice of n numbers, at the head of block g -/
def Out (W : World) (base g n : Nat) (z : Nat → Int) : Prop := W.ownsRow base 34 1 (.slice (some ⟨g, 0, none⟩) n n) n (encU n z)
theorem Out.cell {W : World} {base g n : Nat} {z : Nat → Int} (h : Out W base g n z) {j : Nat} (hj : j < n) : W.cell? ⟨g, j, none⟩ = some (.int .u64 (z j)) := by
  rw [World.ownsRow.cellAt h j (by omega)]; exact encU_at n z j hj
theorem Out.frozen {W : World} {base g n : Nat} {z : Nat → Int} (h : Out W base g n z) (j : Nat) : W.frozen? ⟨g, j, none⟩ = false := World.ownsRow.frozenAt h j
theorem Out.set {W : World} {base g n : Nat} {z : Nat → Int} (h : Out W base g n z) (j : Nat) (v : Int) : Out (W.setCell ⟨g, j, none⟩ (.int .u64 v)) base g n (upd z j v) := by
  have := (World.ownsRow.stored h j (.int .u64 v)).1
  rw [encU_set] at this; exact this
theorem Out.ge {W : World} {base g n : Nat} {z : Nat → Int} (h : Out W base g n z) : base ≤ g := own_ge h g rfl
theorem Out.lt {W : World} {base g n : Nat} {z : Nat → Int} (h : Out W base g n z) : g < W.heap.size := by
  rcases h.2 with ⟨e, _⟩ | ⟨g', cap, cur, e, _, hg, _⟩
  · cases e
  · cases e; exact (Array.getElem?_eq_some_iff.1 hg).1
theorem Out.below {W W' : World} {base g n : Nat} {z : Nat → Int} (h : Out W base g n z) (hb : Below W.heap.size W W') : Out W' base g n z := by
  refine ⟨h.1, ?_⟩
  rcases h.2 with h' | ⟨g', cap, cur, e, h1, hg, h2⟩
  · exact .inl h'
  · exact .inr ⟨g', cap, cur, e, h1, (hb.block g' (Array.getElem?_eq_some_iff.1 hg).1).trans hg, h2⟩
theorem Out.congr {W : World} {base g n : Nat} {z y : Nat → Int} (h : Out W base g n z) (e : ∀ j, j < n → z j = y j) : Out W base g n y := by
  have : encU n z = encU n y := List.map_congr_left fun j hj => by rw [e j (by simpa using hj)]
  unfold Out; rw [← this]; exact h

theorem made_zero (n : Nat) : (madeCells (Value.int .u64 0).cells (n * 1)).toList = encU n (fun _ => 0) := by
  apply List.ext_getElem?
  intro i
  by_cases h : i < n
  · rw [encU_at n _ i h]; simp [madeCells, h, Value.cells, Nat.mod_one]
  · simp [madeCells, encU, h]

theorem memsTo_all {n : Nat} (hn : n ≤ 64) {r : Int} (h : rowOk n r = true) : memsTo r n = mems r := by
  have h' := rowOk_iff.1 h
  have key : ∀ d, n + d ≤ 64 → memsTo r (n + d) = memsTo r n := by
    intro d
    induction d with
    | zero => intro _; rfl
    | succ d ih =>
      intro hd
      rw [show n + (d + 1) = (n + d) + 1 by omega, memsTo_miss, ih (by omega)]
      cases ht : tb r (n + d)
      · rfl
      · have := h' (n + d) (by omega) ht; omega
  have := key (64 - n) (by omega)
  rw [show n + (64 - n) = 64 by omega] at this
  exact this.symm

set_option maxHeartbeats 1000000 in
theorem rturn_bad (a : Option Addr) (n cap : Nat) (z : Nat → Int) (w : World) (hn : n < 9223372036854775807) (hc : Cells w .u64 a n z) (hz : ∀ j, j < n → 0 ≤ z j ∧ z j < 18446744073709551616) (hk : chkI n z ≠ 0) :
    Calls Try.prog 36 #[.slice a n cap] w fun e w' => e = .returned (.tuple #[.slice none 0 0, .int .i64 (chkI n z)]) ∧ Below w.heap.size w w' := by
  have hchk := rcheck_any a n cap z w hn hc hz
  have hne : (chkI n z != 0) = true := by simp [hk]
  generalize chkI n z = c at *
  clear hk hc hz
  go_enter Try.func36, Try.ntmps36
  go_wp2_with fail
  refine hchk.mono ?_
  rintro e w' ⟨rfl, hb⟩
  go_wp2_with fail
  go_ret2
  exact ⟨rfl, hb⟩

set_option maxRecDepth 100000 in
set_option maxHeartbeats 4000000 in
theorem rturn_ok (a : Option Addr) (n cap : Nat) (z : Nat → Int) (w : World) (hc : Cells w .u64 a n z) (hz : ∀ j, j < n → 0 ≤ z j ∧ z j < 18446744073709551616) (hk : chkI n z = 0) :
    Calls Try.prog 36 #[.slice a n cap] w fun e w' => ∃ g, e = .returned (.tuple #[.slice (some ⟨g, 0, none⟩) n n, .int .i64 0]) ∧ Out w' w.heap.size g n (turnTo z n) ∧ Below w.heap.size w w' := by
  obtain ⟨i0, hi, hz0, hz1, hz2⟩ := info_parts Try.info23
  have HZ : Hid (∀ j, j < n → 0 ≤ z j ∧ z j < 18446744073709551616) := hz
  have hn := (chk_ok hk).1
  have HR : Hid (∀ j, j < n → rowOk n (z j) = true) := chkB_iff.1 (chk_ok hk).2
  have hchk := rcheck_any a n cap z w (by omega) hc HZ.out
  rw [hk] at hchk
  have HC : Hid (Cells w .u64 a n z) := hc
  clear hc hz hk
  go_enter Try.func36, Try.ntmps36
  go_wp2_with fail
  refine hchk.mono ?_
  rintro e w1 ⟨rfl, hb1⟩
  go_wp2_with (at_make; go_must (refine wpList_make_full _ rfl _ _ 22 rfl w1.heap.size 34 i0 (.int .u64 0) 1 Try.underlying22 hi hz0 hz1 .i64 .i64 _ _ n rfl rfl rfl rfl (by rw [hz2]; omega) (by unfold maxLen; omega) (Nat.le_refl _) ?_; intro w2 hown hgrow))
  rw [made_zero] at hown
  have hb2 : Below w1.heap.size w1 w2 := (Below.refl _ w1).grown hgrow (Nat.le_refl _) (fun k e => by cases e)
  have h0 : Out w2 w.heap.size w1.heap.size n (turnTo z 0) := own_mono hown hb1.size
  have hbw : Below w.heap.size w w2 := Below.onto hb1 hb2
  have hgw := hb1.size
  clear hown hgrow hb1 hb2
  generalize w1.heap.size = g at *
  go_loopw [6] (fun i wr => ∃ k : Nat, k ≤ n ∧ i = .int .i64 k ∧ Out wr w.heap.size g n (turnTo z k) ∧ Below w.heap.size w wr) (fun i _ => n - (intOf i).toNat)
  case atStart => exact ⟨0, Nat.zero_le _, rfl, h0, hbw⟩
  case round =>
    clear h0 hbw
    obtain ⟨k, hk, rfl, ho, hbel⟩ := hrel
    by_cases hlt : k < n
    · obtain ⟨b, off, hab, hcell0⟩ := HC.out.below hbel k hlt
      obtain ⟨hk0, hk1⟩ := HZ.out k hlt
      go_wp2
      go_loopw [7] (fun i wr => ∃ j : Nat, j ≤ n ∧ i = .int .i64 j ∧ Out wr w.heap.size g n (turnStep (turnTo z k) k (memsTo (z k) j)) ∧ Below w.heap.size w wr) (fun i _ => n - (intOf i).toNat)
      case atStart => exact ⟨0, Nat.zero_le _, rfl, ho, hbel⟩
      case round =>
        clear ho hbel hcell0
        obtain ⟨j, hj, rfl, ho, hbel⟩ := hrel
        by_cases hlj : j < n
        · obtain ⟨b', off', hab', hcell⟩ := HC.out.below hbel k hlt
          rw [hab] at hab'
          cases hab'
          subst hab
          have hbd := turnStep_bd (turnTo_bd z (show k ≤ 64 by omega)) (show k < 64 by omega) (memsTo (z k) j)
          cases ht : tb (z k) j
          · have hh := fun w => rhas_at (z k) j w hk0 hk1 (by omega) false ht
            have HM : Hid (memsTo (z k) (j + 1) = memsTo (z k) j) := memsTo_miss _ _ ht
            clear ht hbd
            go_wp2_with (go_at_call 35; refine (hh _).mono ?_; rintro e w3 ⟨rfl, hw⟩; subst hw)
            go_roundw
            case rel => exact ⟨j + 1, by omega, by go_num, by rw [HM.out]; exact ho, hbel⟩
            case measure => simp [intOf]; omega
          · have hh := fun w => rhas_at (z k) j w hk0 hk1 (by omega) true ht
            have HM : Hid (turnStep (turnTo z k) k (memsTo (z k) (j + 1)) = upd (turnStep (turnTo z k) k (memsTo (z k) j)) j (setI (turnStep (turnTo z k) k (memsTo (z k) j) j) k)) := by
              show _ = _
              rw [memsTo_hit _ _ ht]; exact turnStep_snoc _ _ _ _
            generalize turnStep (turnTo z k) k (memsTo (z k) j) = G at *
            obtain ⟨hG0, hG1⟩ := hbd j
            have hoc := ho.cell hlj
            have hof := ho.frozen j
            have hwith := fun w => with_any (G j) k w hG0 hG1 (by omega)
            clear ht hbd
            go_wp2_with (first | (go_at_call 35; refine (hh _).mono ?_; rintro e w3 ⟨rfl, hw⟩; subst hw) | (go_at_call 59; refine (hwith _).mono ?_; rintro e w4 ⟨rfl, hw⟩; subst hw))
            go_roundw
            case rel => exact ⟨j + 1, by omega, by go_num, by rw [HM.out]; exact ho.set j _, hbel.setCell (p := ⟨g, j, none⟩) hgw _⟩
            case measure => simp [intOf]; omega
        · obtain rfl : j = n := by omega
          have HM : Hid (turnTo z (k + 1) = turnStep (turnTo z k) k (memsTo (z k) j)) := by
            show turnStep (turnTo z k) k (mems (z k)) = _
            rw [memsTo_all hn (HR.out k hlt)]
          go_wp2
          go_roundw
          case rel => exact ⟨k + 1, by omega, by go_num, by rw [HM.out]; exact ho, hbel⟩
          case measure => simp [intOf]; omega
    · obtain rfl : k = n := by omega
      go_wp2
      go_ret2
      exact ⟨g, rfl, ho, hbel⟩

end Go.Proofs.Ytcfpfddbbhphgaa
