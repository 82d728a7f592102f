/- The document's own answers of layer 2: Check, label, asked, meets, Joins, Meets. -/
import Derived.Test.YtcfpfddbbhphgaaLRefA
namespace Go.Proofs.Ytcfpfddbbhphgaa
open Go.RowKit Go.Shelf

/-- what keeps a policy's rows: the rows gone through so far -/
def polRow (z : Nat → Int) (a b : Nat) : Prop := ∀ j, j < b → tb (z a) j = true → subB (z j) (z a) = true
theorem pol_iff {n : Nat} {z : Nat → Int} (hz : Bds n z) (hk : shpE n z = 0) : polE n z = 0 ↔ ∀ a, a < n → tb (z a) a = true ∧ polRow z a n := by
  obtain ⟨h1, h2, h3⟩ := shpE_ok hk
  have hp : polE n z = 0 ↔ polB n z = true := by
    unfold polE; rw [if_pos hk]
    cases polB n z <;> simp
  rw [hp, clo_eq_iff (by omega) hz h3]
  constructor
  · rintro ⟨g1, g2⟩ a ha
    exact ⟨g1 a ha, fun j hj ht => (subB_all (hz j hj).2).2 fun q hq => g2 a j q ha ht hq⟩
  · intro h
    refine ⟨fun i hi => (h i hi).1, fun i m j hi g1 g2 => ?_⟩
    have hm := in_rows h3 hz hi g1
    exact (subB_all (hz m hm).2).1 ((h i hi).2 m hm g1) j g2

set_option maxRecDepth 100000 in
set_option maxHeartbeats 2000000 in
theorem rcheck2_ok (a : Option Addr) (n cap : Nat) (z : Nat → Int) (w : World) (hc : Cells w .u64 a n z) (hz : Bds n z) (hk : shpE n z = 0) :
    Calls Try.prog 15 #[.slice a n cap] w fun e w' => e = .returned (.int .i64 (if polE n z = 0 then 0 else 20)) ∧ Below w.heap.size w w' := by
  obtain ⟨h1, h16, h3⟩ := shpE_ok hk
  have hsh := rshape_un a n cap z w (by omega) hc hz
  rw [hk] at hsh
  have HI : Hid (polE n z = 0 ↔ ∀ a, a < n → tb (z a) a = true ∧ polRow z a n) := pol_iff hz hk
  have HC : Hid (Cells w .u64 a n z) := hc
  have HZ : Hid (Bds n z) := hz
  obtain ⟨r, hr⟩ : ∃ r : Int, r = if polE n z = 0 then 0 else 20 := ⟨_, rfl⟩
  rw [← hr]
  have HRr : Hid (r = if polE n z = 0 then 0 else 20) := hr
  clear hc hz hk h3 hr
  go_enter Try.func15, Try.ntmps15
  go_wp2_with fail
  refine hsh.mono ?_
  rintro e w1 ⟨rfl, hb1⟩
  clear hsh
  go_wp2_with fail
  go_loopw [4] (fun i wr => ∃ p : Nat, p ≤ n ∧ i = .int .i64 p ∧ Hid (∀ q, q < p → tb (z q) q = true ∧ polRow z q n) ∧ Below w.heap.size w wr) (fun i _ => n - (intOf i).toNat)
  case atStart => exact ⟨0, Nat.zero_le _, rfl, fun q hq => absurd hq (by omega), hb1⟩
  case round =>
    clear hb1
    obtain ⟨p, hp, rfl, hall, hbel⟩ := hrel
    by_cases hlt : p < n
    · obtain ⟨p0, p1⟩ := HZ.out p hlt
      obtain ⟨b1, o1, rfl, hcp⟩ := HC.out.below hbel p hlt
      cases ht : tb (z p) p
      · have hh := fun w => rhas_at (z p) p w p0 p1 (by omega) false ht
        have HF : Hid (polE n z ≠ 0) := fun h => by have := (HI.out.1 h p hlt).1; rw [ht] at this; cases this
        clear ht
        go_wp2_with fail
        refine (hh _).mono ?_
        rintro e w3 ⟨rfl, e3⟩
        subst e3
        go_wp2_with fail
        go_ret
        exact ⟨ret_int (by rw [HRr.out, if_neg HF.out]), hbel⟩
      · have hh := fun w => rhas_at (z p) p w p0 p1 (by omega) true ht
        have HT : Hid (tb (z p) p = true) := ht
        clear ht
        go_wp2_with fail
        refine (hh _).mono ?_
        rintro e w3 ⟨rfl, e3⟩
        subst e3
        clear hh hcp
        go_wp2_with fail
        go_loopw [5] (fun i wr => ∃ q : Nat, q ≤ n ∧ i = .int .i64 q ∧ Hid (polRow z p q) ∧ Below w.heap.size w wr) (fun i _ => n - (intOf i).toNat)
        case atStart => exact ⟨0, Nat.zero_le _, rfl, fun q hq => absurd hq (by omega), hbel⟩
        case round =>
          clear hbel
          obtain ⟨q, hq, rfl, hrw, hbel⟩ := hrel
          by_cases hlq : q < n
          · obtain ⟨q0, q1⟩ := HZ.out q hlq
            obtain ⟨b2, o2, e2, hcp⟩ := HC.out.below hbel p hlt
            cases e2
            obtain ⟨b3, o3, e3, hcq⟩ := HC.out.below hbel q hlq
            cases e3
            cases ht : tb (z p) q
            · have hh := fun w => rhas_at (z p) q w p0 p1 (by omega) false ht
              have HR : Hid (polRow z p (q + 1)) := fun j hj hjt => by
                by_cases e : j = q
                · subst e; rw [ht] at hjt; cases hjt
                · exact hrw.out j (by omega) hjt
              clear ht
              go_wp2_with fail
              go_quiet ((go_at_call 35; exact Calls.quiet_of_same (hh _)))
              go_wp2
              go_roundw
              case rel => exact ⟨q + 1, by omega, by go_num, HR, below_drewN hbel nq⟩
              case measure => simp [intOf]; omega
            · have hh := fun w => rhas_at (z p) q w p0 p1 (by omega) true ht
              have HS : Hid ((bits .andNot .u64 (z q) (z p) != 0) = !subB (z q) (z p)) := by
                show _ = _
                rw [an_eq q0 q1 p0 p1, ← an_sub q1 p0 p1]; rfl
              cases hs : subB (z q) (z p)
              · have hne : (bits .andNot .u64 (z q) (z p) != 0) = true := by rw [HS.out, hs]; rfl
                have HF : Hid (polE n z ≠ 0) := fun h => by have := (HI.out.1 h p hlt).2 q hlq ht; rw [hs] at this; cases this
                clear ht hs HS
                go_wp2_with fail
                go_quiet ((go_at_call 35; exact Calls.quiet_of_same (hh _)))
                go_wp2
                go_ret
                exact ⟨ret_int (by rw [HRr.out, if_neg HF.out]), below_drewN hbel nq⟩
              · have hne : (bits .andNot .u64 (z q) (z p) != 0) = false := by rw [HS.out, hs]; rfl
                have HR : Hid (polRow z p (q + 1)) := fun j hj hjt => by
                  by_cases e : j = q
                  · subst e; exact hs
                  · exact hrw.out j (by omega) hjt
                clear ht hs HS
                go_wp2_with fail
                go_quiet ((go_at_call 35; exact Calls.quiet_of_same (hh _)))
                go_wp2
                go_roundw
                case rel => exact ⟨q + 1, by omega, by go_num, HR, below_drewN hbel nq⟩
                case measure => simp [intOf]; omega
          · obtain rfl : q = n := by omega
            go_wp2
            go_roundw
            case rel =>
              refine ⟨p + 1, by omega, by go_num, fun j hj => ?_, hbel⟩
              by_cases e : j = p
              · subst e; exact ⟨HT.out, hrw.out⟩
              · exact hall.out j (by omega)
            case measure => simp [intOf]; omega
    · obtain rfl : p = n := by omega
      go_wp2
      go_ret
      exact ⟨ret_int (by rw [HRr.out, if_pos (HI.out.2 hall.out)]), hbel⟩

theorem polE_20 {n : Nat} {z : Nat → Int} (hk : shpE n z = 0) : (if polE n z = 0 then 0 else 20) = polE n z := by
  unfold polE
  rw [if_pos hk]
  cases polB n z <;> simp
set_option maxHeartbeats 1000000 in
theorem rcheck2_un (a : Option Addr) (n cap : Nat) (z : Nat → Int) (w : World) (hn : n < 9223372036854775807) (hc : Cells w .u64 a n z) (hz : Bds n z) :
    Calls Try.prog 15 #[.slice a n cap] w fun e w' => e = .returned (.int .i64 (polE n z)) ∧ Below w.heap.size w w' := by
  by_cases hk : shpE n z = 0
  · have := rcheck2_ok a n cap z w hc hz hk
    rwa [polE_20 hk] at this
  · have hsh := rshape_un a n cap z w hn hc hz
    have e : polE n z = shpE n z := by simp [polE, hk]
    rw [e]
    have hne : (shpE n z != 0) = true := by simp [hk]
    generalize shpE n z = c at *
    clear hc hz e hk
    go_enter Try.func15, Try.ntmps15
    go_wp2_with fail
    refine hsh.mono ?_
    rintro e w1 ⟨rfl, hb1⟩
    go_wp2_with fail
    go_ret
    exact ⟨rfl, hb1⟩

def labB (n : Nat) (a : Int) : Bool := decide (0 ≤ a) && decide (a < n)
set_option maxHeartbeats 400000 in
theorem rlabel_any (a : Option Addr) (n cap : Nat) (p : Int) (w : World) :
    Calls Try.prog 65 #[.slice a n cap, .int .i64 p] w fun e w' => e = .returned (.bool (labB n p)) ∧ w' = w := by
  by_cases h : 0 ≤ p
  · go_enter Try.func65, Try.ntmps65
    go_wp2
    go_ret
    exact ⟨ret_bool (by simp [labB, h]), rfl⟩
  · have h' : p < 0 := by omega
    clear h
    go_enter Try.func65, Try.ntmps65
    go_wp2
    go_ret
    exact ⟨ret_bool (by simp [labB]; omega), rfl⟩

set_option maxHeartbeats 1000000 in
theorem rmeets_at (a : Option Addr) (n cap : Nat) (z : Nat → Int) (p q : Nat) (w : World) (hp : p < n) (hq : q < n) (hc : Cells w .u64 a n z) (hP : Pol n z) :
    Calls Try.prog 48 #[.slice a n cap, .int .i64 p, .int .i64 q] w fun e w' => e = .returned (.int .u64 (mt n z p q)) ∧ Below w.heap.size w w' := by
  have hn := hP.le
  have htu := rturn_un a n cap z w (by omega) hc hP.bds
  rw [hP.chk] at htu
  have hl : lenIf 0 n = n := by simp [lenIf]
  have HP : Hid (Pol n z) := hP
  clear hc hP
  go_enter Try.func48, Try.ntmps48
  go_wp2_with fail
  refine htu.mono ?_
  rintro e w1 ⟨t, ct, rfl, ht, hb⟩
  rw [hl] at ht
  rw [hl]
  have HT : Hid (Cells w1 .u64 t n (turnTo z n)) := ht
  clear ht htu
  go_wp2_with fail
  refine (rjoins_at t n ct (turnTo z n) p q _ hp hq (by omega) HT.out HP.out.turn.bds).mono ?_
  rintro e w2 ⟨rfl, hb2⟩
  go_wp2_with fail
  go_ret
  exact ⟨rfl, Below.onto hb hb2⟩

end Go.Proofs.Ytcfpfddbbhphgaa
