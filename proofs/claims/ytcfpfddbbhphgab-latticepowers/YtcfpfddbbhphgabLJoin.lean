/- lattice's joins and meets, and what is asked of two labels. -/
import Derived.Test.YtcfpfddbbhphgabLNear
import Derived.Test.YtcfpfddbbhphgabLNearD
namespace Go.Proofs.Ytcfpfddbbhphgab
open Go.RowKit Go.Shelf

set_option maxHeartbeats 400000 in
theorem pjoins_at (ua da : Option Addr) (n uc dc : Nat) (z : Nat → Int) (a b : Nat) (w : World) (ha : a < n) (hb : b < n) (hc : Cells w .u64 ua n z) (hz : Bds n z) (hin : ∀ i j, i < n → tb (z i) j = true → j < n) :
    Calls Try.prog 22 #[.agg #[.slice ua n uc, .slice da n dc], .int .i64 a, .int .i64 b] w fun e w' => e = .returned (.int .u64 (jn n z a b)) ∧ Below w.heap.size w w' := by
  have hB : Below w.heap.size w (w.alloc (.cells #[.slice ua n uc, .slice da n dc] 51)) := (Below.refl _ w).alloc (Nat.le_refl _) _
  have hne := near_up ua da n uc dc z a b _ ha hb (hc.below hB) hz hin
  have hmf : ∀ (fn : Fn) (first cap : Array Value) (w : World), (Instr.makeFunc fn first cap).run Try.prog w = .ok (.func fn first cap) w := fun _ _ _ _ => rfl
  clear hc hz hin
  go_enter Try.func22, Try.ntmps22
  go_wp2_with fail
  refine hne.mono ?_
  rintro e w1 ⟨rfl, h1⟩
  go_wp2_with fail
  go_ret
  exact ⟨rfl, Below.onto hB h1⟩
set_option maxHeartbeats 400000 in
theorem pmeets_at (ua da : Option Addr) (n uc dc : Nat) (y : Nat → Int) (a b : Nat) (w : World) (ha : a < n) (hb : b < n) (hc : Cells w .u64 da n y) (hz : Bds n y) (hin : ∀ i j, i < n → tb (y i) j = true → j < n) :
    Calls Try.prog 23 #[.agg #[.slice ua n uc, .slice da n dc], .int .i64 a, .int .i64 b] w fun e w' => e = .returned (.int .u64 (jn n y a b)) ∧ Below w.heap.size w w' := by
  have hB : Below w.heap.size w (w.alloc (.cells #[.slice ua n uc, .slice da n dc] 51)) := (Below.refl _ w).alloc (Nat.le_refl _) _
  have hne := near_dn ua da n uc dc y a b _ ha hb (hc.below hB) hz hin
  have hmf : ∀ (fn : Fn) (first cap : Array Value) (w : World), (Instr.makeFunc fn first cap).run Try.prog w = .ok (.func fn first cap) w := fun _ _ _ _ => rfl
  clear hc hz hin
  go_enter Try.func23, Try.ntmps23
  go_wp2_with fail
  refine hne.mono ?_
  rintro e w1 ⟨rfl, h1⟩
  go_wp2_with fail
  go_ret
  exact ⟨rfl, Below.onto hB h1⟩

/-! ### what is asked of two labels -/
/-- Check's error, then ErrRange -/
def askE (n : Nat) (z : Nat → Int) (a b : Int) : Int := if polE n z = 0 then (if isB n a && isB n b then 0 else 5) else polE n z
theorem isB_nat {n k : Nat} : isB n (k : Int) = decide (k < n) := by simp [isB]
theorem isB_true {n : Nat} {a : Int} (h : isB n a = true) : ∃ k : Nat, a = k ∧ k < n := by
  simp [isB] at h
  obtain ⟨k, rfl⟩ := Int.eq_ofNat_of_zero_le h.1
  exact ⟨k, rfl, by omega⟩

set_option maxRecDepth 100000 in
set_option maxHeartbeats 1000000 in
theorem ask_bad (what : Value) (a : Option Addr) (n cap : Nat) (z : Nat → Int) (p q : Int) (w : World) (hn : n < 9223372036854775807) (hc : Cells w .u64 a n z) (hz : Bds n z) (hk : polE n z ≠ 0) :
    Calls Try.prog 25 #[.slice a n cap, .int .i64 p, .int .i64 q, what] w fun e w' => e = .returned (.tuple #[.int .u64 0, .int .i64 (polE n z)]) ∧ Below w.heap.size w w' := by
  have hrd := read_un a n cap z w hn hc hz
  have hne : (polE n z != 0) = true := by simp [hk]
  clear hc hz
  go_enter Try.func25, Try.ntmps25
  go_wp2_with fail
  refine hrd.mono ?_
  rintro e w1 ⟨hb, ⟨_, rfl⟩ | ⟨h0, _⟩⟩
  · go_wp2_with fail
    go_ret2
    exact ⟨rfl, hb.alloc hb.size _⟩
  · exact absurd h0 hk
set_option maxRecDepth 100000 in
set_option maxHeartbeats 1000000 in
theorem ask_out (what : Value) (a : Option Addr) (n cap : Nat) (z : Nat → Int) (p q : Int) (w : World) (hn : n < 9223372036854775807) (hc : Cells w .u64 a n z) (hz : Bds n z) (hk : polE n z = 0) (ho : (isB n p && isB n q) = false) :
    Calls Try.prog 25 #[.slice a n cap, .int .i64 p, .int .i64 q, what] w fun e w' => e = .returned (.tuple #[.int .u64 0, .int .i64 5]) ∧ Below w.heap.size w w' := by
  have hrd := read_un a n cap z w hn hc hz
  clear hc hz
  go_enter Try.func25, Try.ntmps25
  go_wp2_with fail
  refine hrd.mono ?_
  rintro e w1 ⟨hb, ⟨hk', _⟩ | ⟨_, d, dc, rfl, hd⟩⟩
  · exact absurd hk hk'
  · clear hd hrd
    have hBx := hb.alloc hb.size (.cells #[.slice a n cap, .slice d n dc] 51)
    have hPx := pbox_new w1 (.slice a n cap) (.slice d n dc) 51
    cases hp : isB n p
    · go_wp2_with fail
      refine (is_any a d n n cap dc p _).mono ?_
      rintro e w2 ⟨rfl, h2⟩
      rw [hp]
      go_wp2_with fail
      go_ret2
      exact ⟨rfl, Below.onto hBx h2⟩
    · rw [hp, Bool.true_and] at ho
      go_wp2_with fail
      refine (is_any a d n n cap dc p _).mono ?_
      rintro e w2 ⟨rfl, h2⟩
      rw [hp]
      obtain ⟨g1, g2⟩ := hPx.below h2
      go_wp2_with fail
      refine (is_any a d n n cap dc q _).mono ?_
      rintro e w3 ⟨rfl, h3⟩
      rw [ho]
      go_wp2_with fail
      go_ret2
      exact ⟨rfl, Below.onto (Below.onto hBx h2) h3⟩

set_option maxRecDepth 100000 in
set_option maxHeartbeats 1000000 in
theorem ask_joins (a : Option Addr) (n cap : Nat) (z : Nat → Int) (p q : Nat) (w : World) (hn : n < 9223372036854775807) (hc : Cells w .u64 a n z) (hz : Bds n z) (hk : polE n z = 0) (hp : p < n) (hq : q < n) :
    Calls Try.prog 25 #[.slice a n cap, .int .i64 p, .int .i64 q, .func (.func 22) #[] #[]] w fun e w' => e = .returned (.tuple #[.int .u64 (jn n z p q), .int .i64 0]) ∧ Below w.heap.size w w' := by
  have hrd := read_un a n cap z w hn hc hz
  have hP := pol_of hz hk
  have HC : Hid (Cells w .u64 a n z) := hc
  have HP : Hid (Pol n z) := hP
  have hn16 := hP.le
  clear hc hz hP
  go_enter Try.func25, Try.ntmps25
  go_wp2_with fail
  refine hrd.mono ?_
  rintro e w1 ⟨hb, ⟨hk', _⟩ | ⟨_, d, dc, rfl, hd⟩⟩
  · exact absurd hk hk'
  · clear hrd hk
    have HD : Hid (Cells w1 .u64 d n (turnTo z n)) := hd
    have hBx := hb.alloc hb.size (.cells #[.slice a n cap, .slice d n dc] 51)
    have hPx := pbox_new w1 (.slice a n cap) (.slice d n dc) 51
    have hB1 : Below w1.heap.size w1 (w1.alloc (.cells #[.slice a n cap, .slice d n dc] 51)) := (Below.refl _ w1).alloc (Nat.le_refl _) _
    have ip : isB n (p : Int) = true := by rw [isB_nat]; simp [hp]
    have iq : isB n (q : Int) = true := by rw [isB_nat]; simp [hq]
    clear hd
    go_wp2_with fail
    refine (is_any a d n n cap dc p _).mono ?_
    rintro e w2 ⟨rfl, h2⟩
    rw [ip]
    have hP2 := hPx.below h2
    have HP2 : Hid (PBox w2 w1.heap.size (.slice a n cap) (.slice d n dc)) := hP2
    obtain ⟨g1, g2⟩ := hP2
    go_wp2_with fail
    refine (is_any a d n n cap dc q _).mono ?_
    rintro e w3 ⟨rfl, h3⟩
    rw [iq]
    obtain ⟨k1, k2⟩ := HP2.out.below h3
    have hB3 : Below w.heap.size w w3 := Below.onto (Below.onto hBx h2) h3
    have HB13 : Hid (Below w1.heap.size w1 w3) := Below.onto (Below.onto hB1 h2) h3
    clear g1 g2 hPx
    go_wp2_with fail
    refine (pjoins_at a d n cap dc z p q _ hp hq (HC.out.below hB3) HP.out.bds (fun i j hi ht => HP.out.lt hi ht)).mono ?_
    rintro e w4 ⟨rfl, h4⟩
    go_wp2_with fail
    go_ret2
    exact ⟨rfl, Below.onto hB3 h4⟩
set_option maxRecDepth 100000 in
set_option maxHeartbeats 1000000 in
theorem ask_meets (a : Option Addr) (n cap : Nat) (z : Nat → Int) (p q : Nat) (w : World) (hn : n < 9223372036854775807) (hc : Cells w .u64 a n z) (hz : Bds n z) (hk : polE n z = 0) (hp : p < n) (hq : q < n) :
    Calls Try.prog 25 #[.slice a n cap, .int .i64 p, .int .i64 q, .func (.func 23) #[] #[]] w fun e w' => e = .returned (.tuple #[.int .u64 (mt n z p q), .int .i64 0]) ∧ Below w.heap.size w w' := by
  have hrd := read_un a n cap z w hn hc hz
  have hP := pol_of hz hk
  have HC : Hid (Cells w .u64 a n z) := hc
  have HP : Hid (Pol n z) := hP
  have hn16 := hP.le
  clear hc hz hP
  go_enter Try.func25, Try.ntmps25
  go_wp2_with fail
  refine hrd.mono ?_
  rintro e w1 ⟨hb, ⟨hk', _⟩ | ⟨_, d, dc, rfl, hd⟩⟩
  · exact absurd hk hk'
  · clear hrd hk
    have HD : Hid (Cells w1 .u64 d n (turnTo z n)) := hd
    have hBx := hb.alloc hb.size (.cells #[.slice a n cap, .slice d n dc] 51)
    have hPx := pbox_new w1 (.slice a n cap) (.slice d n dc) 51
    have hB1 : Below w1.heap.size w1 (w1.alloc (.cells #[.slice a n cap, .slice d n dc] 51)) := (Below.refl _ w1).alloc (Nat.le_refl _) _
    have ip : isB n (p : Int) = true := by rw [isB_nat]; simp [hp]
    have iq : isB n (q : Int) = true := by rw [isB_nat]; simp [hq]
    clear hd
    go_wp2_with fail
    refine (is_any a d n n cap dc p _).mono ?_
    rintro e w2 ⟨rfl, h2⟩
    rw [ip]
    have hP2 := hPx.below h2
    have HP2 : Hid (PBox w2 w1.heap.size (.slice a n cap) (.slice d n dc)) := hP2
    obtain ⟨g1, g2⟩ := hP2
    go_wp2_with fail
    refine (is_any a d n n cap dc q _).mono ?_
    rintro e w3 ⟨rfl, h3⟩
    rw [iq]
    obtain ⟨k1, k2⟩ := HP2.out.below h3
    have hB3 : Below w.heap.size w w3 := Below.onto (Below.onto hBx h2) h3
    have HB13 : Hid (Below w1.heap.size w1 w3) := Below.onto (Below.onto hB1 h2) h3
    clear g1 g2 hPx
    go_wp2_with fail
    refine (pmeets_at a d n cap dc (turnTo z n) p q _ hp hq (HD.out.below HB13.out) HP.out.turn.bds (fun i j hi ht => HP.out.turn.lt hi ht)).mono ?_
    rintro e w4 ⟨rfl, h4⟩
    go_wp2_with fail
    go_ret2
    exact ⟨rfl, Below.onto hB3 h4⟩

/-- the joins, or nothing with an error -/
def jnV (n : Nat) (z : Nat → Int) (p q : Int) : Int := if askE n z p q = 0 then jn n z p.toNat q.toNat else 0
def mtV (n : Nat) (z : Nat → Int) (p q : Int) : Int := if askE n z p q = 0 then mt n z p.toNat q.toNat else 0
theorem askE_cases (n : Nat) (z : Nat → Int) (p q : Int) : (polE n z ≠ 0 ∧ askE n z p q = polE n z) ∨ (polE n z = 0 ∧ (isB n p && isB n q) = false ∧ askE n z p q = 5) ∨ (polE n z = 0 ∧ askE n z p q = 0 ∧ ∃ a b : Nat, p = a ∧ q = b ∧ a < n ∧ b < n) := by
  by_cases h : polE n z = 0
  · cases hb : isB n p && isB n q
    · exact .inr (.inl ⟨h, rfl, by simp [askE, h, hb]⟩)
    · rw [Bool.and_eq_true] at hb
      obtain ⟨a, ha, ha'⟩ := isB_true hb.1
      obtain ⟨b, hb1, hb'⟩ := isB_true hb.2
      exact .inr (.inr ⟨h, by simp [askE, h, hb.1, hb.2], a, b, ha, hb1, ha', hb'⟩)
  · exact .inl ⟨h, by simp [askE, h]⟩
set_option maxRecDepth 100000 in
set_option maxHeartbeats 1000000 in
theorem joins_un (a : Option Addr) (n cap : Nat) (z : Nat → Int) (p q : Int) (w : World) (hn : n < 9223372036854775807) (hc : Cells w .u64 a n z) (hz : Bds n z) :
    Calls Try.prog 13 #[.slice a n cap, .int .i64 p, .int .i64 q] w fun e w' => e = .returned (.tuple #[.int .u64 (jnV n z p q), .int .i64 (askE n z p q)]) ∧ Below w.heap.size w w' := by
  have key : Calls Try.prog 25 #[.slice a n cap, .int .i64 p, .int .i64 q, .func (.func 22) #[] #[]] w fun e w' => e = .returned (.tuple #[.int .u64 (jnV n z p q), .int .i64 (askE n z p q)]) ∧ Below w.heap.size w w' := by
    rcases askE_cases n z p q with ⟨h1, h2⟩ | ⟨h1, h2, h3⟩ | ⟨h1, h2, x, y, rfl, rfl, hx, hy⟩
    · have e : jnV n z p q = 0 := by simp [jnV, h2, h1]
      rw [e, h2]
      exact ask_bad _ a n cap z p q w hn hc hz h1
    · have e : jnV n z p q = 0 := by simp [jnV, h3]
      rw [e, h3]
      exact ask_out _ a n cap z p q w hn hc hz h1 h2
    · have e : jnV n z (x : Int) (y : Int) = jn n z x y := by simp [jnV, h2]
      rw [e, h2]
      exact ask_joins a n cap z x y w hn hc hz h1 hx hy
  clear hc hz
  generalize jnV n z p q = v at *
  generalize askE n z p q = c at *
  go_enter Try.func13, Try.ntmps13
  go_wp2_with fail
  refine key.mono ?_
  rintro e w1 ⟨rfl, h1⟩
  go_wp2_with fail
  go_ret2
  exact ⟨rfl, h1⟩
set_option maxRecDepth 100000 in
set_option maxHeartbeats 1000000 in
theorem meets_un (a : Option Addr) (n cap : Nat) (z : Nat → Int) (p q : Int) (w : World) (hn : n < 9223372036854775807) (hc : Cells w .u64 a n z) (hz : Bds n z) :
    Calls Try.prog 14 #[.slice a n cap, .int .i64 p, .int .i64 q] w fun e w' => e = .returned (.tuple #[.int .u64 (mtV n z p q), .int .i64 (askE n z p q)]) ∧ Below w.heap.size w w' := by
  have key : Calls Try.prog 25 #[.slice a n cap, .int .i64 p, .int .i64 q, .func (.func 23) #[] #[]] w fun e w' => e = .returned (.tuple #[.int .u64 (mtV n z p q), .int .i64 (askE n z p q)]) ∧ Below w.heap.size w w' := by
    rcases askE_cases n z p q with ⟨h1, h2⟩ | ⟨h1, h2, h3⟩ | ⟨h1, h2, x, y, rfl, rfl, hx, hy⟩
    · have e : mtV n z p q = 0 := by simp [mtV, h2, h1]
      rw [e, h2]
      exact ask_bad _ a n cap z p q w hn hc hz h1
    · have e : mtV n z p q = 0 := by simp [mtV, h3]
      rw [e, h3]
      exact ask_out _ a n cap z p q w hn hc hz h1 h2
    · have e : mtV n z (x : Int) (y : Int) = mt n z x y := by simp [mtV, h2]
      rw [e, h2]
      exact ask_meets a n cap z x y w hn hc hz h1 hx hy
  clear hc hz
  generalize mtV n z p q = v at *
  generalize askE n z p q = c at *
  go_enter Try.func14, Try.ntmps14
  go_wp2_with fail
  refine key.mono ?_
  rintro e w1 ⟨rfl, h1⟩
  go_wp2_with fail
  go_ret2
  exact ⟨rfl, h1⟩

end Go.Proofs.Ytcfpfddbbhphgab
