/- lattice.Flows, and the document's own. -/
import Derived.Test.YtcfpfddbbhphgaaLRefC
namespace Go.Proofs.Ytcfpfddbbhphgaa
open Go.RowKit Go.Shelf

set_option maxRecDepth 100000 in
set_option maxHeartbeats 1000000 in
theorem askb_bad (what : Value) (a : Option Addr) (n cap : Nat) (z : Nat → Int) (p q : Int) (w : World) (hn : n < 9223372036854775807) (hc : Cells w .u64 a n z) (hz : Bds n z) (hk : polE n z ≠ 0) :
    Calls Try.prog 40 #[.slice a n cap, .int .i64 p, .int .i64 q, what] w fun e w' => e = .returned (.tuple #[.bool false, .int .i64 (polE n z)]) ∧ Below w.heap.size w w' := by
  have hrd := read_un a n cap z w hn hc hz
  have hne : (polE n z != 0) = true := by simp [hk]
  clear hc hz
  go_enter Try.func40, Try.ntmps40
  go_wp2_with fail
  refine hrd.mono ?_
  rintro e w1 ⟨hb, ⟨_, rfl⟩ | ⟨h0, _⟩⟩
  · go_wp2_with fail
    go_ret2
    exact ⟨rfl, hb.alloc hb.size _⟩
  · exact absurd h0 hk
set_option maxRecDepth 100000 in
set_option maxHeartbeats 1000000 in
theorem askb_out (what : Value) (a : Option Addr) (n cap : Nat) (z : Nat → Int) (p q : Int) (w : World) (hn : n < 9223372036854775807) (hc : Cells w .u64 a n z) (hz : Bds n z) (hk : polE n z = 0) (ho : (isB n p && isB n q) = false) :
    Calls Try.prog 40 #[.slice a n cap, .int .i64 p, .int .i64 q, what] w fun e w' => e = .returned (.tuple #[.bool false, .int .i64 5]) ∧ Below w.heap.size w w' := by
  have hrd := read_un a n cap z w hn hc hz
  clear hc hz
  go_enter Try.func40, Try.ntmps40
  go_wp2_with fail
  refine hrd.mono ?_
  rintro e w1 ⟨hb, ⟨hk', _⟩ | ⟨_, d, dc, rfl, hd⟩⟩
  · exact absurd hk hk'
  · clear hd hrd
    have hBx := hb.alloc hb.size (.cells #[.slice a n cap, .slice d n dc] 62)
    have hPx := pbox_new w1 (.slice a n cap) (.slice d n dc) 62
    cases hp : isB n p
    · go_wp2_with fail
      refine (is_any a d n n cap dc p _).mono ?_
      rintro e w2 ⟨rfl, h2⟩
      rw [hp]
      go_wp2_with fail
      go_ret2
      exact ⟨rfl, Below.onto hBx h2⟩
    · rw [hp, Bool.true_and] at ho
      go_wp2_with fail
      refine (is_any a d n n cap dc p _).mono ?_
      rintro e w2 ⟨rfl, h2⟩
      rw [hp]
      obtain ⟨g1, g2⟩ := hPx.below h2
      go_wp2_with fail
      refine (is_any a d n n cap dc q _).mono ?_
      rintro e w3 ⟨rfl, h3⟩
      rw [ho]
      go_wp2_with fail
      go_ret2
      exact ⟨rfl, Below.onto (Below.onto hBx h2) h3⟩

set_option maxRecDepth 100000 in
set_option maxHeartbeats 1000000 in
theorem askb_flows (a : Option Addr) (n cap : Nat) (z : Nat → Int) (p q : Nat) (w : World) (hn : n < 9223372036854775807) (hc : Cells w .u64 a n z) (hz : Bds n z) (hk : polE n z = 0) (hp : p < n) (hq : q < n) :
    Calls Try.prog 40 #[.slice a n cap, .int .i64 p, .int .i64 q, .func (.func 41) #[] #[]] w fun e w' => e = .returned (.tuple #[.bool (tb (z p) q), .int .i64 0]) ∧ Below w.heap.size w w' := by
  have hrd := read_un a n cap z w hn hc hz
  have hP := pol_of hz hk
  have HC : Hid (Cells w .u64 a n z) := hc
  have HP : Hid (Pol n z) := hP
  have hn16 := hP.le
  have hfl := fun d dc w' h => flows_at a d n n cap dc z p (q : Int) w' hp h hP.bds
  have hfe : hasB (z p) (q : Int) = tb (z p) q := by rw [hasB_of (by omega) (by omega), Int.toNat_natCast]
  rw [hfe] at hfl
  clear hc hz hP
  go_enter Try.func40, Try.ntmps40
  go_wp2_with fail
  refine hrd.mono ?_
  rintro e w1 ⟨hb, ⟨hk', _⟩ | ⟨_, d, dc, rfl, hd⟩⟩
  · exact absurd hk hk'
  · clear hrd hk
    have HD : Hid (Cells w1 .u64 d n (turnTo z n)) := hd
    have hBx := hb.alloc hb.size (.cells #[.slice a n cap, .slice d n dc] 62)
    have hPx := pbox_new w1 (.slice a n cap) (.slice d n dc) 62
    have hB1 : Below w1.heap.size w1 (w1.alloc (.cells #[.slice a n cap, .slice d n dc] 62)) := (Below.refl _ w1).alloc (Nat.le_refl _) _
    have ip : isB n (p : Int) = true := by rw [isB_nat]; simp [hp]
    have iq : isB n (q : Int) = true := by rw [isB_nat]; simp [hq]
    clear hd
    go_wp2_with fail
    refine (is_any a d n n cap dc p _).mono ?_
    rintro e w2 ⟨rfl, h2⟩
    rw [ip]
    have hP2 := hPx.below h2
    have HP2 : Hid (PBox w2 w1.heap.size (.slice a n cap) (.slice d n dc)) := hP2
    obtain ⟨g1, g2⟩ := hP2
    go_wp2_with fail
    refine (is_any a d n n cap dc q _).mono ?_
    rintro e w3 ⟨rfl, h3⟩
    rw [iq]
    obtain ⟨k1, k2⟩ := HP2.out.below h3
    have hB3 : Below w.heap.size w w3 := Below.onto (Below.onto hBx h2) h3
    have HB13 : Hid (Below w1.heap.size w1 w3) := Below.onto (Below.onto hB1 h2) h3
    clear g1 g2 hPx
    go_wp2_with fail
    refine (hfl d dc _ (HC.out.below hB3)).mono ?_
    rintro e w4 ⟨rfl, h4⟩
    go_wp2_with fail
    go_ret2
    exact ⟨rfl, Below.onto hB3 h4⟩

/-- does p flow to q? or nothing with an error -/
def flV (n : Nat) (z : Nat → Int) (p q : Int) : Bool := if askE n z p q = 0 then tb (z p.toNat) q.toNat else false
set_option maxRecDepth 100000 in
set_option maxHeartbeats 1000000 in
theorem flows_un (a : Option Addr) (n cap : Nat) (z : Nat → Int) (p q : Int) (w : World) (hn : n < 9223372036854775807) (hc : Cells w .u64 a n z) (hz : Bds n z) :
    Calls Try.prog 12 #[.slice a n cap, .int .i64 p, .int .i64 q] w fun e w' => e = .returned (.tuple #[.bool (flV n z p q), .int .i64 (askE n z p q)]) ∧ Below w.heap.size w w' := by
  have key : Calls Try.prog 40 #[.slice a n cap, .int .i64 p, .int .i64 q, .func (.func 41) #[] #[]] w fun e w' => e = .returned (.tuple #[.bool (flV n z p q), .int .i64 (askE n z p q)]) ∧ Below w.heap.size w w' := by
    rcases askE_cases n z p q with ⟨h1, h2⟩ | ⟨h1, h2, h3⟩ | ⟨h1, h2, x, y, rfl, rfl, hx, hy⟩
    · have e : flV n z p q = false := by simp [flV, h2, h1]
      rw [e, h2]
      exact askb_bad _ a n cap z p q w hn hc hz h1
    · have e : flV n z p q = false := by simp [flV, h3]
      rw [e, h3]
      exact askb_out _ a n cap z p q w hn hc hz h1 h2
    · have e : flV n z (x : Int) (y : Int) = tb (z x) y := by simp [flV, h2]
      rw [e, h2]
      exact askb_flows a n cap z x y w hn hc hz h1 hx hy
  clear hc hz
  generalize flV n z p q = v at *
  generalize askE n z p q = c at *
  go_enter Try.func12, Try.ntmps12
  go_wp2_with fail
  refine key.mono ?_
  rintro e w1 ⟨rfl, h1⟩
  go_wp2_with fail
  go_ret2
  exact ⟨rfl, h1⟩

set_option maxRecDepth 100000 in
set_option maxHeartbeats 1000000 in
theorem rflows_un (a : Option Addr) (n cap : Nat) (z : Nat → Int) (p q : Int) (w : World) (hn : n < 9223372036854775807) (hc : Cells w .u64 a n z) (hz : Bds n z) :
    Calls Try.prog 13 #[.slice a n cap, .int .i64 p, .int .i64 q] w fun e w' => e = .returned (.tuple #[.bool (flV n z p q), .int .i64 (askE n z p q)]) ∧ Below w.heap.size w w' := by
  have has := rasked_un a n cap z p q w hn hc hz
  by_cases h0 : askE n z p q = 0
  · obtain ⟨hk, x, y, rfl, rfl, hx, hy⟩ : polE n z = 0 ∧ ∃ x y : Nat, p = x ∧ q = y ∧ x < n ∧ y < n := by
      rcases askE_cases n z p q with ⟨h1, h2⟩ | ⟨h1, h2, h3⟩ | ⟨h1, h2, x, y, h3⟩
      · exact absurd (h2.symm.trans h0) h1
      · rw [h3] at h0; cases h0
      · exact ⟨h1, x, y, h3⟩
    have hP := pol_of hz hk
    have hn16 := hP.le
    obtain ⟨x0, x1⟩ := hz x hx
    have e : flV n z (x : Int) (y : Int) = tb (z x) y := by simp [flV, h0]
    rw [e, h0]
    rw [h0] at has
    have HC : Hid (Cells w .u64 a n z) := hc
    have hh := fun w => rhas_yes (z x) y w (by omega) x0 x1
    clear e h0 hz hk hP hc
    go_enter Try.func13, Try.ntmps13
    go_wp2_with fail
    refine has.mono ?_
    rintro e w1 ⟨rfl, hb⟩
    clear has
    obtain ⟨b, off, rfl, hcell⟩ := HC.out.below hb x hx
    go_wp2_with fail
    refine (hh _).mono ?_
    rintro e w2 ⟨rfl, e2⟩
    subst e2
    go_wp2_with fail
    go_ret2
    exact ⟨rfl, hb⟩
  · have e : flV n z p q = false := by simp [flV, h0]
    rw [e]
    have hne : (askE n z p q != 0) = true := by simp [h0]
    generalize askE n z p q = c at *
    clear e h0 hz hc
    go_enter Try.func13, Try.ntmps13
    go_wp2_with fail
    refine has.mono ?_
    rintro e w1 ⟨rfl, hb⟩
    go_wp2_with fail
    go_ret2
    exact ⟨rfl, hb⟩

end Go.Proofs.Ytcfpfddbbhphgaa
