/- The document's own answers of layer 2: asked, Joins, Meets. -/
import Derived.Test.YtcfpfddbbhphgaaLRefB
import Derived.Test.YtcfpfddbbhphgaaLJoin
namespace Go.Proofs.Ytcfpfddbbhphgaa
open Go.RowKit Go.Shelf

theorem labB_isB (n : Nat) (a : Int) : labB n a = isB n a := rfl
set_option maxHeartbeats 1000000 in
theorem rasked_un (a : Option Addr) (n cap : Nat) (z : Nat → Int) (p q : Int) (w : World) (hn : n < 9223372036854775807) (hc : Cells w .u64 a n z) (hz : Bds n z) :
    Calls Try.prog 42 #[.slice a n cap, .int .i64 p, .int .i64 q] w fun e w' => e = .returned (.int .i64 (askE n z p q)) ∧ Below w.heap.size w w' := by
  have hch := rcheck2_un a n cap z w hn hc hz
  clear hc hz
  by_cases h1 : polE n z = 0
  · rw [h1] at hch
    cases hp : isB n p
    · have e : askE n z p q = 5 := by simp [askE, h1, hp]
      rw [e]
      clear e h1
      go_enter Try.func42, Try.ntmps42
      go_wp2_with fail
      refine hch.mono ?_
      rintro e w1 ⟨rfl, hb⟩
      go_wp2_with fail
      refine (rlabel_any a n cap p _).mono ?_
      rintro e w2 ⟨rfl, e2⟩
      subst e2
      rw [labB_isB, hp]
      go_wp2_with fail
      go_ret
      exact ⟨rfl, hb⟩
    · cases hq : isB n q
      · have e : askE n z p q = 5 := by simp [askE, h1, hq]
        rw [e]
        clear e h1
        go_enter Try.func42, Try.ntmps42
        go_wp2_with fail
        refine hch.mono ?_
        rintro e w1 ⟨rfl, hb⟩
        go_wp2_with fail
        refine (rlabel_any a n cap p _).mono ?_
        rintro e w2 ⟨rfl, e2⟩
        subst e2
        rw [labB_isB, hp]
        go_wp2_with fail
        refine (rlabel_any a n cap q _).mono ?_
        rintro e w3 ⟨rfl, e3⟩
        subst e3
        rw [labB_isB, hq]
        go_wp2_with fail
        go_ret
        exact ⟨rfl, hb⟩
      · have e : askE n z p q = 0 := by simp [askE, h1, hp, hq]
        rw [e]
        clear e h1
        go_enter Try.func42, Try.ntmps42
        go_wp2_with fail
        refine hch.mono ?_
        rintro e w1 ⟨rfl, hb⟩
        go_wp2_with fail
        refine (rlabel_any a n cap p _).mono ?_
        rintro e w2 ⟨rfl, e2⟩
        subst e2
        rw [labB_isB, hp]
        go_wp2_with fail
        refine (rlabel_any a n cap q _).mono ?_
        rintro e w3 ⟨rfl, e3⟩
        subst e3
        rw [labB_isB, hq]
        go_wp2_with fail
        go_ret
        exact ⟨rfl, hb⟩
  · have e : askE n z p q = polE n z := by simp [askE, h1]
    rw [e]
    have hne : (polE n z == 0) = false := by simp [h1]
    generalize polE n z = c at *
    clear e h1
    go_enter Try.func42, Try.ntmps42
    go_wp2_with fail
    refine hch.mono ?_
    rintro e w1 ⟨rfl, hb⟩
    go_wp2_with fail
    go_ret
    exact ⟨rfl, hb⟩

set_option maxRecDepth 100000 in
set_option maxHeartbeats 1000000 in
theorem rjoins_un (a : Option Addr) (n cap : Nat) (z : Nat → Int) (p q : Int) (w : World) (hn : n < 9223372036854775807) (hc : Cells w .u64 a n z) (hz : Bds n z) :
    Calls Try.prog 19 #[.slice a n cap, .int .i64 p, .int .i64 q] w fun e w' => e = .returned (.tuple #[.int .u64 (jnV n z p q), .int .i64 (askE n z p q)]) ∧ Below w.heap.size w w' := by
  have has := rasked_un a n cap z p q w hn hc hz
  by_cases h0 : askE n z p q = 0
  · obtain ⟨hk, x, y, rfl, rfl, hx, hy⟩ : polE n z = 0 ∧ ∃ x y : Nat, p = x ∧ q = y ∧ x < n ∧ y < n := by
      rcases askE_cases n z p q with ⟨h1, h2⟩ | ⟨h1, h2, h3⟩ | ⟨h1, h2, x, y, h3⟩
      · exact absurd (h2.symm.trans h0) h1
      · rw [h3] at h0; cases h0
      · exact ⟨h1, x, y, h3⟩
    have hP := pol_of hz hk
    have hn16 := hP.le
    have e : jnV n z (x : Int) (y : Int) = jn n z x y := by simp [jnV, h0]
    rw [e, h0]
    rw [h0] at has
    have HC : Hid (Cells w .u64 a n z) := hc
    have HP : Hid (Pol n z) := hP
    clear e h0 hz hk hP hc
    go_enter Try.func19, Try.ntmps19
    go_wp2_with fail
    refine has.mono ?_
    rintro e w1 ⟨rfl, hb⟩
    clear has
    go_wp2_with fail
    refine (rjoins_at a n cap z x y _ hx hy (by omega) (HC.out.below hb) HP.out.bds).mono ?_
    rintro e w2 ⟨rfl, hb2⟩
    go_wp2_with fail
    go_ret2
    exact ⟨rfl, Below.onto hb hb2⟩
  · have e : jnV n z p q = 0 := by simp [jnV, h0]
    rw [e]
    have hne : (askE n z p q != 0) = true := by simp [h0]
    generalize askE n z p q = c at *
    clear e h0 hz hc
    go_enter Try.func19, Try.ntmps19
    go_wp2_with fail
    refine has.mono ?_
    rintro e w1 ⟨rfl, hb⟩
    go_wp2_with fail
    go_ret2
    exact ⟨rfl, hb⟩
set_option maxRecDepth 100000 in
set_option maxHeartbeats 1000000 in
theorem rmeets_un (a : Option Addr) (n cap : Nat) (z : Nat → Int) (p q : Int) (w : World) (hn : n < 9223372036854775807) (hc : Cells w .u64 a n z) (hz : Bds n z) :
    Calls Try.prog 21 #[.slice a n cap, .int .i64 p, .int .i64 q] w fun e w' => e = .returned (.tuple #[.int .u64 (mtV n z p q), .int .i64 (askE n z p q)]) ∧ Below w.heap.size w w' := by
  have has := rasked_un a n cap z p q w hn hc hz
  by_cases h0 : askE n z p q = 0
  · obtain ⟨hk, x, y, rfl, rfl, hx, hy⟩ : polE n z = 0 ∧ ∃ x y : Nat, p = x ∧ q = y ∧ x < n ∧ y < n := by
      rcases askE_cases n z p q with ⟨h1, h2⟩ | ⟨h1, h2, h3⟩ | ⟨h1, h2, x, y, h3⟩
      · exact absurd (h2.symm.trans h0) h1
      · rw [h3] at h0; cases h0
      · exact ⟨h1, x, y, h3⟩
    have hP := pol_of hz hk
    have hn16 := hP.le
    have e : mtV n z (x : Int) (y : Int) = mt n z x y := by simp [mtV, h0]
    rw [e, h0]
    rw [h0] at has
    have HC : Hid (Cells w .u64 a n z) := hc
    have HP : Hid (Pol n z) := hP
    clear e h0 hz hk hP hc
    go_enter Try.func21, Try.ntmps21
    go_wp2_with fail
    refine has.mono ?_
    rintro e w1 ⟨rfl, hb⟩
    clear has
    go_wp2_with fail
    refine (rmeets_at a n cap z x y _ hx hy (HC.out.below hb) HP.out).mono ?_
    rintro e w2 ⟨rfl, hb2⟩
    go_wp2_with fail
    go_ret2
    exact ⟨rfl, Below.onto hb hb2⟩
  · have e : mtV n z p q = 0 := by simp [mtV, h0]
    rw [e]
    have hne : (askE n z p q != 0) = true := by simp [h0]
    generalize askE n z p q = c at *
    clear e h0 hz hc
    go_enter Try.func21, Try.ntmps21
    go_wp2_with fail
    refine has.mono ?_
    rintro e w1 ⟨rfl, hb⟩
    go_wp2_with fail
    go_ret2
    exact ⟨rfl, hb⟩

end Go.Proofs.Ytcfpfddbbhphgaa
