/- In a lattice joins may be taken in any order; absorption; the statements' join and meet. -/
import Derived.Test.YtcfpfddbbhphgabLJoin
import Derived.Test.YtcfpfddbbhphgabLLat
import Derived.Test.YtcfpfddbbhphgabRef
namespace Go.Proofs.Ytcfpfddbbhphgab
open Go.RowKit Go.Shelf

/-- two labels flow to one another -/
def Eql (z : Nat → Int) (x y : Nat) : Prop := tb (z x) y = true ∧ tb (z y) x = true
theorem alg_assoc {n : Nat} {z : Nat → Int} (hP : Pol n z) {a b c x1 x y1 y : Nat} (ha : a < n) (hb : b < n) (hc : c < n) (h1 : IsJoin n z a b x1) (h2 : IsJoin n z x1 c x) (h3 : IsJoin n z b c y1) (h4 : IsJoin n z a y1 y) : Eql z x y := by
  obtain ⟨x1n, ax1, bx1, lx1⟩ := h1
  obtain ⟨xn, x1x, cx, lx⟩ := h2
  obtain ⟨y1n, by1, cy1, ly1⟩ := h3
  obtain ⟨yn, ay, y1y, ly⟩ := h4
  constructor
  · exact lx y (lx1 y ay (hP.trans hb by1 y1y)) (hP.trans hc cy1 y1y)
  · exact ly x (hP.trans ha ax1 x1x) (ly1 x (hP.trans hb bx1 x1x) cx)
theorem alg_jm {n : Nat} {z : Nat → Int} (hP : Pol n z) {a b m x : Nat} (ha : a < n) (h1 : IsJoin n (turnTo z n) a b m) (h2 : IsJoin n z a m x) : Eql z x a := by
  have hn := hP.le
  obtain ⟨mn, am, _, _⟩ := h1
  obtain ⟨xn, ax, _, lx⟩ := h2
  exact ⟨lx a (hP.refl ha) ((tb_dn z (by omega) m).1 am).2, ax⟩
theorem alg_mj {n : Nat} {z : Nat → Int} (hP : Pol n z) {a b j x : Nat} (ha : a < n) (h1 : IsJoin n z a b j) (h2 : IsJoin n (turnTo z n) a j x) : Eql z x a := by
  have hn := hP.le
  obtain ⟨jn', aj, _, _⟩ := h1
  obtain ⟨xn, ax, _, lx⟩ := h2
  exact ⟨((tb_dn z (by omega) x).1 ax).2, ((tb_dn z (by omega) a).1 (lx a ((tb_dn z (by omega) a).2 ⟨ha, hP.refl ha⟩) ((tb_dn z (by omega) a).2 ⟨ha, aj⟩))).2⟩
theorem nth_first {s : Int} (h : s ≠ 0) (h0 : 0 ≤ s) (h1 : s < 18446744073709551616) : ∃ c : Nat, nthB s 0 = true ∧ nthI s 0 = (c : Int) ∧ tb s c = true ∧ c < 64 := by
  have hne : mems s ≠ [] := fun e => h ((tb_eq_zero h0).2 fun j => by
    cases ht : tb s j
    · rfl
    · have : j ∈ mems s := mem_mems.2 ⟨in_64 h1 ht, ht⟩
      rw [e] at this; simp at this)
  obtain ⟨c, l, e⟩ : ∃ c l, mems s = c :: l := by
    cases hl : mems s with
    | nil => exact absurd hl hne
    | cons c l => exact ⟨c, l, rfl⟩
  have hm : c ∈ mems s := by rw [e]; simp
  have hb : nthB s 0 = true := by simp [nthB, e]
  refine ⟨c, hb, ?_, (mem_mems.1 hm).2, (mem_mems.1 hm).1⟩
  simp [nthI, hb, memAt, e]

set_option maxRecDepth 100000 in
set_option maxHeartbeats 1000000 in
theorem join_at (a : Option Addr) (n cap : Nat) (z : Nat → Int) (p q : Nat) (w : World) (hp : p < n) (hq : q < n) (hc : Cells w .u64 a n z) (hP : Pol n z) (hj : jn n z p q ≠ 0) :
    Calls Try.prog 9 #[.slice a n cap, .int .i64 p, .int .i64 q] w fun e w' => ∃ c : Nat, e = .returned (.int .i64 c) ∧ IsJoin n z p q c ∧ c < n ∧ Below w.heap.size w w' := by
  have hn := hP.le
  have h1 := joins_un a n cap z p q w (by omega) hc hP.bds
  have hk : askE n z p q = 0 := by
    have i1 : isB n (p : Int) = true := by rw [isB_nat]; simp [hp]
    have i2 : isB n (q : Int) = true := by rw [isB_nat]; simp [hq]
    simp [askE, hP.ok, i1, i2]
  have e : jnV n z p q = jn n z p q := by simp [jnV, hk]
  rw [e, hk] at h1
  have J0 := jn_nonneg n z p q
  have J1 := jn_lt (by omega) z p q (n := n)
  obtain ⟨c, hb, hi, ht, _⟩ := nth_first hj J0 J1
  have HI : Hid (IsJoin n z p q c) := (tb_jn hP.bds hp c).1 ht
  have hcn := HI.out.1
  have h2 := fun w => rnth_any (jn n z p q) 0 w J0 J1
  rw [hb, hi] at h2
  generalize jn n z p q = J at *
  clear e hc hP hj hk hb hi ht
  go_enter Try.func9, Try.ntmps9
  go_wp2_with fail
  refine h1.mono ?_
  rintro e w1 ⟨rfl, b1⟩
  clear h1
  go_wp2_with fail
  refine (h2 _).mono ?_
  rintro e w2 ⟨rfl, b2⟩
  have hb2 := Below.onto b1 b2
  go_wp2_with fail
  go_ret
  exact ⟨c, rfl, HI.out, hcn, hb2⟩
set_option maxRecDepth 100000 in
set_option maxHeartbeats 1000000 in
theorem meet_at (a : Option Addr) (n cap : Nat) (z : Nat → Int) (p q : Nat) (w : World) (hp : p < n) (hq : q < n) (hc : Cells w .u64 a n z) (hP : Pol n z) (hj : mt n z p q ≠ 0) :
    Calls Try.prog 10 #[.slice a n cap, .int .i64 p, .int .i64 q] w fun e w' => ∃ c : Nat, e = .returned (.int .i64 c) ∧ IsJoin n (turnTo z n) p q c ∧ c < n ∧ Below w.heap.size w w' := by
  have hn := hP.le
  have h1 := meets_un a n cap z p q w (by omega) hc hP.bds
  have hk : askE n z p q = 0 := by
    have i1 : isB n (p : Int) = true := by rw [isB_nat]; simp [hp]
    have i2 : isB n (q : Int) = true := by rw [isB_nat]; simp [hq]
    simp [askE, hP.ok, i1, i2]
  have e : mtV n z p q = mt n z p q := by simp [mtV, hk]
  rw [e, hk] at h1
  have J0 : 0 ≤ mt n z p q := jn_nonneg n _ p q
  have J1 : mt n z p q < 18446744073709551616 := jn_lt (by omega) _ p q
  obtain ⟨c, hb, hi, ht, _⟩ := nth_first hj J0 J1
  have HI : Hid (IsJoin n (turnTo z n) p q c) := (tb_jn hP.turn.bds hp c).1 ht
  have hcn := HI.out.1
  have h2 := fun w => rnth_any (mt n z p q) 0 w J0 J1
  rw [hb, hi] at h2
  generalize mt n z p q = J at *
  clear e hc hP hj hk hb hi ht
  go_enter Try.func10, Try.ntmps10
  go_wp2_with fail
  refine h1.mono ?_
  rintro e w1 ⟨rfl, b1⟩
  clear h1
  go_wp2_with fail
  refine (h2 _).mono ?_
  rintro e w2 ⟨rfl, b2⟩
  have hb2 := Below.onto b1 b2
  go_wp2_with fail
  go_ret
  exact ⟨c, rfl, HI.out, hcn, hb2⟩

set_option maxHeartbeats 400000 in
theorem requal2_at (a : Option Addr) (n cap : Nat) (z : Nat → Int) (x y : Nat) (w : World) (hx : x < n) (hy : y < n) (hn : n ≤ 64) (hc : Cells w .u64 a n z) (hz : Bds n z) (he : Eql z x y) :
    Calls Try.prog 11 #[.slice a n cap, .int .i64 x, .int .i64 y] w fun e w' => e = .returned (.bool true) ∧ Below w.heap.size w w' := by
  obtain ⟨x0, x1⟩ := hz x hx
  obtain ⟨y0, y1⟩ := hz y hy
  obtain ⟨b1, o1, rfl, hcx⟩ := hc x hx
  obtain ⟨b2, o2, e2, hcy⟩ := hc y hy
  cases e2
  have hh := fun w => rhas_at (z x) y w x0 x1 (by omega) true he.1
  have hg := fun w => rhas_at (z y) x w y0 y1 (by omega) true he.2
  clear hc hz he
  go_enter Try.func11, Try.ntmps11
  go_wp2_with fail
  refine (hh _).mono ?_
  rintro e w1 ⟨rfl, e1⟩
  subst e1
  go_wp2_with fail
  refine (hg _).mono ?_
  rintro e w1 ⟨rfl, e1⟩
  subst e1
  go_wp2_with fail
  go_ret
  exact ⟨rfl, Below.refl _ _⟩
theorem lat_has {n : Nat} {z : Nat → Int} {x y : Nat} (h : LatIs n z x y true) {a b : Nat} (ha : a < n) (hb : b < n) : jn n z a b ≠ 0 ∧ mt n z a b ≠ 0 := by
  rcases h with ⟨_, _, _, h⟩ | ⟨h, _⟩
  · have := h a b ha hb
    unfold badB at this
    rw [Bool.or_eq_false_iff] at this
    exact ⟨by simpa using this.1, by simpa using this.2⟩
  · cases h

end Go.Proofs.Ytcfpfddbbhphgab
