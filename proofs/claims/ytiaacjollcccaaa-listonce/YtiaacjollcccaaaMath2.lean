/- Plain facts: how many members a number of 64 bits has, reckoned by sums side by side. No program is named here. -/
import Derived.Test.YtiaacjollcccaaaMath
import Derived.Laws.Bits128
namespace Go.Proofs.Ytiaacjollcccaaa
open Go.RowKit

def M5 : Nat → Nat | 0 => 0 | n + 1 => 85 + 256 * M5 n
def M3 : Nat → Nat | 0 => 0 | n + 1 => 51 + 256 * M3 n
def MF : Nat → Nat | 0 => 0 | n + 1 => 15 + 256 * MF n
def g1 (c : Nat) : Nat := ((c / 2) &&& 85) + (c &&& 85)
def g2 (c : Nat) : Nat := ((c / 4) &&& 51) + (c &&& 51)
def f1 (n x : Nat) : Nat := ((x / 2) &&& M5 n) + (x &&& M5 n)
def f2 (n x : Nat) : Nat := ((x / 4) &&& M3 n) + (x &&& M3 n)
def f3 (n x : Nat) : Nat := (x / 16 + x) &&& MF n

theorem k1 : ∀ (c : Fin 256) (b : Fin 2), (c.val / 2 + 128 * b.val) &&& 85 = (c.val / 2) &&& 85 := by decide +kernel
theorem k2 : ∀ (c : Fin 256) (b : Fin 4), (c.val / 4 + 64 * b.val) &&& 51 = (c.val / 4) &&& 51 := by decide +kernel
theorem kg : ∀ c : Fin 256, g1 c.val < 256 ∧ g2 (g1 c.val) ≤ 68 ∧ g2 (g1 c.val) % 16 ≤ 4 ∧ g2 (g1 c.val) / 16 + g2 (g1 c.val) % 16 = pop 8 c.val := by decide +kernel

theorem f1_chunk (n c y : Nat) (hc : c < 256) : f1 (n + 1) (c + 256 * y) = g1 c + 256 * f1 n y := by
  unfold f1 g1
  have e : (c + 256 * y) / 2 = (c / 2 + 128 * (y % 2)) + 256 * (y / 2) := by omega
  have h := k1 ⟨c, hc⟩ ⟨y % 2, by omega⟩
  rw [e, M5, and_chunk _ _ _ _ (by omega) (by omega), and_chunk _ _ _ _ hc (by omega)]
  simp only at h
  omega
theorem f2_chunk (n c y : Nat) (hc : c < 256) : f2 (n + 1) (c + 256 * y) = g2 c + 256 * f2 n y := by
  unfold f2 g2
  have e : (c + 256 * y) / 4 = (c / 4 + 64 * (y % 4)) + 256 * (y / 4) := by omega
  have h := k2 ⟨c, hc⟩ ⟨y % 4, by omega⟩
  rw [e, M3, and_chunk _ _ _ _ (by omega) (by omega), and_chunk _ _ _ _ hc (by omega)]
  simp only at h
  omega
theorem f3_chunk (n c y : Nat) (hc : c ≤ 68) (h4 : c % 16 ≤ 4) (hy : y % 16 ≤ 4) : f3 (n + 1) (c + 256 * y) = (c / 16 + c % 16) + 256 * f3 n y := by
  unfold f3
  have e : (c + 256 * y) / 16 + (c + 256 * y) = (c / 16 + 16 * (y % 16) + c) + 256 * (y / 16 + y) := by omega
  rw [e, MF, and_chunk _ _ _ _ (by omega) (by omega)]
  have : (c / 16 + 16 * (y % 16) + c) &&& 15 = (c / 16 + 16 * (y % 16) + c) % 16 := Nat.and_two_pow_sub_one_eq_mod _ 4
  rw [this]
  omega

def join8 (a0 a1 a2 a3 a4 a5 a6 a7 : Nat) : Nat := a0 + 256 * (a1 + 256 * (a2 + 256 * (a3 + 256 * (a4 + 256 * (a5 + 256 * (a6 + 256 * (a7 + 256 * 0)))))))
theorem f1_join (a0 a1 a2 a3 a4 a5 a6 a7 : Nat) (h0 : a0 < 256) (h1 : a1 < 256) (h2 : a2 < 256) (h3 : a3 < 256) (h4 : a4 < 256) (h5 : a5 < 256) (h6 : a6 < 256) (h7 : a7 < 256) :
    f1 8 (join8 a0 a1 a2 a3 a4 a5 a6 a7) = join8 (g1 a0) (g1 a1) (g1 a2) (g1 a3) (g1 a4) (g1 a5) (g1 a6) (g1 a7) := by
  unfold join8
  rw [f1_chunk _ _ _ h0, f1_chunk _ _ _ h1, f1_chunk _ _ _ h2, f1_chunk _ _ _ h3, f1_chunk _ _ _ h4, f1_chunk _ _ _ h5, f1_chunk _ _ _ h6, f1_chunk _ _ _ h7]
  rfl
theorem f2_join (a0 a1 a2 a3 a4 a5 a6 a7 : Nat) (h0 : a0 < 256) (h1 : a1 < 256) (h2 : a2 < 256) (h3 : a3 < 256) (h4 : a4 < 256) (h5 : a5 < 256) (h6 : a6 < 256) (h7 : a7 < 256) :
    f2 8 (join8 a0 a1 a2 a3 a4 a5 a6 a7) = join8 (g2 a0) (g2 a1) (g2 a2) (g2 a3) (g2 a4) (g2 a5) (g2 a6) (g2 a7) := by
  unfold join8
  rw [f2_chunk _ _ _ h0, f2_chunk _ _ _ h1, f2_chunk _ _ _ h2, f2_chunk _ _ _ h3, f2_chunk _ _ _ h4, f2_chunk _ _ _ h5, f2_chunk _ _ _ h6, f2_chunk _ _ _ h7]
  rfl
theorem mod16 (a y : Nat) : (a + 256 * y) % 16 = a % 16 := by omega
theorem f3_join (a0 a1 a2 a3 a4 a5 a6 a7 : Nat) (h0 : a0 ≤ 68) (h1 : a1 ≤ 68) (h2 : a2 ≤ 68) (h3 : a3 ≤ 68) (h4 : a4 ≤ 68) (h5 : a5 ≤ 68) (h6 : a6 ≤ 68) (h7 : a7 ≤ 68)
    (q0 : a0 % 16 ≤ 4) (q1 : a1 % 16 ≤ 4) (q2 : a2 % 16 ≤ 4) (q3 : a3 % 16 ≤ 4) (q4 : a4 % 16 ≤ 4) (q5 : a5 % 16 ≤ 4) (q6 : a6 % 16 ≤ 4) (q7 : a7 % 16 ≤ 4) :
    f3 8 (join8 a0 a1 a2 a3 a4 a5 a6 a7) = join8 (a0 / 16 + a0 % 16) (a1 / 16 + a1 % 16) (a2 / 16 + a2 % 16) (a3 / 16 + a3 % 16) (a4 / 16 + a4 % 16) (a5 / 16 + a5 % 16) (a6 / 16 + a6 % 16) (a7 / 16 + a7 % 16) := by
  unfold join8
  rw [f3_chunk _ _ _ h0 q0 (by rw [mod16]; exact q1), f3_chunk _ _ _ h1 q1 (by rw [mod16]; exact q2), f3_chunk _ _ _ h2 q2 (by rw [mod16]; exact q3), f3_chunk _ _ _ h3 q3 (by rw [mod16]; exact q4),
    f3_chunk _ _ _ h4 q4 (by rw [mod16]; exact q5), f3_chunk _ _ _ h5 q5 (by rw [mod16]; exact q6), f3_chunk _ _ _ h6 q6 (by rw [mod16]; exact q7), f3_chunk _ _ _ h7 q7 (by decide)]
  rfl
theorem f45 (p0 p1 p2 p3 p4 p5 p6 p7 : Nat) (h0 : p0 ≤ 8) (h1 : p1 ≤ 8) (h2 : p2 ≤ 8) (h3 : p3 ≤ 8) (h4 : p4 ≤ 8) (h5 : p5 ≤ 8) (h6 : p6 ≤ 8) (h7 : p7 ≤ 8) :
    ∃ y5, y5 < 18446744073709551616 ∧ join8 p0 p1 p2 p3 p4 p5 p6 p7 + join8 p0 p1 p2 p3 p4 p5 p6 p7 / 256 = y5 ∧ y5 = join8 (p0 + p1) (p1 + p2) (p2 + p3) (p3 + p4) (p4 + p5) (p5 + p6) (p6 + p7) p7 := by
  refine ⟨_, ?_, rfl, ?_⟩ <;> (unfold join8; omega)
theorem f55 (p0 p1 p2 p3 p4 p5 p6 p7 : Nat) (h0 : p0 ≤ 16) (h1 : p1 ≤ 16) (_h2 : p2 ≤ 16) (_h3 : p3 ≤ 16) (_h4 : p4 ≤ 16) (_h5 : p5 ≤ 16) (_h6 : p6 ≤ 16) (_h7 : p7 ≤ 16) :
    join8 p0 p1 p2 p3 p4 p5 p6 p7 + join8 p0 p1 p2 p3 p4 p5 p6 p7 / 65536 = join8 (p0 + p2) (p1 + p3) (p2 + p4) (p3 + p5) (p4 + p6) (p5 + p7) p6 p7 := by
  unfold join8; omega
theorem f65 (p0 p1 p2 p3 p4 p5 p6 p7 : Nat) (h0 : p0 ≤ 32) (h1 : p1 ≤ 32) (h2 : p2 ≤ 32) (h3 : p3 ≤ 32) (_h4 : p4 ≤ 32) (_h5 : p5 ≤ 32) (_h6 : p6 ≤ 32) (_h7 : p7 ≤ 32) :
    join8 p0 p1 p2 p3 p4 p5 p6 p7 + join8 p0 p1 p2 p3 p4 p5 p6 p7 / 4294967296 = join8 (p0 + p4) (p1 + p5) (p2 + p6) (p3 + p7) p4 p5 p6 p7 := by
  unfold join8; omega
theorem join8_lt (p0 p1 p2 p3 p4 p5 p6 p7 : Nat) (h0 : p0 ≤ 64) (h1 : p1 ≤ 64) (h2 : p2 ≤ 64) (h3 : p3 ≤ 64) (h4 : p4 ≤ 64) (h5 : p5 ≤ 64) (h6 : p6 ≤ 64) (h7 : p7 ≤ 64) :
    join8 p0 p1 p2 p3 p4 p5 p6 p7 < 9223372036854775808 := by unfold join8; omega
theorem chunk_lt {a x b : Nat} (ha : a < 256) (hx : x < b) : a + 256 * x < 256 * b := by omega
theorem join8_lt256 (p0 p1 p2 p3 p4 p5 p6 p7 : Nat) (h0 : p0 < 256) (h1 : p1 < 256) (h2 : p2 < 256) (h3 : p3 < 256) (h4 : p4 < 256) (h5 : p5 < 256) (h6 : p6 < 256) (h7 : p7 < 256) :
    join8 p0 p1 p2 p3 p4 p5 p6 p7 < 18446744073709551616 :=
  chunk_lt h0 (chunk_lt h1 (chunk_lt h2 (chunk_lt h3 (chunk_lt h4 (chunk_lt h5 (chunk_lt h6 (chunk_lt h7 (by decide : 0 < 1))))))))
theorem join8_68 (p0 p1 p2 p3 p4 p5 p6 p7 : Nat) (h0 : p0 ≤ 68) (h1 : p1 ≤ 68) (h2 : p2 ≤ 68) (h3 : p3 ≤ 68) (h4 : p4 ≤ 68) (h5 : p5 ≤ 68) (h6 : p6 ≤ 68) (h7 : p7 ≤ 68) :
    join8 p0 p1 p2 p3 p4 p5 p6 p7 / 16 + join8 p0 p1 p2 p3 p4 p5 p6 p7 < 18446744073709551616 := by unfold join8; omega
theorem join8_mod (p0 p1 p2 p3 p4 p5 p6 p7 : Nat) (h0 : p0 < 128) : join8 p0 p1 p2 p3 p4 p5 p6 p7 % 128 = p0 := by unfold join8; omega

/-- the eight bytes of a number -/
theorem bytes_of (x : Nat) (hx : x < 18446744073709551616) : ∃ a0 a1 a2 a3 a4 a5 a6 a7, a0 < 256 ∧ a1 < 256 ∧ a2 < 256 ∧ a3 < 256 ∧ a4 < 256 ∧ a5 < 256 ∧ a6 < 256 ∧ a7 < 256 ∧ x = join8 a0 a1 a2 a3 a4 a5 a6 a7 := by
  refine ⟨x % 256, x / 256 % 256, x / 65536 % 256, x / 16777216 % 256, x / 4294967296 % 256, x / 1099511627776 % 256, x / 281474976710656 % 256, x / 72057594037927936, by omega, by omega, by omega, by omega, by omega, by omega, by omega, by omega, ?_⟩
  unfold join8; omega
theorem pop_chunk (n c y : Nat) (hc : c < 256) : pop (8 + n) (c + 256 * y) = pop 8 c + pop n y := by
  rw [pop_add]
  have e1 : (c + 256 * y) % 2 ^ 8 = c := by omega
  have e2 : (c + 256 * y) / 2 ^ 8 = y := by omega
  rw [e1, e2]
theorem pop_join (a0 a1 a2 a3 a4 a5 a6 a7 : Nat) (h0 : a0 < 256) (h1 : a1 < 256) (h2 : a2 < 256) (h3 : a3 < 256) (h4 : a4 < 256) (h5 : a5 < 256) (h6 : a6 < 256) (h7 : a7 < 256) :
    pop 64 (join8 a0 a1 a2 a3 a4 a5 a6 a7) = pop 8 a0 + pop 8 a1 + pop 8 a2 + pop 8 a3 + pop 8 a4 + pop 8 a5 + pop 8 a6 + pop 8 a7 := by
  unfold join8
  rw [show 64 = 8 + 56 from rfl, pop_chunk _ _ _ h0, show 56 = 8 + 48 from rfl, pop_chunk _ _ _ h1, show 48 = 8 + 40 from rfl, pop_chunk _ _ _ h2, show 40 = 8 + 32 from rfl, pop_chunk _ _ _ h3,
    show 32 = 8 + 24 from rfl, pop_chunk _ _ _ h4, show 24 = 8 + 16 from rfl, pop_chunk _ _ _ h5, show 16 = 8 + 8 from rfl, pop_chunk _ _ _ h6, pop_chunk 0 _ _ h7]
  simp only [pop]
  omega

/-! ### the walk's own forms -/
def sw1 (x : Int) : Int := IntKind.u64.wrap (bits .and .u64 (x / 2) 6148914691236517205 + bits .and .u64 x 6148914691236517205)
def sw2 (x : Int) : Int := IntKind.u64.wrap (bits .and .u64 (x / 4) 3689348814741910323 + bits .and .u64 x 3689348814741910323)
def sw3 (x : Int) : Int := bits .and .u64 (IntKind.u64.wrap (x / 16 + x)) 1085102592571150095
def sw4 (x : Int) : Int := IntKind.u64.wrap (x + x / 256)
def sw5 (x : Int) : Int := IntKind.u64.wrap (x + x / 65536)
def sw6 (x : Int) : Int := IntKind.u64.wrap (x + x / 4294967296)
def sw7 (x : Int) : Int := bits .and .i64 (wrap64 x) 127

theorem m5 : M5 8 = 6148914691236517205 := by decide
theorem m3 : M3 8 = 3689348814741910323 := by decide
theorem mf : MF 8 = 1085102592571150095 := by decide
theorem and_m (x : Nat) (m : Int) (k : Nat) (e : m = (k : Int)) (hx : x < 18446744073709551616) (hm : k < 18446744073709551616) : bits .and .u64 (x : Int) m = ((x &&& k : Nat) : Int) := by
  rw [e]; exact u64_and_nat x k hx hm
theorem sw1_eq (x : Nat) (hx : x < 18446744073709551616) (h : f1 8 x < 18446744073709551616) : sw1 x = (f1 8 x : Nat) := by
  unfold sw1
  have e : (x : Int) / 2 = ((x / 2 : Nat) : Int) := by omega
  unfold f1 at h ⊢
  rw [m5] at h ⊢
  rw [e, and_m _ 6148914691236517205 6148914691236517205 (by omega) (by omega) (by omega), and_m _ 6148914691236517205 6148914691236517205 (by omega) hx (by omega), IntKind.wrap_u64]
  omega
theorem sw2_eq (x : Nat) (hx : x < 18446744073709551616) (h : f2 8 x < 18446744073709551616) : sw2 x = (f2 8 x : Nat) := by
  unfold sw2
  have e : (x : Int) / 4 = ((x / 4 : Nat) : Int) := by omega
  unfold f2 at h ⊢
  rw [m3] at h ⊢
  rw [e, and_m _ 3689348814741910323 3689348814741910323 (by omega) (by omega) (by omega), and_m _ 3689348814741910323 3689348814741910323 (by omega) hx (by omega), IntKind.wrap_u64]
  omega
theorem sw3_eq (x : Nat) (hx : x / 16 + x < 18446744073709551616) : sw3 x = (f3 8 x : Nat) := by
  unfold sw3
  have e : IntKind.u64.wrap ((x : Int) / 16 + (x : Int)) = ((x / 16 + x : Nat) : Int) := by rw [IntKind.wrap_u64]; omega
  unfold f3
  rw [mf, e, and_m _ 1085102592571150095 1085102592571150095 (by omega) hx (by omega)]
theorem sw4_eq (x : Nat) (h : x + x / 256 < 18446744073709551616) : sw4 x = (x + x / 256 : Nat) := by unfold sw4; rw [IntKind.wrap_u64]; omega
theorem sw5_eq (x : Nat) (h : x + x / 65536 < 18446744073709551616) : sw5 x = (x + x / 65536 : Nat) := by unfold sw5; rw [IntKind.wrap_u64]; omega
theorem sw6_eq (x : Nat) (h : x + x / 4294967296 < 18446744073709551616) : sw6 x = (x + x / 4294967296 : Nat) := by unfold sw6; rw [IntKind.wrap_u64]; omega
theorem sw7_eq (x : Nat) (h : x < 9223372036854775808) : sw7 x = (x % 128 : Nat) := by
  unfold sw7
  have e : wrap64 (x : Int) = (x : Int) := by unfold wrap64; omega
  rw [e, i64_and127]; omega

/-- the walk's number is the number of members -/
theorem ones_eq (s : Int) (hs0 : 0 ≤ s) (hs1 : s < 18446744073709551616) : sw7 (sw6 (sw5 (sw4 (sw3 (sw2 (sw1 s)))))) = ((mems s).length : Int) := by
  obtain ⟨x, rfl⟩ := Int.eq_ofNat_of_zero_le hs0
  rw [mems_pop, Int.toNat_natCast]
  obtain ⟨a0, a1, a2, a3, a4, a5, a6, a7, h0, h1, h2, h3, h4, h5, h6, h7, rfl⟩ := bytes_of x (by omega)
  clear hs0 hs1
  have K0 := kg ⟨a0, h0⟩; have K1 := kg ⟨a1, h1⟩; have K2 := kg ⟨a2, h2⟩; have K3 := kg ⟨a3, h3⟩; have K4 := kg ⟨a4, h4⟩; have K5 := kg ⟨a5, h5⟩; have K6 := kg ⟨a6, h6⟩; have K7 := kg ⟨a7, h7⟩
  simp only at K0 K1 K2 K3 K4 K5 K6 K7
  have e1 := f1_join a0 a1 a2 a3 a4 a5 a6 a7 h0 h1 h2 h3 h4 h5 h6 h7
  have l1 := @join8_lt256
  rw [pop_join a0 a1 a2 a3 a4 a5 a6 a7 h0 h1 h2 h3 h4 h5 h6 h7]
  rw [sw1_eq _ (l1 _ _ _ _ _ _ _ _ h0 h1 h2 h3 h4 h5 h6 h7) (by rw [e1]; exact l1 _ _ _ _ _ _ _ _ K0.1 K1.1 K2.1 K3.1 K4.1 K5.1 K6.1 K7.1), e1]
  have e2 := f2_join _ _ _ _ _ _ _ _ K0.1 K1.1 K2.1 K3.1 K4.1 K5.1 K6.1 K7.1
  rw [sw2_eq _ (l1 _ _ _ _ _ _ _ _ K0.1 K1.1 K2.1 K3.1 K4.1 K5.1 K6.1 K7.1) (by rw [e2]; exact l1 _ _ _ _ _ _ _ _ (by omega) (by omega) (by omega) (by omega) (by omega) (by omega) (by omega) (by omega)), e2]
  have e3 := f3_join _ _ _ _ _ _ _ _ K0.2.1 K1.2.1 K2.2.1 K3.2.1 K4.2.1 K5.2.1 K6.2.1 K7.2.1 K0.2.2.1 K1.2.2.1 K2.2.2.1 K3.2.2.1 K4.2.2.1 K5.2.2.1 K6.2.2.1 K7.2.2.1
  rw [sw3_eq _ (join8_68 _ _ _ _ _ _ _ _ K0.2.1 K1.2.1 K2.2.1 K3.2.1 K4.2.1 K5.2.1 K6.2.1 K7.2.1), e3]
  rw [K0.2.2.2, K1.2.2.2, K2.2.2.2, K3.2.2.2, K4.2.2.2, K5.2.2.2, K6.2.2.2, K7.2.2.2]
  have c0 : pop 8 a0 ≤ 8 := by omega
  have c1 : pop 8 a1 ≤ 8 := by omega
  have c2 : pop 8 a2 ≤ 8 := by omega
  have c3 : pop 8 a3 ≤ 8 := by omega
  have c4 : pop 8 a4 ≤ 8 := by omega
  have c5 : pop 8 a5 ≤ 8 := by omega
  have c6 : pop 8 a6 ≤ 8 := by omega
  have c7 : pop 8 a7 ≤ 8 := by omega
  clear K0 K1 K2 K3 K4 K5 K6 K7 e1 e2 e3 l1
  generalize pop 8 a0 = p0 at *; generalize pop 8 a1 = p1 at *; generalize pop 8 a2 = p2 at *; generalize pop 8 a3 = p3 at *
  generalize pop 8 a4 = p4 at *; generalize pop 8 a5 = p5 at *; generalize pop 8 a6 = p6 at *; generalize pop 8 a7 = p7 at *
  obtain ⟨y5, hy, e4, e4'⟩ := f45 p0 p1 p2 p3 p4 p5 p6 p7 c0 c1 c2 c3 c4 c5 c6 c7
  rw [sw4_eq _ (by rw [e4]; exact hy), e4, e4']
  have e5 := f55 (p0 + p1) (p1 + p2) (p2 + p3) (p3 + p4) (p4 + p5) (p5 + p6) (p6 + p7) p7 (by omega) (by omega) (by omega) (by omega) (by omega) (by omega) (by omega) (by omega)
  rw [sw5_eq _ (by rw [e5]; exact Nat.lt_trans (join8_lt _ _ _ _ _ _ _ _ (by omega) (by omega) (by omega) (by omega) (by omega) (by omega) (by omega) (by omega)) (by decide)), e5]
  have e6 := f65 (p0 + p1 + (p2 + p3)) (p1 + p2 + (p3 + p4)) (p2 + p3 + (p4 + p5)) (p3 + p4 + (p5 + p6)) (p4 + p5 + (p6 + p7)) (p5 + p6 + p7) (p6 + p7) p7 (by omega) (by omega) (by omega) (by omega) (by omega) (by omega) (by omega) (by omega)
  rw [sw6_eq _ (by rw [e6]; exact Nat.lt_trans (join8_lt _ _ _ _ _ _ _ _ (by omega) (by omega) (by omega) (by omega) (by omega) (by omega) (by omega) (by omega)) (by decide)), e6]
  rw [sw7_eq _ (join8_lt _ _ _ _ _ _ _ _ (by omega) (by omega) (by omega) (by omega) (by omega) (by omega) (by omega) (by omega)), join8_mod _ _ _ _ _ _ _ _ (by omega)]
  omega

end Go.Proofs.Ytiaacjollcccaaa
