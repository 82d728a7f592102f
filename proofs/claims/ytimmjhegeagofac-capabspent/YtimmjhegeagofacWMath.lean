/- Plain facts on numbers laid as bytes, the lowest first, on handles and on which requests and replies there are: no program is named here. -/
import Derived.WalkKit
import Derived.Laws.Bits64
import Derived.Laws.BitsAllLaws
namespace Go.Proofs.Ytimmjhegeagofac

/-- byte i of x -/
def byI (x : Int) (i : Nat) : Int := x / 256 ^ i % 256
/-- the number of the bytes z 0 .. z (n-1) -/
def numI (z : Nat → Int) : Nat → Int
  | 0 => 0
  | n + 1 => numI z n + z n * 256 ^ n
/-- the first n are bytes -/
def Byt (z : Nat → Int) (n : Nat) : Prop := ∀ j, j < n → 0 ≤ z j ∧ z j < 256

theorem byI_lt (x : Int) (i : Nat) : 0 ≤ byI x i ∧ byI x i < 256 := by unfold byI; omega
theorem pow256_pos (n : Nat) : (0 : Int) < 256 ^ n := Int.pow_pos (by decide)
theorem pow256_succ (n : Nat) : (256 : Int) ^ (n + 1) = 256 ^ n * 256 := by rw [Int.pow_succ]
theorem numI_lt {z : Nat → Int} : ∀ {n : Nat}, Byt z n → 0 ≤ numI z n ∧ numI z n < 256 ^ n := by
  intro n
  induction n with
  | zero => intro _; simp [numI]
  | succ n ih =>
    intro h
    obtain ⟨h1, h2⟩ := ih fun j hj => h j (by omega)
    obtain ⟨h3, h4⟩ := h n (by omega)
    have hp := pow256_pos n
    rw [pow256_succ]
    show 0 ≤ numI z n + z n * 256 ^ n ∧ numI z n + z n * 256 ^ n < 256 ^ n * 256
    generalize (256 : Int) ^ n = q at *
    have e1 : 0 ≤ z n * q := Int.mul_nonneg h3 (by omega)
    have e2 : z n * q ≤ 255 * q := Int.mul_le_mul_of_nonneg_right (by omega) (by omega)
    omega
theorem numI_congr {z y : Nat → Int} : ∀ {n : Nat}, (∀ j, j < n → z j = y j) → numI z n = numI y n := by
  intro n
  induction n with
  | zero => intro _; rfl
  | succ n ih => intro h; show numI z n + _ = numI y n + _; rw [ih fun j hj => h j (by omega), h n (by omega)]
theorem mod_succ (x q : Int) (hq : 0 < q) : x % (q * 256) = x % q + x / q % 256 * q := by
  have e1 := Int.mul_ediv_add_emod x q
  have e2 := Int.mul_ediv_add_emod (x / q) 256
  have h1 := Int.emod_nonneg x (Int.ne_of_gt hq)
  have h2 := Int.emod_lt_of_pos x hq
  have h3 : 0 ≤ x / q % 256 ∧ x / q % 256 < 256 := by omega
  have key : x = (x % q + x / q % 256 * q) + (q * 256) * (x / q / 256) := by
    have : q * (x / q) = q * (256 * (x / q / 256)) + q * (x / q % 256) := by rw [← Int.mul_add]; rw [e2]
    have c1 : q * (256 * (x / q / 256)) = (q * 256) * (x / q / 256) := by rw [Int.mul_assoc]
    have c2 : q * (x / q % 256) = x / q % 256 * q := Int.mul_comm _ _
    omega
  have hlo : 0 ≤ x % q + x / q % 256 * q := by have := Int.mul_nonneg h3.1 (Int.le_of_lt hq); omega
  have hhi : x % q + x / q % 256 * q < q * 256 := by
    have : x / q % 256 * q ≤ 255 * q := Int.mul_le_mul_of_nonneg_right (by omega) (by omega)
    omega
  have e5 : x % (q * 256) = ((x % q + x / q % 256 * q) + (q * 256) * (x / q / 256)) % (q * 256) := by rw [← key]
  rw [e5, Int.add_mul_emod_self_left]
  exact Int.emod_eq_of_lt hlo hhi
/-- the bytes of x, read -/
theorem numI_byI (x : Int) : ∀ n : Nat, numI (byI x) n = x % 256 ^ n := by
  intro n
  induction n with
  | zero => simp [numI]
  | succ n ih =>
    show numI (byI x) n + byI x n * 256 ^ n = _
    rw [ih, pow256_succ, mod_succ x _ (pow256_pos n)]
    rfl
/-- a byte of what was read -/
theorem byI_numI {z : Nat → Int} : ∀ {n : Nat}, Byt z n → ∀ i, i < n → byI (numI z n) i = z i := by
  intro n
  induction n with
  | zero => intro _ i hi; omega
  | succ n ih =>
    intro h i hi
    have hb : Byt z n := fun j hj => h j (by omega)
    obtain ⟨l1, l2⟩ := numI_lt hb
    obtain ⟨h3, h4⟩ := h n (by omega)
    have hp := pow256_pos n
    show byI (numI z n + z n * 256 ^ n) i = z i
    unfold byI
    by_cases e : i = n
    · subst e
      rw [Int.add_mul_ediv_right _ _ (Int.ne_of_gt hp), Int.ediv_eq_zero_of_lt l1 l2]
      omega
    · have hlt : i < n := by omega
      have hq := pow256_pos i
      obtain ⟨d, hd⟩ : ∃ d, n = i + 1 + d := ⟨n - i - 1, by omega⟩
      have ep : (256 : Int) ^ n = 256 ^ i * (256 * 256 ^ d) := by rw [hd, Int.pow_add, Int.pow_succ, Int.mul_assoc]
      have e1 : numI z n + z n * 256 ^ n = numI z n + (z n * 256 ^ d * 256) * 256 ^ i := by
        rw [ep]; congr 1
        rw [Int.mul_comm (256 ^ i), ← Int.mul_assoc, Int.mul_comm 256 (256 ^ d), ← Int.mul_assoc]
      rw [e1, Int.add_mul_ediv_right _ _ (Int.ne_of_gt hq)]
      have := ih hb i hlt
      unfold byI at this
      rw [Int.add_mul_emod_self_right, this]

theorem pow_256 (k : Nat) : (2 : Int) ^ (8 * k) = 256 ^ k := by rw [Int.pow_mul]; rfl
theorem pow256_le8 {k : Nat} (h : k ≤ 8) : (256 : Int) ^ k ≤ 18446744073709551616 := by
  have : (256 : Nat) ^ k ≤ 256 ^ 8 := Nat.pow_le_pow_right (by decide) h
  have e : ((256 : Nat) : Int) ^ k = (((256 : Nat) ^ k : Nat) : Int) := by rw [Int.natCast_pow]
  show ((256 : Nat) : Int) ^ k ≤ _
  rw [e]
  omega
/-- 'n | uint64(b) << 8k' -/
theorem or_byte {z : Nat → Int} {k : Nat} (hk : k < 8) (hb : Byt z (k + 1)) : bits .or .u64 (numI z k) (z k * 256 ^ k) = numI z (k + 1) := by
  obtain ⟨l1, l2⟩ := numI_lt (z := z) (n := k) fun j hj => hb j (by omega)
  obtain ⟨h3, h4⟩ := hb k (by omega)
  obtain ⟨m1, m2⟩ := numI_lt hb
  have hp := pow256_pos k
  have h8 := pow256_le8 (k := k) (by omega)
  have h9 := pow256_le8 (k := k + 1) (by omega)
  have hm : numI z (k + 1) = numI z k + z k * 256 ^ k := rfl
  have hnn : 0 ≤ z k * 256 ^ k := Int.mul_nonneg h3 (Int.le_of_lt hp)
  rw [u64_or _ _ l1 (by omega) hnn (by omega)]
  rw [hm]
  generalize numI z k = x at *
  generalize z k = y at *
  obtain ⟨x, rfl⟩ := Int.eq_ofNat_of_zero_le l1
  obtain ⟨y, rfl⟩ := Int.eq_ofNat_of_zero_le h3
  have e : (y : Int) * 256 ^ k = ((2 ^ (8 * k) * y : Nat) : Int) := by rw [← pow_256, Int.natCast_mul, Int.mul_comm]; simp
  rw [e, Int.toNat_natCast]
  have hx : x < 2 ^ (8 * k) := by
    rw [← pow_256] at l2
    have : ((2 : Nat) : Int) ^ (8 * k) = ((2 ^ (8 * k) : Nat) : Int) := by rw [Int.natCast_pow]
    have l3 : (x : Int) < ((2 : Nat) : Int) ^ (8 * k) := l2
    rw [this] at l3
    omega
  show ((x ||| 2 ^ (8 * k) * y : Nat) : Int) = _
  rw [Nat.or_comm, ← Nat.two_pow_add_eq_or_of_lt hx]
  omega

/-- read from the top: what stands at k, of n bytes -/
def hornI (z : Nat → Int) (n k : Nat) : Int := numI (fun j => z (j + k)) (n - k)
theorem numI_shift (z : Nat → Int) : ∀ n : Nat, numI z (n + 1) = z 0 + numI (fun j => z (j + 1)) n * 256 := by
  intro n
  induction n with
  | zero => simp [numI]
  | succ n ih =>
    show numI z (n + 1) + z (n + 1) * 256 ^ (n + 1) = z 0 + (numI (fun j => z (j + 1)) n + z (n + 1) * 256 ^ n) * 256
    rw [ih, pow256_succ, Int.add_mul, ← Int.mul_assoc]
    omega
theorem hornI_step {z : Nat → Int} {n k : Nat} (hk : k < n) : hornI z n k = hornI z n (k + 1) * 256 + z k := by
  unfold hornI
  obtain ⟨d, hd⟩ : ∃ d, n - k = d + 1 := ⟨n - k - 1, by omega⟩
  rw [hd, numI_shift, show n - (k + 1) = d by omega]
  simp only [Nat.zero_add]
  have : (fun j => z (j + 1 + k)) = fun j => z (j + (k + 1)) := funext fun j => by rw [Nat.add_assoc, Nat.add_comm 1 k]
  rw [this]; omega
theorem hornI_top (z : Nat → Int) (n : Nat) : hornI z n n = 0 := by unfold hornI; rw [Nat.sub_self]; rfl
theorem hornI_zero (z : Nat → Int) (n : Nat) : hornI z n 0 = numI z n := by unfold hornI; rfl
theorem hornI_lt {z : Nat → Int} {n k : Nat} (hb : Byt z n) (hk : k ≤ n) : 0 ≤ hornI z n k ∧ hornI z n k < 256 ^ (n - k) := by
  unfold hornI
  exact numI_lt fun j hj => hb (j + k) (by omega)

/-- 'x / 256' again and again -/
theorem div256_step (x : Int) (k : Nat) : x / 256 ^ k / 256 = x / 256 ^ (k + 1) := by
  rw [pow256_succ, Int.ediv_ediv_of_nonneg (Int.le_of_lt (pow256_pos k))]

/-- a handle of its parts -/
def handI (p r g : Int) : Int := p + 256 * r + 65536 * g
theorem or_add (x y k : Nat) (hx : x < 2 ^ k) : x ||| 2 ^ k * y = x + 2 ^ k * y := by rw [Nat.or_comm, ← Nat.two_pow_add_eq_or_of_lt hx]; omega
theorem hand_or {p r g : Int} (p0 : 0 ≤ p) (p1 : p ≤ 255) (r0 : 0 ≤ r) (r1 : r ≤ 255) (g0 : 0 ≤ g) (g1 : g ≤ 65535) :
    bits .or .u32 (bits .or .u32 p (r * 256)) (g * 65536) = handI p r g := by
  obtain ⟨p, rfl⟩ := Int.eq_ofNat_of_zero_le p0
  obtain ⟨r, rfl⟩ := Int.eq_ofNat_of_zero_le r0
  obtain ⟨g, rfl⟩ := Int.eq_ofNat_of_zero_le g0
  have e1 : ((r : Nat) : Int) * 256 = ((2 ^ 8 * r : Nat) : Int) := by omega
  have e2 : ((g : Nat) : Int) * 65536 = ((2 ^ 16 * g : Nat) : Int) := by omega
  rw [e1, e2, u32_or_nat _ _ (by omega) (by omega), or_add _ _ 8 (by omega), u32_or_nat _ _ (by omega) (by omega), or_add _ _ 16 (by omega)]
  unfold handI
  omega
theorem and_255 {x : Int} (h0 : 0 ≤ x) (h1 : x < 4294967296) : bits .and .u32 x 255 = x % 256 := by
  obtain ⟨x, rfl⟩ := Int.eq_ofNat_of_zero_le h0
  rw [show (255 : Int) = ((255 : Nat) : Int) from rfl, u32_and_nat _ _ (by omega) (by decide), show (255 : Nat) = 2 ^ 8 - 1 from rfl, Nat.and_two_pow_sub_one_eq_mod]
  omega

/-- is a request well-formed? -/
def okB (k a r h p : Int) : Bool :=
  (decide (k = 1) && (decide (1 ≤ r) && decide (r ≤ 7) && decide (h = 0) && decide (p = 0))) ||
  ((decide (k = 2) || decide (k = 4) || decide (k = 6) || decide (k = 7)) && (decide (a = 0) && decide (r = 0) && decide (p = 0))) ||
  (decide (k = 3) && (decide (a = 0) && decide (r = 0))) ||
  (decide (k = 5) && (decide (1 ≤ r) && decide (r ≤ 7) && decide (p = 0))) ||
  (decide (k = 8) && (decide (r = 0) && decide (h = 0))) ||
  (decide (k = 9) && (decide (a = 0) && decide (r = 0) && decide (h = 0) && decide (p = 0)))
/-- may a reply be? -/
def repB (c a h p : Int) : Bool :=
  decide (c = 1) || ((decide (c = 2) || decide (c = 3) || decide (c = 4)) && (decide (a = 0) && decide (h = 0) && decide (p = 0)))
/-- 0, or ErrWire -/
def errI (b : Bool) : Int := if b then 0 else 30

/-- the bytes of a piece -/
def layZ (a b c h p : Int) (j : Nat) : Int :=
  if j = 0 then a else if j = 1 then b else if j = 2 then c else if j = 3 then 0 else if j < 8 then byI h (j - 4) else byI p (j - 8)

/-- is it from 0 to l? -/
def inB (n l : Int) : Bool := decide (0 ≤ n) && decide (n ≤ l)
theorem inB_true {n l : Int} : inB n l = true ↔ 0 ≤ n ∧ n ≤ l := by simp [inB]
theorem inB_false {n l : Int} : inB n l = false ↔ n < 0 ∨ l < n := by
  rw [← Bool.not_eq_true, inB_true]; omega
/-- are a handle's parts within? -/
def handB (p r g : Int) : Bool := inB p 255 && (inB r 255 && inB g 65535)
def handAns (p r g : Int) : Int := if handB p r g then handI p r g else 0

end Go.Proofs.Ytimmjhegeagofac
