/- Numbers as bytes: what the code's and the document's functions come to. -/
import Derived.Test.YtmhkkdbfejajeaaWLeaf
namespace Go.Proofs.Ytmhkkdbfejajeaa
open Go.RowKit

/-- the first m cells of block B hold the bytes z, and may be written -/
def Lay (W : World) (B m : Nat) (z : Nat → Int) : Prop := ∀ j, j < m → W.cell? ⟨B, j, none⟩ = some (.int .u8 (z j)) ∧ W.frozen? ⟨B, j, none⟩ = false
def layTo (z : Nat → Int) (off : Nat) (x : Int) (k j : Nat) : Int := if off ≤ j ∧ j < off + k then byI x (j - off) else z j
theorem layTo_zero (z : Nat → Int) (off : Nat) (x : Int) : layTo z off x 0 = z := funext fun j => by unfold layTo; rw [if_neg (by omega)]
theorem Lay.set {W : World} {B m off k : Nat} {z : Nat → Int} {x : Int} (h : Lay W B m (layTo z off x k)) : Lay (W.setCell ⟨B, off + k, none⟩ (.int .u8 (byI x k))) B m (layTo z off x (k + 1)) := by
  intro j hj
  refine ⟨?_, by rw [World.frozen?_setCell]; exact (h j hj).2⟩
  by_cases e : j = off + k
  · subst e
    rw [World.cell?_setCell_same' _ _ _ (by rw [(h _ hj).1]; rfl)]
    unfold layTo
    rw [if_pos (by omega), show off + k - off = k by omega]
  · rw [World.cell?_setCell_other _ _ _ _ (by intro h; cases h; exact e rfl), (h j hj).1]
    unfold layTo
    by_cases c : off ≤ j ∧ j < off + k
    · rw [if_pos c, if_pos (by omega)]
    · rw [if_neg c, if_neg (by omega)]
theorem Lay.lt {W : World} {B m : Nat} {z : Nat → Int} (h : Lay W B m z) (hm : 0 < m) : B < W.heap.size := cell_lt (h 0 hm).1
theorem Lay.below {W W' : World} {B m : Nat} {z : Nat → Int} (h : Lay W B m z) (hb : Below W.heap.size W W') : Lay W' B m z := fun j hj =>
  ⟨(hb.cell (p := ⟨B, j, none⟩) (cell_lt (h j hj).1)).trans (h j hj).1, (hb.frozen (p := ⟨B, j, none⟩) (cell_lt (h j hj).1)).trans (h j hj).2⟩
theorem Lay.cells {W : World} {B m : Nat} {z : Nat → Int} (h : Lay W B m z) : Cells W .u8 (some ⟨B, 0, none⟩) m z := fun j hj => ⟨B, 0, rfl, by rw [Nat.zero_add]; exact (h j hj).1⟩

set_option maxHeartbeats 1000000 in
theorem layNumber_any (B off n m cap : Nat) (z : Nat → Int) (x : Int) (w : World) (hn : n ≤ 8) (hm : off + n ≤ m) (hl : Lay w B m z) :
    Calls Try.prog 36 #[.slice (some ⟨B, off, none⟩) n cap, .int .u64 x] w fun e w' => e = .returned (.tuple #[]) ∧ Lay w' B m (layTo z off x n) ∧ Below B w w' := by
  have HL : Hid (Lay w B m z) := hl
  clear hl
  go_enter Try.func36, Try.ntmps36
  go_wp2
  go_loopw [7] (fun i wr => ∃ k : Nat, k ≤ n ∧ i = .int .i64 k ∧ Hid (Lay wr B m (layTo z off x k)) ∧ Below B w wr) (fun i _ => n - (intOf i).toNat)
  case atStart => exact ⟨0, by omega, rfl, by rw [layTo_zero]; exact HL.out, Below.refl _ _⟩
  case round =>
    obtain ⟨k, hk, rfl, hlay, hbel⟩ := hrel
    by_cases hlt : k < n
    · have hc := (hlay.out (off + k) (by omega)).1
      have hf := (hlay.out (off + k) (by omega)).2
      have HY : Hid (x / 2 ^ (8 * k) % 256 = byI x k) := by unfold byI; rw [pow_256]; exact rfl
      go_wp2
      rw [HY.out]
      go_roundw
      case rel => exact ⟨k + 1, by omega, by go_num, hlay.out.set, hbel.setCell (p := ⟨B, off + k, none⟩) (Nat.le_refl _) _⟩
      case measure => simp [intOf]; omega
    · obtain rfl : k = n := by omega
      go_wp2
      refine bodyPost_end (results_none rfl _ _ _) rfl ?_
      exact ⟨rfl, hlay.out, hbel⟩

set_option maxHeartbeats 1000000 in
theorem readNumber_any (a : Option Addr) (n cap : Nat) (z : Nat → Int) (w : World) (hn : n ≤ 8) (hc : Cells w .u8 a n z) (hb : Byt z n) :
    Calls Try.prog 38 #[.slice a n cap] w fun e w' => e = .returned (.int .u64 (numI z n)) ∧ w' = w := by
  have HC : Hid (Cells w .u8 a n z) := hc
  have HB : Hid (Byt z n) := hb
  clear hc hb
  go_enter Try.func38, Try.ntmps38
  go_wp2
  go_loop [3, 7] (fun s i => ∃ k : Nat, k ≤ n ∧ i = .int .i64 k ∧ s = .int .u64 (numI z k)) (fun _ i => n - (intOf i).toNat)
  case atStart => exact ⟨0, by omega, rfl, rfl⟩
  case round =>
    obtain ⟨k, hk, rfl, rfl⟩ := hrel
    by_cases hlt : k < n
    · obtain ⟨b, off, rfl, hcell⟩ := HC.out k hlt
      obtain ⟨b0, b1⟩ := HB.out k hlt
      have HY : Hid (bits .or .u64 (numI z k) (IntKind.u64.wrap (z k * 2 ^ (8 * k))) = numI z (k + 1)) := by
        have hby : Byt z (k + 1) := fun j hj => HB.out j (by omega)
        obtain ⟨l1, _⟩ := numI_lt (z := z) (n := k) fun j hj => hby j (by omega)
        obtain ⟨m1, m2⟩ := numI_lt hby
        have h9 := pow256_le8 (k := k + 1) (by omega)
        have hm : numI z (k + 1) = numI z k + z k * 256 ^ k := rfl
        have hnn : 0 ≤ z k * 256 ^ k := Int.mul_nonneg b0 (Int.le_of_lt (pow256_pos k))
        rw [pow_256, IntKind.wrap_u64, Int.emod_eq_of_lt hnn (by omega)]
        exact or_byte (by omega) hby
      go_wp2
      rw [HY.out]
      go_round
      case rel => exact ⟨k + 1, by omega, by go_num, rfl⟩
      case measure => simp [intOf]; omega
    · obtain rfl : k = n := by omega
      go_wp2
      go_ret
      exact ⟨rfl, rfl⟩

set_option maxHeartbeats 1000000 in
theorem rnumber_any (a : Option Addr) (n cap : Nat) (z : Nat → Int) (w : World) (hn : n ≤ 8) (hc : Cells w .u8 a n z) (hb : Byt z n) :
    Calls Try.prog 32 #[.slice a n cap] w fun e w' => e = .returned (.int .u64 (numI z n)) ∧ w' = w := by
  have HC : Hid (Cells w .u8 a n z) := hc
  have HB : Hid (Byt z n) := hb
  clear hc hb
  go_enter Try.func32, Try.ntmps32
  go_wp2
  go_loop [3, 4] (fun s i => ∃ k : Nat, k ≤ n ∧ i = .int .i64 ((k : Int) - 1) ∧ s = .int .u64 (hornI z n k)) (fun _ i => (intOf i + 1).toNat)
  case atStart => exact ⟨n, by omega, rfl, by rw [hornI_top]⟩
  case round =>
    obtain ⟨k, hk, rfl, rfl⟩ := hrel
    by_cases hlt : 0 < k
    · obtain ⟨k, rfl⟩ : ∃ j, k = j + 1 := ⟨k - 1, by omega⟩
      obtain ⟨b, off, rfl, hcell⟩ := HC.out k (by omega)
      obtain ⟨b0, b1⟩ := HB.out k (by omega)
      have ek : ((k + 1 : Nat) : Int) - 1 = (k : Int) := by omega
      rw [ek]
      have HY : Hid (hornI z n (k + 1) * 256 + z k = hornI z n k) := (hornI_step (by omega)).symm
      obtain ⟨l0, l1⟩ := hornI_lt (k := k) HB.out (by omega)
      have h9 := pow256_le8 (k := n - k) (by omega)
      obtain ⟨l2, _⟩ := hornI_lt (k := k + 1) HB.out (by omega)
      have l3 : hornI z n (k + 1) * 256 + z k < 18446744073709551616 := by rw [HY.out]; omega
      clear l0 l1 h9
      go_wp2
      rw [HY.out]
      go_round
      case rel => exact ⟨k, by omega, by go_num, rfl⟩
      case measure => simp [intOf]
    · obtain rfl : k = 0 := by omega
      go_wp2
      go_ret
      exact ⟨ret_int (hornI_zero z n), rfl⟩

def encB (n : Nat) (z : Nat → Int) : List Value := (List.range n).map fun j => Value.int .u8 (z j)
theorem encB_length (n : Nat) (z : Nat → Int) : (encB n z).length = n := by simp [encB]
theorem encB_at (n : Nat) (z : Nat → Int) (j : Nat) (hj : j < n) : (encB n z)[j]? = some (.int .u8 (z j)) := by simp [encB, hj]
theorem encB_snoc (n : Nat) (z : Nat → Int) : encB (n + 1) z = encB n z ++ [.int .u8 (z n)] := by simp [encB, List.range_succ]
theorem encB_one (n : Nat) (z : Nat → Int) : ∀ u ∈ encB n z, u.oneCell' = true := by
  intro u hu
  simp only [encB, List.mem_map] at hu
  obtain ⟨j, _, rfl⟩ := hu
  rfl
theorem encB_congr {n : Nat} {z y : Nat → Int} (h : ∀ j, j < n → z j = y j) : encB n z = encB n y := by
  unfold encB
  apply List.map_congr_left
  intro j hj
  rw [h j (by simpa using hj)]
theorem encB_append (n m : Nat) (z y : Nat → Int) : encB n z ++ encB m y = encB (n + m) (fun j => if j < n then z j else y (j - n)) := by
  unfold encB
  rw [List.range_add, List.map_append]
  congr 1
  · apply List.map_congr_left
    intro j hj
    simp only [List.mem_range] at hj
    simp only [if_pos hj]
  · rw [List.map_map]
    apply List.map_congr_left
    intro j _
    simp only [Function.comp, if_neg (show ¬ n + j < n by omega), show n + j - n = j by omega]
theorem Try.infoU8 : (Try.prog.info? 5).map (fun i => (i.zero, i.size, i.bytes)) = some (some (.int .u8 0), 1, 1) := by kernel_rfl

set_option maxHeartbeats 1000000 in
theorem low_own (x : Int) (n : Nat) (w : World) (hn : n ≤ 8) (h0 : 0 ≤ x) (h1 : x < 18446744073709551616) :
    Calls Try.prog 37 #[.int .u64 x, .int .i64 n] w fun e w' => ∃ v, e = .returned v ∧ w'.ownsRow w.heap.size 5 1 v n (encB n (byI x)) ∧ Below w.heap.size w w' := by
  obtain ⟨i0, hi, hz0, hz1, hz2⟩ := info_parts Try.infoU8
  go_enter Try.func37, Try.ntmps37
  go_wp2
  go_loopw [0, 5, 6] (fun y v i wr => ∃ k : Nat, k ≤ n ∧ i = .int .i64 k ∧ y = .int .u64 (x / 256 ^ k) ∧ wr.ownsRow w.heap.size 5 1 v k (encB k (byI x)) ∧ Below w.heap.size w wr) (fun _ _ i _ => n - (intOf i).toNat)
  case atStart => exact ⟨0, by omega, rfl, by simp, World.ownsRow_nil _ _ _ _, Below.refl _ _⟩
  case round =>
    obtain ⟨k, hk, rfl, rfl, hown, hbel⟩ := hrel
    have hd := div256_step x k
    have q0 : 0 ≤ x / 256 ^ k := Int.ediv_nonneg h0 (Int.le_of_lt (pow256_pos k))
    have q1 : x / 256 ^ k < 18446744073709551616 := Int.lt_of_le_of_lt (Int.ediv_le_self _ h0) h1
    have HD : Hid (x / 256 ^ k / 256 = x / 256 ^ (k + 1)) := hd
    have HE : Hid (encB (k + 1) (byI x) = encB k (byI x) ++ [.int .u8 (x / 256 ^ k % 256)]) := encB_snoc k _
    clear hd
    generalize x / 256 ^ k = q at *
    by_cases hlt : k < n
    · go_wp2_with (at_builtin; refine wpList_append_own _ rfl _ _ 27 rfl w.heap.size 5 i0 (.int .u8 0) 1 1 Try.underlying27 hi hz0 hz1 hz2 rfl (by decide) _ _ _ rfl (hown.alloc _) ⟨wr.heap.size, 0, none⟩ 1 1 [.int .u8 (q % 256)] rfl rfl (cell_one_new _ _ _) (by simp [Value.oneCell']) (by unfold maxLen; omega) (by omega) (by have := hbel.size; simp; omega) ?_; intro v' w1 hown' hgrow _)
      go_roundw
      case rel =>
        refine ⟨k + 1, by omega, by go_num, by rw [HD.out], ?_, ?_⟩
        · rw [HE.out]; exact hown'
        · exact (hbel.alloc hbel.size _).grown hgrow (by have := hbel.size; simp; omega) (own_ge hown)
      case measure => simp [intOf]; omega
    · obtain rfl : k = n := by omega
      go_wp2
      go_ret
      exact ⟨_, rfl, hown, hbel⟩

end Go.Proofs.Ytmhkkdbfejajeaa
