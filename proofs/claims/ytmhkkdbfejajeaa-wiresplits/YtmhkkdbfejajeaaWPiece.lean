/- wire.readPiece: the piece of bytes. -/
import Derived.Test.YtmhkkdbfejajeaaWLay
namespace Go.Proofs.Ytmhkkdbfejajeaa
open Go.RowKit

/-- a part of a slice's cells -/
theorem Cells.part {w : World} {k : IntKind} {b off n : Nat} {z : Nat → Int} (h : Cells w k (some ⟨b, off, none⟩) n z) (lo m : Nat) (hm : lo + m ≤ n) : Cells w k (some ⟨b, off + lo, none⟩) m (fun j => z (lo + j)) := fun j hj => by
  obtain ⟨b', off', e, hc⟩ := h (lo + j) (by omega)
  cases e
  exact ⟨b, off + lo, rfl, by rw [Nat.add_assoc]; exact hc⟩
theorem Byt.part {n : Nat} {z : Nat → Int} (h : Byt z n) (lo m : Nat) (hm : lo + m ≤ n) : Byt (fun j => z (lo + j)) m := fun j hj => h (lo + j) (by omega)
theorem Cells.drew {w : World} {k : IntKind} {a : Option Addr} {n : Nat} {z : Nat → Int} (h : Cells w k a n z) : Cells w.drew k a n z := h.below (Below.refl _ _).drew
theorem Cells.at' {w : World} {k : IntKind} {b off n : Nat} {z : Nat → Int} (h : Cells w k (some ⟨b, off, none⟩) n z) (j : Nat) (hj : j < n) : w.cell? ⟨b, off + j, none⟩ = some (.int k (z j)) := by
  obtain ⟨b', off', e, hc⟩ := h j hj
  cases e
  exact hc

set_option maxHeartbeats 1000000 in
theorem rp_short (a : Option Addr) (n cap : Nat) (w : World) (hn : n ≠ 16) :
    Calls Try.prog 31 #[.slice a n cap] w fun e w' => e = .returned (.tuple #[.agg #[.int .u8 0, .int .u8 0, .int .u8 0, .int .u32 0, .int .u64 0], .bool false]) ∧ Below w.heap.size w w' := by
  have hn' : ((n : Int) == 16) = false := by simp; omega
  go_enter Try.func31, Try.ntmps31
  go_wp2
  exact bodyPost_ret (v := .tuple #[.agg #[.int .u8 0, .int .u8 0, .int .u8 0, .int .u32 0, .int .u64 0], .bool false]) (by simp [results, Try.results31, go_sem]) rfl ⟨rfl, (Below.refl _ _).alloc (Nat.le_refl _) _⟩
set_option maxHeartbeats 1000000 in
theorem rp_no (b off cap : Nat) (z : Nat → Int) (w : World) (hc : Cells w .u8 (some ⟨b, off, none⟩) 16 z) (h3 : z 3 ≠ 0) :
    Calls Try.prog 31 #[.slice (some ⟨b, off, none⟩) 16 cap] w fun e w' => e = .returned (.tuple #[.agg #[.int .u8 0, .int .u8 0, .int .u8 0, .int .u32 0, .int .u64 0], .bool false]) ∧ Below w.heap.size w w' := by
  have c3 := hc.at' 3 (by omega)
  have hbl := cell_lt c3
  have hz : (z 3 == 0) = false := by simpa using h3
  clear hc
  go_enter Try.func31, Try.ntmps31
  go_wp2
  exact bodyPost_ret (v := .tuple #[.agg #[.int .u8 0, .int .u8 0, .int .u8 0, .int .u32 0, .int .u64 0], .bool false]) (by simp [results, Try.results31, go_sem]) rfl ⟨rfl, (Below.refl _ _).alloc (Nat.le_refl _) _⟩
set_option maxHeartbeats 4000000 in
theorem rp_yes (b off cap : Nat) (z : Nat → Int) (w : World) (hcap : 16 ≤ cap) (hc : Cells w .u8 (some ⟨b, off, none⟩) 16 z) (hb : Byt z 16) (h3 : z 3 = 0) :
    Calls Try.prog 31 #[.slice (some ⟨b, off, none⟩) 16 cap] w fun e w' => e = .returned (.tuple #[.agg #[.int .u8 (z 0), .int .u8 (z 1), .int .u8 (z 2), .int .u32 (numI (fun j => z (4 + j)) 4), .int .u64 (numI (fun j => z (8 + j)) 8)], .bool true]) ∧ Below w.heap.size w w' := by
  have c3 := hc.at' 3 (by omega)
  rw [h3] at c3
  have hbl := cell_lt c3
  have c0 : w.cell? ⟨b, off, none⟩ = some (.int .u8 (z 0)) := hc.at' 0 (by omega)
  have c1 := hc.at' 1 (by omega)
  have c2 := hc.at' 2 (by omega)
  have HC : Hid (Cells w .u8 (some ⟨b, off, none⟩) 16 z) := hc
  have HB : Hid (Byt z 16) := hb
  clear hc hb h3
  have q1 : (16 : Int) ≤ (cap : Int) := by omega
  have q2 : (8 : Int) ≤ (cap : Int) := by omega
  have e4 : ¬ cap = 4 := by omega
  have e8 : ¬ cap = 8 := by omega
  have HC' : Hid (Cells (w.alloc (.cells #[.int .u8 0, .int .u8 0, .int .u8 0, .int .u32 0, .int .u64 0] 65)).drew .u8 (some ⟨b, off, none⟩) 16 z) := HC.out.below (((Below.refl _ w).alloc (Nat.le_refl _) _).drew)
  have hr4 := fun cp => readNumber_any (some ⟨b, off + 4, none⟩) 4 cp (fun j => z (4 + j)) _ (by omega) (HC'.out.part 4 4 (by omega)) (HB.out.part 4 4 (by omega))
  have hr8 := fun cp => readNumber_any (some ⟨b, off + 8, none⟩) 8 cp (fun j => z (8 + j)) _ (by omega) (HC'.out.part 8 8 (by omega)) (HB.out.part 8 8 (by omega))
  obtain ⟨n0, n1⟩ := numI_lt (HB.out.part 4 4 (by omega))
  have HW : Hid (IntKind.u32.wrap (numI (fun j => z (4 + j)) 4) = numI (fun j => z (4 + j)) 4) := by
    rw [IntKind.wrap_u32]; exact Int.emod_eq_of_lt n0 n1
  generalize numI (fun j => z (4 + j)) 4 = x4 at *
  generalize numI (fun j => z (8 + j)) 8 = x8 at *
  go_enter Try.func31, Try.ntmps31
  go_wp2
  go_region_held3 (fun w' => w'.cell? ⟨b, off, none⟩ = some (.int .u8 (z 0)) ∧ w'.cell? ⟨b, off + 1, none⟩ = some (.int .u8 (z 1)) ∧ w'.cell? ⟨b, off + 2, none⟩ = some (.int .u8 (z 2))) (go_keep) (first
    | (go_at_call 38; with_reducible refine (hr4 _).mono ?_; rintro e w' ⟨rfl, rfl⟩)
    | (go_at_call 38; with_reducible refine (hr8 _).mono ?_; rintro e w' ⟨rfl, rfl⟩))
  go_wp2_with fail
  rw [HW.out]
  exact bodyPost_ret (v := .tuple #[.agg #[.int .u8 (z 0), .int .u8 (z 1), .int .u8 (z 2), .int .u32 x4, .int .u64 x8], .bool true]) (by simp [results, Try.results31, go_sem]) rfl ⟨rfl, ((Below.refl _ _).alloc (Nat.le_refl _) _).drew⟩

end Go.Proofs.Ytmhkkdbfejajeaa
