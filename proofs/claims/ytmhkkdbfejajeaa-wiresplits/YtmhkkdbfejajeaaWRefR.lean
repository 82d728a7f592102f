/- The document's ParseReply: what any bytes are. -/
import Derived.Test.YtmhkkdbfejajeaaWParR
import Derived.Test.YtmhkkdbfejajeaaWIs
namespace Go.Proofs.Ytmhkkdbfejajeaa
open Go.RowKit

set_option maxHeartbeats 1000000 in
theorem rparser_short (a : Option Addr) (n cap : Nat) (w : World) (hn : n ≠ 16) :
    Calls Try.prog 18 #[.slice a n cap] w fun e w' => e = .returned (.tuple #[.agg #[.int .u8 0, .int .u8 0, .int .u32 0, .int .u64 0], .int .i64 30]) ∧ Below w.heap.size w w' := by
  have hn' : ((n : Int) == 16) = false := by simp; omega
  go_enter Try.func18, Try.ntmps18
  go_wp2
  exact bodyPost_ret (v := .tuple #[.agg #[.int .u8 0, .int .u8 0, .int .u32 0, .int .u64 0], .int .i64 30]) (by simp [results, Try.results18, go_sem]) rfl ⟨rfl, (Below.refl _ _).alloc (Nat.le_refl _) _⟩
set_option maxHeartbeats 4000000 in
theorem rparser_two (b off cap : Nat) (z : Nat → Int) (w : World) (hcap : 16 ≤ cap) (hc : Cells w .u8 (some ⟨b, off, none⟩) 16 z) (hb : Byt z 16) (h2 : z 2 ≠ 0) :
    Calls Try.prog 18 #[.slice (some ⟨b, off, none⟩) 16 cap] w fun e w' => e = .returned (.tuple #[.agg #[.int .u8 0, .int .u8 0, .int .u32 0, .int .u64 0], .int .i64 30]) ∧ Below w.heap.size w w' := by
  have c0 : w.cell? ⟨b, off, none⟩ = some (.int .u8 (z 0)) := hc.at' 0 (by omega)
  have c1 := hc.at' 1 (by omega)
  have c2 := hc.at' 2 (by omega)
  have c3 := hc.at' 3 (by omega)
  have hbl := cell_lt c0
  have q1 : (16 : Int) ≤ (cap : Int) := by omega
  have q2 : (8 : Int) ≤ (cap : Int) := by omega
  have e4 : ¬ cap = 4 := by omega
  have e8 : ¬ cap = 8 := by omega
  have hcA : Cells (w.alloc (.cells #[.int .u8 0, .int .u8 0, .int .u32 0, .int .u64 0] 43)).drew .u8 (some ⟨b, off, none⟩) 16 z := hc.below (((Below.refl _ w).alloc (Nat.le_refl _) _).drew)
  have hcB : Cells ((w.alloc (.cells #[.int .u8 0, .int .u8 0, .int .u32 0, .int .u64 0] 43)).alloc (.cells #[.int .u8 0, .int .u8 0, .int .u32 0, .int .u64 0] 43)).drew .u8 (some ⟨b, off, none⟩) 16 z := hc.below ((((Below.refl _ w).alloc (Nat.le_refl _) _).alloc (by simp) _).drew)
  have hrA4 := fun cp => rnumber_any (some ⟨b, off + 4, none⟩) 4 cp (fun j => z (4 + j)) _ (by omega) (hcA.part 4 4 (by omega)) (hb.part 4 4 (by omega))
  have hrA8 := fun cp => rnumber_any (some ⟨b, off + 8, none⟩) 8 cp (fun j => z (8 + j)) _ (by omega) (hcA.part 8 8 (by omega)) (hb.part 8 8 (by omega))
  have hrB4 := fun cp => rnumber_any (some ⟨b, off + 4, none⟩) 4 cp (fun j => z (4 + j)) _ (by omega) (hcB.part 4 4 (by omega)) (hb.part 4 4 (by omega))
  have hrB8 := fun cp => rnumber_any (some ⟨b, off + 8, none⟩) 8 cp (fun j => z (8 + j)) _ (by omega) (hcB.part 8 8 (by omega)) (hb.part 8 8 (by omega))
  obtain ⟨n0, n1⟩ := numI_lt (hb.part 4 4 (by omega))
  have HW : Hid (IntKind.u32.wrap (n4 z) = n4 z) := by
    rw [IntKind.wrap_u32]; exact Int.emod_eq_of_lt n0 n1
  change ∀ cp, Calls _ _ _ _ (fun e w' => e = .returned (.int .u64 (n4 z)) ∧ _) at hrA4 hrB4
  change ∀ cp, Calls _ _ _ _ (fun e w' => e = .returned (.int .u64 (n8 z)) ∧ _) at hrA8 hrB8
  clear hcA hcB hc hb n0 n1
  generalize n4 z = x4 at *
  generalize n8 z = x8 at *
  generalize z 0 = x0 at *
  generalize z 1 = x1 at *
  generalize z 2 = x2 at *
  generalize z 3 = x3 at *
  have hz : (x2 == 0) = false := by simpa using h2
  go_enter Try.func18, Try.ntmps18
  go_wp2
  go_region_held3 (fun w' => w'.cell? ⟨b, off, none⟩ = some (.int .u8 x0) ∧ w'.cell? ⟨b, off + 1, none⟩ = some (.int .u8 x1) ∧ w'.cell? ⟨b, off + 2, none⟩ = some (.int .u8 x2)) (go_keep) (first
    | (go_at_call 32; with_reducible refine (hrA4 _).mono ?_; rintro e w' ⟨rfl, rfl⟩)
    | (go_at_call 32; with_reducible refine (hrA8 _).mono ?_; rintro e w' ⟨rfl, rfl⟩)
    | (go_at_call 32; with_reducible refine (hrB4 _).mono ?_; rintro e w' ⟨rfl, rfl⟩)
    | (go_at_call 32; with_reducible refine (hrB8 _).mono ?_; rintro e w' ⟨rfl, rfl⟩))
  all_goals
    rw [HW.out]
    clear hrA4 hrA8 hrB4 hrB8
    go_wp2_with fail
    exact bodyPost_ret (v := .tuple #[.agg #[.int .u8 0, .int .u8 0, .int .u32 0, .int .u64 0], .int .i64 30]) (by simp [results, Try.results18, go_sem]) rfl ⟨rfl, (((Below.refl _ _).alloc (Nat.le_refl _) _).alloc (by simp) _).drew⟩
set_option maxHeartbeats 4000000 in
theorem rparser_three (b off cap : Nat) (z : Nat → Int) (w : World) (hcap : 16 ≤ cap) (hc : Cells w .u8 (some ⟨b, off, none⟩) 16 z) (hb : Byt z 16) (h2 : z 2 = 0) (h3 : z 3 ≠ 0) :
    Calls Try.prog 18 #[.slice (some ⟨b, off, none⟩) 16 cap] w fun e w' => e = .returned (.tuple #[.agg #[.int .u8 0, .int .u8 0, .int .u32 0, .int .u64 0], .int .i64 30]) ∧ Below w.heap.size w w' := by
  have c0 : w.cell? ⟨b, off, none⟩ = some (.int .u8 (z 0)) := hc.at' 0 (by omega)
  have c1 := hc.at' 1 (by omega)
  have c2 := hc.at' 2 (by omega)
  have c3 := hc.at' 3 (by omega)
  have hbl := cell_lt c0
  have q1 : (16 : Int) ≤ (cap : Int) := by omega
  have q2 : (8 : Int) ≤ (cap : Int) := by omega
  have e4 : ¬ cap = 4 := by omega
  have e8 : ¬ cap = 8 := by omega
  have hcA : Cells (w.alloc (.cells #[.int .u8 0, .int .u8 0, .int .u32 0, .int .u64 0] 43)).drew .u8 (some ⟨b, off, none⟩) 16 z := hc.below (((Below.refl _ w).alloc (Nat.le_refl _) _).drew)
  have hcB : Cells ((w.alloc (.cells #[.int .u8 0, .int .u8 0, .int .u32 0, .int .u64 0] 43)).alloc (.cells #[.int .u8 0, .int .u8 0, .int .u32 0, .int .u64 0] 43)).drew .u8 (some ⟨b, off, none⟩) 16 z := hc.below ((((Below.refl _ w).alloc (Nat.le_refl _) _).alloc (by simp) _).drew)
  have hrA4 := fun cp => rnumber_any (some ⟨b, off + 4, none⟩) 4 cp (fun j => z (4 + j)) _ (by omega) (hcA.part 4 4 (by omega)) (hb.part 4 4 (by omega))
  have hrA8 := fun cp => rnumber_any (some ⟨b, off + 8, none⟩) 8 cp (fun j => z (8 + j)) _ (by omega) (hcA.part 8 8 (by omega)) (hb.part 8 8 (by omega))
  have hrB4 := fun cp => rnumber_any (some ⟨b, off + 4, none⟩) 4 cp (fun j => z (4 + j)) _ (by omega) (hcB.part 4 4 (by omega)) (hb.part 4 4 (by omega))
  have hrB8 := fun cp => rnumber_any (some ⟨b, off + 8, none⟩) 8 cp (fun j => z (8 + j)) _ (by omega) (hcB.part 8 8 (by omega)) (hb.part 8 8 (by omega))
  obtain ⟨n0, n1⟩ := numI_lt (hb.part 4 4 (by omega))
  have HW : Hid (IntKind.u32.wrap (n4 z) = n4 z) := by
    rw [IntKind.wrap_u32]; exact Int.emod_eq_of_lt n0 n1
  change ∀ cp, Calls _ _ _ _ (fun e w' => e = .returned (.int .u64 (n4 z)) ∧ _) at hrA4 hrB4
  change ∀ cp, Calls _ _ _ _ (fun e w' => e = .returned (.int .u64 (n8 z)) ∧ _) at hrA8 hrB8
  clear hcA hcB hc hb n0 n1
  generalize n4 z = x4 at *
  generalize n8 z = x8 at *
  generalize z 0 = x0 at *
  generalize z 1 = x1 at *
  generalize z 2 = x2 at *
  generalize z 3 = x3 at *
  have hz : (x3 == 0) = false := by simpa using h3
  subst h2
  go_enter Try.func18, Try.ntmps18
  go_wp2
  go_region_held3 (fun w' => w'.cell? ⟨b, off, none⟩ = some (.int .u8 x0) ∧ w'.cell? ⟨b, off + 1, none⟩ = some (.int .u8 x1) ∧ w'.cell? ⟨b, off + 2, none⟩ = some (.int .u8 0)) (go_keep) (first
    | (go_at_call 32; with_reducible refine (hrA4 _).mono ?_; rintro e w' ⟨rfl, rfl⟩)
    | (go_at_call 32; with_reducible refine (hrA8 _).mono ?_; rintro e w' ⟨rfl, rfl⟩)
    | (go_at_call 32; with_reducible refine (hrB4 _).mono ?_; rintro e w' ⟨rfl, rfl⟩)
    | (go_at_call 32; with_reducible refine (hrB8 _).mono ?_; rintro e w' ⟨rfl, rfl⟩))
  all_goals
    rw [HW.out]
    clear hrA4 hrA8 hrB4 hrB8
    go_wp2_with fail
    exact bodyPost_ret (v := .tuple #[.agg #[.int .u8 0, .int .u8 0, .int .u32 0, .int .u64 0], .int .i64 30]) (by simp [results, Try.results18, go_sem]) rfl ⟨rfl, (((Below.refl _ _).alloc (Nat.le_refl _) _).alloc (by simp) _).drew⟩
set_option maxHeartbeats 4000000 in
theorem rparser_bad (b off cap : Nat) (z : Nat → Int) (w : World) (hcap : 16 ≤ cap) (hc : Cells w .u8 (some ⟨b, off, none⟩) 16 z) (hb : Byt z 16) (h2 : z 2 = 0) (h3 : z 3 = 0) (hok : repB (z 0) (z 1) (n4 z) (n8 z) = false) :
    Calls Try.prog 18 #[.slice (some ⟨b, off, none⟩) 16 cap] w fun e w' => e = .returned (.tuple #[.agg #[.int .u8 0, .int .u8 0, .int .u32 0, .int .u64 0], .int .i64 30]) ∧ Below w.heap.size w w' := by
  have his := fun w => isrep_any (z 0) (z 1) (n4 z) (n8 z) w
  rw [hok] at his
  have c0 : w.cell? ⟨b, off, none⟩ = some (.int .u8 (z 0)) := hc.at' 0 (by omega)
  have c1 := hc.at' 1 (by omega)
  have c2 := hc.at' 2 (by omega)
  have c3 := hc.at' 3 (by omega)
  have hbl := cell_lt c0
  have q1 : (16 : Int) ≤ (cap : Int) := by omega
  have q2 : (8 : Int) ≤ (cap : Int) := by omega
  have e4 : ¬ cap = 4 := by omega
  have e8 : ¬ cap = 8 := by omega
  have hcA : Cells (w.alloc (.cells #[.int .u8 0, .int .u8 0, .int .u32 0, .int .u64 0] 43)).drew .u8 (some ⟨b, off, none⟩) 16 z := hc.below (((Below.refl _ w).alloc (Nat.le_refl _) _).drew)
  have hcB : Cells ((w.alloc (.cells #[.int .u8 0, .int .u8 0, .int .u32 0, .int .u64 0] 43)).alloc (.cells #[.int .u8 0, .int .u8 0, .int .u32 0, .int .u64 0] 43)).drew .u8 (some ⟨b, off, none⟩) 16 z := hc.below ((((Below.refl _ w).alloc (Nat.le_refl _) _).alloc (by simp) _).drew)
  have hrA4 := fun cp => rnumber_any (some ⟨b, off + 4, none⟩) 4 cp (fun j => z (4 + j)) _ (by omega) (hcA.part 4 4 (by omega)) (hb.part 4 4 (by omega))
  have hrA8 := fun cp => rnumber_any (some ⟨b, off + 8, none⟩) 8 cp (fun j => z (8 + j)) _ (by omega) (hcA.part 8 8 (by omega)) (hb.part 8 8 (by omega))
  have hrB4 := fun cp => rnumber_any (some ⟨b, off + 4, none⟩) 4 cp (fun j => z (4 + j)) _ (by omega) (hcB.part 4 4 (by omega)) (hb.part 4 4 (by omega))
  have hrB8 := fun cp => rnumber_any (some ⟨b, off + 8, none⟩) 8 cp (fun j => z (8 + j)) _ (by omega) (hcB.part 8 8 (by omega)) (hb.part 8 8 (by omega))
  obtain ⟨n0, n1⟩ := numI_lt (hb.part 4 4 (by omega))
  have HW : Hid (IntKind.u32.wrap (n4 z) = n4 z) := by
    rw [IntKind.wrap_u32]; exact Int.emod_eq_of_lt n0 n1
  change ∀ cp, Calls _ _ _ _ (fun e w' => e = .returned (.int .u64 (n4 z)) ∧ _) at hrA4 hrB4
  change ∀ cp, Calls _ _ _ _ (fun e w' => e = .returned (.int .u64 (n8 z)) ∧ _) at hrA8 hrB8
  clear hcA hcB hc hb n0 n1
  clear hok
  generalize n4 z = x4 at *
  generalize n8 z = x8 at *
  generalize z 0 = x0 at *
  generalize z 1 = x1 at *
  generalize z 2 = x2 at *
  generalize z 3 = x3 at *
  subst h2 h3
  go_enter Try.func18, Try.ntmps18
  go_wp2
  go_region_held3 (fun w' => w'.cell? ⟨b, off, none⟩ = some (.int .u8 x0) ∧ w'.cell? ⟨b, off + 1, none⟩ = some (.int .u8 x1) ∧ w'.cell? ⟨b, off + 2, none⟩ = some (.int .u8 0)) (go_keep) (first
    | (go_at_call 32; with_reducible refine (hrA4 _).mono ?_; rintro e w' ⟨rfl, rfl⟩)
    | (go_at_call 32; with_reducible refine (hrA8 _).mono ?_; rintro e w' ⟨rfl, rfl⟩)
    | (go_at_call 32; with_reducible refine (hrB4 _).mono ?_; rintro e w' ⟨rfl, rfl⟩)
    | (go_at_call 32; with_reducible refine (hrB8 _).mono ?_; rintro e w' ⟨rfl, rfl⟩))
  all_goals
    rw [HW.out]
    clear hrA4 hrA8 hrB4 hrB8
    go_wp2_with fail
    refine (his _).mono ?_
    rintro e w2 ⟨rfl, hb2⟩
    have hB : Below (w.heap.size + 1) (w.alloc (.cells #[.int .u8 0, .int .u8 0, .int .u32 0, .int .u64 0] 43)) w2 := ((((Below.refl _ _).alloc (by simp) _).drew).trans (hb2.mono (by simp)))
    obtain ⟨d0, d1, d2, d3⟩ := agg4_cells _ _ _ _ _ _ _ hB
    have g := agg4_frozen _ _ _ _ _ _ _ hB
    have hb0' : Below w.heap.size w w2 := ((Below.refl _ w).alloc (Nat.le_refl _) _).trans (hB.mono (by omega))
    clear hb2 hB his
    go_wp2_with fail
    refine bodyPost_ret (v := .tuple #[.agg #[.int .u8 0, .int .u8 0, .int .u32 0, .int .u64 0], .int .i64 30]) (by simp [results, Try.results18, go_sem, d0, d1, d2, d3]) rfl ⟨rfl, ?_⟩
    repeat' with_reducible first | exact hb0' | refine Below.setCell ?_ ?_ _ | refine Below.alloc ?_ ?_ _ | refine Below.drew ?_
    all_goals simp
set_option maxHeartbeats 4000000 in
theorem rparser_ok (b off cap : Nat) (z : Nat → Int) (w : World) (hcap : 16 ≤ cap) (hc : Cells w .u8 (some ⟨b, off, none⟩) 16 z) (hb : Byt z 16) (h2 : z 2 = 0) (h3 : z 3 = 0) (hok : repB (z 0) (z 1) (n4 z) (n8 z) = true) :
    Calls Try.prog 18 #[.slice (some ⟨b, off, none⟩) 16 cap] w fun e w' => e = .returned (.tuple #[.agg #[.int .u8 (z 0), .int .u8 (z 1), .int .u32 (n4 z), .int .u64 (n8 z)], .int .i64 0]) ∧ Below w.heap.size w w' := by
  have his := fun w => isrep_any (z 0) (z 1) (n4 z) (n8 z) w
  rw [hok] at his
  have c0 : w.cell? ⟨b, off, none⟩ = some (.int .u8 (z 0)) := hc.at' 0 (by omega)
  have c1 := hc.at' 1 (by omega)
  have c2 := hc.at' 2 (by omega)
  have c3 := hc.at' 3 (by omega)
  have hbl := cell_lt c0
  have q1 : (16 : Int) ≤ (cap : Int) := by omega
  have q2 : (8 : Int) ≤ (cap : Int) := by omega
  have e4 : ¬ cap = 4 := by omega
  have e8 : ¬ cap = 8 := by omega
  have hcA : Cells (w.alloc (.cells #[.int .u8 0, .int .u8 0, .int .u32 0, .int .u64 0] 43)).drew .u8 (some ⟨b, off, none⟩) 16 z := hc.below (((Below.refl _ w).alloc (Nat.le_refl _) _).drew)
  have hcB : Cells ((w.alloc (.cells #[.int .u8 0, .int .u8 0, .int .u32 0, .int .u64 0] 43)).alloc (.cells #[.int .u8 0, .int .u8 0, .int .u32 0, .int .u64 0] 43)).drew .u8 (some ⟨b, off, none⟩) 16 z := hc.below ((((Below.refl _ w).alloc (Nat.le_refl _) _).alloc (by simp) _).drew)
  have hrA4 := fun cp => rnumber_any (some ⟨b, off + 4, none⟩) 4 cp (fun j => z (4 + j)) _ (by omega) (hcA.part 4 4 (by omega)) (hb.part 4 4 (by omega))
  have hrA8 := fun cp => rnumber_any (some ⟨b, off + 8, none⟩) 8 cp (fun j => z (8 + j)) _ (by omega) (hcA.part 8 8 (by omega)) (hb.part 8 8 (by omega))
  have hrB4 := fun cp => rnumber_any (some ⟨b, off + 4, none⟩) 4 cp (fun j => z (4 + j)) _ (by omega) (hcB.part 4 4 (by omega)) (hb.part 4 4 (by omega))
  have hrB8 := fun cp => rnumber_any (some ⟨b, off + 8, none⟩) 8 cp (fun j => z (8 + j)) _ (by omega) (hcB.part 8 8 (by omega)) (hb.part 8 8 (by omega))
  obtain ⟨n0, n1⟩ := numI_lt (hb.part 4 4 (by omega))
  have HW : Hid (IntKind.u32.wrap (n4 z) = n4 z) := by
    rw [IntKind.wrap_u32]; exact Int.emod_eq_of_lt n0 n1
  change ∀ cp, Calls _ _ _ _ (fun e w' => e = .returned (.int .u64 (n4 z)) ∧ _) at hrA4 hrB4
  change ∀ cp, Calls _ _ _ _ (fun e w' => e = .returned (.int .u64 (n8 z)) ∧ _) at hrA8 hrB8
  clear hcA hcB hc hb n0 n1
  clear hok
  generalize n4 z = x4 at *
  generalize n8 z = x8 at *
  generalize z 0 = x0 at *
  generalize z 1 = x1 at *
  generalize z 2 = x2 at *
  generalize z 3 = x3 at *
  subst h2 h3
  go_enter Try.func18, Try.ntmps18
  go_wp2
  go_region_held3 (fun w' => w'.cell? ⟨b, off, none⟩ = some (.int .u8 x0) ∧ w'.cell? ⟨b, off + 1, none⟩ = some (.int .u8 x1) ∧ w'.cell? ⟨b, off + 2, none⟩ = some (.int .u8 0)) (go_keep) (first
    | (go_at_call 32; with_reducible refine (hrA4 _).mono ?_; rintro e w' ⟨rfl, rfl⟩)
    | (go_at_call 32; with_reducible refine (hrA8 _).mono ?_; rintro e w' ⟨rfl, rfl⟩)
    | (go_at_call 32; with_reducible refine (hrB4 _).mono ?_; rintro e w' ⟨rfl, rfl⟩)
    | (go_at_call 32; with_reducible refine (hrB8 _).mono ?_; rintro e w' ⟨rfl, rfl⟩))
  all_goals
    rw [HW.out]
    clear hrA4 hrA8 hrB4 hrB8
    go_wp2_with fail
    refine (his _).mono ?_
    rintro e w2 ⟨rfl, hb2⟩
    have hB : Below (w.heap.size + 1) (w.alloc (.cells #[.int .u8 0, .int .u8 0, .int .u32 0, .int .u64 0] 43)) w2 := ((((Below.refl _ _).alloc (by simp) _).drew).trans (hb2.mono (by simp)))
    obtain ⟨d0, d1, d2, d3⟩ := agg4_cells _ _ _ _ _ _ _ hB
    have g := agg4_frozen _ _ _ _ _ _ _ hB
    have hb0' : Below w.heap.size w w2 := ((Below.refl _ w).alloc (Nat.le_refl _) _).trans (hB.mono (by omega))
    have hB2 : Below (w.heap.size + 1 + 1) ((w.alloc (.cells #[.int .u8 0, .int .u8 0, .int .u32 0, .int .u64 0] 43)).alloc (.cells #[.int .u8 x0, .int .u8 x1, .int .u32 x4, .int .u64 x8] 43)) w2 := ((Below.refl _ _).drew).trans (hb2.mono (by simp))
    have hs1 : (w.alloc (.cells #[.int .u8 0, .int .u8 0, .int .u32 0, .int .u64 0] 43)).heap.size = w.heap.size + 1 := by simp
    obtain ⟨r0, r1, r2, r3⟩ := agg4_cells (w.alloc (.cells #[.int .u8 0, .int .u8 0, .int .u32 0, .int .u64 0] 43)) w2 _ _ _ _ 43 (by rw [hs1]; exact hB2)
    rw [hs1] at r0 r1 r2 r3
    clear hB2 hs1
    clear hb2 hB his
    go_wp2_with fail
    refine bodyPost_ret (v := .tuple #[.agg #[.int .u8 x0, .int .u8 x1, .int .u32 x4, .int .u64 x8], .int .i64 0]) (by simp [results, Try.results18, go_sem, d0, d1, d2, d3]) rfl ⟨rfl, ?_⟩
    repeat' with_reducible first | exact hb0' | refine Below.setCell ?_ ?_ _ | refine Below.alloc ?_ ?_ _ | refine Below.drew ?_
    all_goals simp

end Go.Proofs.Ytmhkkdbfejajeaa
