/- Bytes as strings; bytes that were laid, read again. -/
import Derived.Test.YtmhkkdbfejajeabWByt
import Derived.Laws.BytesArg
namespace Go.Proofs.Ytmhkkdbfejajeab
open Go.RowKit

theorem below_alloc (w : World) (o : Obj) : Below w.heap.size w (w.alloc o) := (Below.refl _ _).alloc (Nat.le_refl _) _
/-- the string of the bytes z 0 .. z (n-1) -/
def strZ (n : Nat) (z : Nat → Int) : ByteArray := strOfNums ((List.range n).map z)
theorem strZ_congr {n : Nat} {z y : Nat → Int} (h : ∀ j, j < n → z j = y j) : strZ n z = strZ n y := by
  unfold strZ
  rw [List.map_congr_left (fun j hj => h j (by simpa using hj))]
theorem conv_cells {w : World} {a : Option Addr} {n cap : Nat} {z : Nat → Int} (h : Cells w .u8 a n z) (ha : a = none → n = 0) :
    ∀ dst, Try.prog.underlying dst = some .string → (convert 22 dst (.slice a n cap)).run Try.prog w = .ok (.string (strZ n z)) w := by
  intro dst hd
  cases n with
  | zero =>
    cases a with
    | none => exact run_convert_bytes_nil w 22 5 Try.underlying22 Try.underlying5 0 cap dst hd
    | some a =>
      have hl : (loadCells a 0).run Try.prog w = .ok (([] : List Int).map (Value.int .u8)).toArray w := run_loadCells_list (P := Try.prog) w a [] (fun j v hj => by simp at hj)
      rw [run_convert_bytes_string w 22 dst 5 _ 0 cap Try.underlying22 Try.underlying5 hd, run_bytesToString w a 0 cap [] hl]
      rfl
  | succ n =>
    obtain ⟨b, off, rfl⟩ := cells_some h (by omega)
    refine run_convert_bytes_arg w 22 5 Try.underlying22 Try.underlying5 b off (n + 1) cap ((List.range (n + 1)).map z) (by simp) ?_ dst hd
    intro i hi
    rw [h.at' i hi]
    simp [List.getD, hi]
theorem conv_at {w : World} {b off n cap : Nat} {z : Nat → Int} (h : Cells w .u8 (some ⟨b, off, none⟩) n z) : (convert 22 9 (.slice (some ⟨b, off, none⟩) n cap)).run Try.prog w = .ok (.string (strZ n z)) w :=
  conv_cells h (fun e => by cases e) 9 Try.underlying9
theorem conv_nil (w : World) : (convert 22 9 (.slice none 0 0)).run Try.prog w = .ok (.string ByteArray.empty) w :=
  run_convert_bytes_nil w 22 5 Try.underlying22 Try.underlying5 0 0 9 Try.underlying9

theorem n4_lay (a b c h p : Int) (h0 : 0 ≤ h) (h1 : h < 4294967296) : n4 (layZ a b c h p) = h := by
  have e : n4 (layZ a b c h p) = numI (byI h) 4 := numI_congr fun j hj => by
    unfold layZ
    rw [if_neg (by omega), if_neg (by omega), if_neg (by omega), if_neg (by omega), if_pos (by omega), show 4 + j - 4 = j by omega]
  rw [e, numI_byI]
  exact Int.emod_eq_of_lt h0 h1
theorem n8_lay (a b c h p : Int) (p0 : 0 ≤ p) (p1 : p < 18446744073709551616) : n8 (layZ a b c h p) = p := by
  have e : n8 (layZ a b c h p) = numI (byI p) 8 := numI_congr fun j hj => by
    unfold layZ
    rw [if_neg (by omega), if_neg (by omega), if_neg (by omega), if_neg (by omega), if_neg (by omega), show 8 + j - 8 = j by omega]
  rw [e, numI_byI]
  exact Int.emod_eq_of_lt p0 p1
theorem byt_lay (a b c h p : Int) (a0 : 0 ≤ a ∧ a < 256) (b0 : 0 ≤ b ∧ b < 256) (c0 : 0 ≤ c ∧ c < 256) : Byt (layZ a b c h p) 16 := by
  intro j _
  unfold layZ
  by_cases e0 : j = 0
  · rw [if_pos e0]; exact a0
  · rw [if_neg e0]
    by_cases e1 : j = 1
    · rw [if_pos e1]; exact b0
    · rw [if_neg e1]
      by_cases e2 : j = 2
      · rw [if_pos e2]; exact c0
      · rw [if_neg e2]
        by_cases e3 : j = 3
        · rw [if_pos e3]; omega
        · rw [if_neg e3]
          by_cases e4 : j < 8
          · rw [if_pos e4]; exact byI_lt _ _
          · rw [if_neg e4]; exact byI_lt _ _
/-- what is read has just these bytes -/
theorem lay_read {z : Nat → Int} (hb : Byt z 16) (h3 : z 3 = 0) : ∀ j, j < 16 → layZ (z 0) (z 1) (z 2) (n4 z) (n8 z) j = z j := by
  intro j hj
  unfold layZ
  by_cases e0 : j = 0
  · rw [if_pos e0, e0]
  · rw [if_neg e0]
    by_cases e1 : j = 1
    · rw [if_pos e1, e1]
    · rw [if_neg e1]
      by_cases e2 : j = 2
      · rw [if_pos e2, e2]
      · rw [if_neg e2]
        by_cases e3 : j = 3
        · rw [if_pos e3, e3, h3]
        · rw [if_neg e3]
          by_cases e4 : j < 8
          · rw [if_pos e4]
            refine (byI_numI (hb.part 4 4 (by omega)) (j - 4) (by omega)).trans ?_
            show z (4 + (j - 4)) = z j
            rw [show 4 + (j - 4) = j by omega]
          · rw [if_neg e4]
            refine (byI_numI (hb.part 8 8 (by omega)) (j - 8) (by omega)).trans ?_
            show z (8 + (j - 8)) = z j
            rw [show 8 + (j - 8) = j by omega]

end Go.Proofs.Ytmhkkdbfejajeab
