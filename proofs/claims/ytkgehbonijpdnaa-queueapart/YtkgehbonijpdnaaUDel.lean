/- slices.IndexFunc and slices.DeleteFunc, with Reset's function. -/
import Derived.Test.YtkgehbonijpdnaaUTake
namespace Go.Proofs.Ytkgehbonijpdnaa
open Go.RowKit
set_option maxRecDepth 100000

theorem reset1_any (m : PMs) (B : Nat) (i : Int) (w : World) (hB : w.cell? ⟨B, 0, none⟩ = some (.int .i64 i)) :
    Calls Try.prog 26 #[meV m, .pointer (some ⟨B, 0, none⟩)] w fun e w' => e = .returned (.bool (m.ln == i)) ∧ Below w.heap.size w w' := by
  have hl := cell_lt hB
  go_enter Try.func26, Try.ntmps26
  go_wp2_with fail
  go_ret
  exact ⟨rfl, below_new _ _⟩
abbrev fnR (B : Nat) : Value := .func (.func 26) #[] #[.pointer (some ⟨B, 0, none⟩)]
set_option maxHeartbeats 1000000 in
theorem indexR_any (v : Value) (ms : List PMs) (B : Nat) (i : Int) (w : World) (hn : ms.length ≤ 1000) (hv : Sl w 4 ms.length (encMs ms) v) (hB : w.cell? ⟨B, 0, none⟩ = some (.int .i64 i)) :
    Calls Try.prog 35 #[v, fnR B] w fun e w' => ((e = .returned (.int .i64 (-1)) ∧ ∀ j, j < ms.length → ((atM ms j).ln == i) = false) ∨ ∃ k : Nat, e = .returned (.int .i64 (k : Int)) ∧ k < ms.length ∧ ((atM ms k).ln == i) = true ∧ ∀ j, j < k → ((atM ms j).ln == i) = false) ∧ Below w.heap.size w w' := by
  obtain ⟨a, cap, rfl, hcap, _, hr⟩ := hv
  have HR : Hid (Rd w a ms.length 4 (encMs ms)) := hr
  have HB : Hid (w.cell? ⟨B, 0, none⟩ = some (.int .i64 i)) := hB
  clear hr hB
  go_enter Try.func35, Try.ntmps35
  go_wp2_with fail
  go_loopw [8] (fun t wr => ∃ k : Nat, k ≤ ms.length ∧ t = .int .i64 k ∧ Hid (∀ j, j < k → ((atM ms j).ln == i) = false) ∧ Hid (Below w.heap.size w wr)) (fun t _ => ms.length - (intOf t).toNat)
  case atStart => exact ⟨0, Nat.zero_le _, rfl, fun j hj => absurd hj (by omega), Below.refl _ _⟩
  case round =>
    obtain ⟨k, hk, rfl, hall, hbel⟩ := hrel
    by_cases hlt : k < ms.length
    · obtain ⟨b, off, rfl, h0, h1, h2, h3⟩ := (HR.out.below hbel.out).four hlt
      have hB : wr.cell? ⟨B, 0, none⟩ = some (.int .i64 i) := (hbel.out.cell (p := ⟨B, 0, none⟩) (cell_lt HB.out)).trans HB.out
      obtain ⟨x, hx⟩ : ∃ x, x = atM ms k := ⟨_, rfl⟩
      have HX : Hid (x = atM ms k) := hx
      have h0' : wr.cell? ⟨b, off + k * 4, none⟩ = some (.int .i64 x.ln) := by rw [hx]; exact h0
      have h1' : wr.cell? ⟨b, off + k * 4 + 1, none⟩ = some (.int .i64 x.ep) := by rw [hx]; exact h1
      have h2' : wr.cell? ⟨b, off + k * 4 + 2, none⟩ = some (.int .i64 x.n) := by rw [hx]; exact h2
      have h3' : wr.cell? ⟨b, off + k * 4 + 3, none⟩ = some (.int .u64 x.pay) := by rw [hx]; exact h3
      have hc := reset1_any x B i wr hB
      clear hx h0 h1 h2 h3
      cases hq : (x.ln == i)
      · rw [hq] at hc
        have HQ : Hid (((atM ms k).ln == i) = false) := by show _ = _; rw [← HX.out]; exact hq
        clear hq
        go_wp2_with fail
        refine hc.mono ?_
        rintro e w1 ⟨rfl, hb1⟩
        go_wp2_with fail
        refine ⟨⟨k + 1, by omega, by go_num, ?_, Below.onto hbel.out hb1⟩, by simp [intOf]; omega⟩
        intro j hj
        by_cases e : j = k
        · subst e; exact HQ.out
        · exact hall.out j (by omega)
      · rw [hq] at hc
        have HQ : Hid (((atM ms k).ln == i) = true) := by show _ = _; rw [← HX.out]; exact hq
        clear hq
        go_wp2_with fail
        refine hc.mono ?_
        rintro e w1 ⟨rfl, hb1⟩
        go_wp2_with fail
        go_ret
        exact ⟨.inr ⟨k, rfl, hlt, HQ.out, hall.out⟩, Below.onto hbel.out hb1⟩
    · obtain rfl : k = ms.length := by omega
      go_wp2_with fail
      go_ret
      exact ⟨.inl ⟨rfl, hall.out⟩, hbel.out⟩
theorem zc_len (zs : Array Value) (n : Nat) : (Builtin.zeroCells zs n).toList.length = n * zs.size := by simp [Builtin.zeroCells]
theorem zc_mem {zs : Array Value} {n : Nat} (h1 : ∀ u ∈ zs.toList, u.oneCell' = true) (h0 : 0 < zs.size) : ∀ v ∈ (Builtin.zeroCells zs n).toList, v.oneCell' = true := by
  intro v hv
  simp only [Builtin.zeroCells, Array.toList_map, List.mem_map] at hv
  obtain ⟨i, _, rfl⟩ := hv
  have h : i % zs.size < zs.size := Nat.mod_lt _ h0
  rw [getElem!_pos zs (i % zs.size) h]
  exact h1 _ (by simp)
/-- the elements from a on are set to zero -/
theorem clear_rw {t e ty : TypeId} {size bytes n a cap : Nat} {z : Value} {c : Nat → Nat → Value} (E0 : Elt t e size bytes z) {w : World} {g : Nat} (hz : (zeroValue e).run Try.prog w = .ok z w) (h1 : ∀ u ∈ z.cells.toList, u.oneCell' = true) (hg : Rw w g e n size c) (ha : a < n) :
    ∃ W, (Builtin.clear_ #[t] ty #[.slice (some ⟨g, a * size, none⟩) (n - a) cap]).run Try.prog w = .ok (.tuple #[]) W ∧ (∀ j, j < a → ∀ f, f < size → W.cell? ⟨g, j * size + f, none⟩ = some (c j f)) ∧ (∀ B, B ≤ g → Below B w W) ∧ W.heap.size = w.heap.size := by
  obtain ⟨arr, hb, hs, hc⟩ := hg
  have hzl := zc_len z.cells (n - a)
  rw [E0.hz] at hzl
  have hsum : a * size + (n - a) * size = n * size := by rw [← Nat.add_mul]; congr 1; omega
  have hst := run_storeCells_at Try.prog g (a * size) e (Builtin.zeroCells z.cells (n - a)).toList 0 arr w hb (by omega) (zc_mem h1 (by rw [E0.hz]; exact E0.hs))
  obtain ⟨row, hrow⟩ : ∃ row, (arr.toList.take (a * size + 0) ++ (Builtin.zeroCells z.cells (n - a)).toList ++ arr.toList.drop (a * size + 0 + (Builtin.zeroCells z.cells (n - a)).toList.length)).toArray = row := ⟨_, rfl⟩
  rw [hrow] at hst
  have hbl : (w.setRow g row).heap[g]? = some (.cells row e (0, 0)) := setRow_heap w g _ _ _ _ hb
  refine ⟨w.setRow g row, ?_, fun j hj f hf => ?_, fun B hB => ⟨rfl, rfl, rfl, by simp [World.setRow], fun k hk => setRow_other w g k _ (by omega)⟩, by simp [World.setRow]⟩
  · obtain ⟨m, hm⟩ : ∃ m, n - a = m + 1 := ⟨n - a - 1, by omega⟩
    rw [hm] at hst ⊢
    simp [Builtin.clear_, run_underlying E0.ht, hz, hst]
  · have hlt := mul_lt_of hj hf
    rw [cell_of_row _ _ _ _ e (0, 0) hbl, ← hrow, List.getElem?_toArray, List.append_assoc, List.getElem?_append_left (by rw [List.length_take]; simp; omega), List.getElem?_take_of_lt (by omega)]
    have := hc j (by omega) f hf
    simpa using this

end Go.Proofs.Ytkgehbonijpdnaa
