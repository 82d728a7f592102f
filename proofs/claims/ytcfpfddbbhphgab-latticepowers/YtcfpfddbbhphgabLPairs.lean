/- lattice's pairs: each two labels, by the first one, then by the second one. -/
import Derived.Test.YtcfpfddbbhphgabLRead
namespace Go.Proofs.Ytcfpfddbbhphgab
open Go.RowKit Go.Shelf
attribute [local go_sem] Oper.semAt_some
attribute [local go_sem ↓] wp_at wp_succ wp_zero wpIn_at wpIn_succ wpIn_zero

/-- all pairs with a first one below a, and those of a with a second one below b -/
def prs (n a b : Nat) : List (Nat × Nat) := ((List.range a).flatMap fun i => (List.range n).map fun j => (i, j)) ++ (List.range b).map fun j => (a, j)
theorem prs_zero (n : Nat) : prs n 0 0 = [] := rfl
theorem prs_snoc (n a b : Nat) : prs n a (b + 1) = prs n a b ++ [(a, b)] := by simp [prs, List.range_succ]
theorem prs_row (n a : Nat) : prs n a n = prs n (a + 1) 0 := by simp [prs, List.range_succ]
theorem mem_prs {n a b : Nat} {p : Nat × Nat} : p ∈ prs n a b ↔ (p.1 < a ∧ p.2 < n) ∨ (p.1 = a ∧ p.2 < b) := by
  obtain ⟨i, j⟩ := p
  simp [prs]
  constructor
  · rintro (⟨h1, h2⟩ | ⟨h1, h2⟩)
    · exact .inl ⟨h1, h2⟩
    · exact .inr ⟨h2.symm, h1⟩
  · rintro (⟨h1, h2⟩ | ⟨h1, h2⟩)
    · exact .inl ⟨h1, h2⟩
    · exact .inr ⟨h2, h1.symm⟩
theorem prs_len (n a b : Nat) : (prs n a b).length = a * n + b := by
  induction a with
  | zero => simp [prs]
  | succ a ih =>
    have : (prs n (a + 1) b).length = (prs n a n).length + b := by rw [prs_row]; simp [prs]
    rw [this]
    have h2 : (prs n a n).length + b = (prs n a b).length + n := by simp [prs]; omega
    rw [h2, ih, Nat.succ_mul]; omega

/-- two labels -/
abbrev Pr (n : Nat) : Type := { p : Nat × Nat // p.1 < n ∧ p.2 < n }
def prS (n a b : Nat) : List (Pr n) := (prs n a b).filterMap fun p => if h : p.1 < n ∧ p.2 < n then some ⟨p, h⟩ else none
theorem prS_zero (n : Nat) : prS n 0 0 = [] := rfl
theorem prS_snoc (n a b : Nat) (ha : a < n) (hb : b < n) : prS n a (b + 1) = prS n a b ++ [⟨(a, b), ha, hb⟩] := by
  unfold prS
  rw [prs_snoc, List.filterMap_append]
  simp [ha, hb]
theorem prS_row (n a : Nat) : prS n a n = prS n (a + 1) 0 := by unfold prS; rw [prs_row]
theorem prS_len (n a b : Nat) : (prS n a b).length ≤ a * n + b := by
  rw [← prs_len]; exact List.length_filterMap_le _ _
theorem mem_prS {n a b : Nat} {x : Pr n} : x ∈ prS n a b ↔ (x.1.1 < a ∨ (x.1.1 = a ∧ x.1.2 < b)) := by
  unfold prS
  rw [List.mem_filterMap]
  constructor
  · rintro ⟨p, hp, he⟩
    by_cases h : p.1 < n ∧ p.2 < n
    · rw [dif_pos h] at he
      cases he
      rcases mem_prs.1 hp with h | h
      · exact .inl h.1
      · exact .inr h
    · rw [dif_neg h] at he; cases he
  · intro h
    refine ⟨x.1, mem_prs.2 ?_, by rw [dif_pos x.2]⟩
    rcases h with h | h
    · exact .inl ⟨h, x.2.2⟩
    · exact .inr h

/-- a world that keeps the box of the policy -/
def KeepsPol (B : Nat) (u d : Value) (W W' : World) : Prop := W.heap[B]? = some (.cells #[u, d] 51 (0, 0)) → W'.heap[B]? = some (.cells #[u, d] 51 (0, 0))
theorem keepsPol_t {B : Nat} {u d : Value} {X Y Z : World} (h1 : KeepsPol B u d X Y) (h2 : KeepsPol B u d Y Z) : KeepsPol B u d X Z := fun h => h2 (h1 h)
theorem keepsPol_b {B : Nat} {u d : Value} (W : World) (l : Nat) (o o' : Obj) (hl : W.heap[l]? = some o) (hc : o.isCells = false) : KeepsPol B u d W (W.putObj l o') := fun h => by
  have hne : B ≠ l := fun e => by subst e; rw [h] at hl; cases hl; cases hc
  exact (World.putObj_heap_other hne).trans h

set_option maxRecDepth 100000 in
set_option maxHeartbeats 2000000 in
theorem pairs1_in (m : Nat) (hm : 1 ≤ m) (l B : Nat) (ua da : Option Addr) (n uc dc : Nat) (hn : n ≤ 64) (J Jx : List (Pr n) → World → Prop)
    (hY : ∀ pre (x : Pr n) W, J pre W → pre.length < 4096 → YieldAt Fence.wide (m - 1) Try.prog l #[.int .i64 (x.1.1 : Int), .int .i64 (x.1.2 : Int)] W fun e W' =>
      (e = .returned (.bool true) ∧ J (pre ++ [x]) W' ∧ KeepsPol B (.slice ua n uc) (.slice da n dc) W W') ∨ (e = .returned (.bool false) ∧ Jx (pre ++ [x]) W'))
    (W : World) (hB : W.heap[B]? = some (.cells #[.slice ua n uc, .slice da n dc] 51 (0, 0))) (h0 : J [] W) :
    CallsIn Fence.wide m Try.prog 31 #[.func (.yield l) #[] #[], .pointer (some ⟨B, 0, none⟩)] W fun e W' => (∃ v, e = .returned v) ∧
      ((∃ ys, ys = prS n n 0 ∧ J ys W') ∨ (∃ pre, (∃ a b, a < n ∧ b < n ∧ pre = prS n a (b + 1)) ∧ Jx pre W')) := by
  refine callsIn_of_wp Try.func31 rfl trivial ?_ rfl
  simp only [Try.ntmps31, List.size_toArray, List.length_cons, List.length_nil, Nat.reduceAdd, Nat.reduceSub, Array.replicate_succ, Array.replicate_zero, List.push_toArray, List.append_toArray, List.nil_append, List.cons_append]
  have hc := cell_of_row W B 0 _ 51 (0, 0) hB
  gi_wp2
  gi_loopw [8] (fun i wr => ∃ a : Nat, a ≤ n ∧ i = .int .i64 a ∧ J (prS n a 0) wr ∧ wr.heap[B]? = some (.cells #[.slice ua n uc, .slice da n dc] 51 (0, 0)))
    (fun i _ => n - (intOf i).toNat)
  case atStart => exact ⟨0, Nat.zero_le _, rfl, h0, hB⟩
  case round =>
    clear hc
    obtain ⟨a, ha, rfl, hJ, hbx⟩ := hrel
    by_cases hlt : a < n
    · have hc := cell_of_row wr B 0 _ 51 (0, 0) hbx
      gi_wp2
      gi_loopw [14] (fun i wr => ∃ b : Nat, b ≤ n ∧ i = .int .i64 b ∧ J (prS n a b) wr ∧ wr.heap[B]? = some (.cells #[.slice ua n uc, .slice da n dc] 51 (0, 0)))
        (fun i _ => n - (intOf i).toNat)
      case atStart => exact ⟨0, Nat.zero_le _, rfl, hJ, hbx⟩
      case round =>
        clear hc hJ hbx
        obtain ⟨b, hb, rfl, hJ, hbx⟩ := hrel
        by_cases hltb : b < n
        · have HM : Hid (prS n a (b + 1) = prS n a b ++ [⟨(a, b), hlt, hltb⟩]) := prS_snoc n a b hlt hltb
          have hlen : (prS n a b).length < 4096 := by
            have h0 := prS_len n a b
            have h1 : a * n ≤ 63 * n := Nat.mul_le_mul_right n (by omega)
            omega
          obtain ⟨fn, tmps, assign, body, hy, hR⟩ := hY _ ⟨(a, b), hlt, hltb⟩ _ hJ hlen
          dsimp only at hy
          gi_wp2
          refine hR.mono ?_
          rintro e W3 (⟨rfl, hJ3, hk3⟩ | ⟨rfl, hJx3⟩)
          · have hbx3 := hk3 hbx
            gi_wp2
            go_roundw
            case rel => exact ⟨b + 1, by omega, by go_num, by rw [HM.out]; exact hJ3, hbx3⟩
            case measure => simp [intOf]; omega
          · gi_wp2
            refine bodyPost_ret (results_none rfl _ _ _) rfl ?_
            exact ⟨⟨_, rfl⟩, .inr ⟨_, ⟨a, b, hlt, hltb, HM.out.symm⟩, hJx3⟩⟩
        · obtain rfl : b = n := by omega
          gi_wp2
          go_roundw
          case rel => exact ⟨a + 1, by omega, by go_num, by rw [← prS_row]; exact hJ, hbx⟩
          case measure => simp [intOf]; omega
    · obtain rfl : a = n := by omega
      gi_wp2
      go_end0
      exact ⟨⟨_, rfl⟩, .inl ⟨_, rfl, hJ⟩⟩

set_option maxHeartbeats 400000 in
theorem pairs_any (u d : Value) (w : World) :
    Calls Try.prog 21 #[.agg #[u, d]] w fun e w' => e = .returned (.func (.func 31) #[] #[.pointer (some ⟨w.heap.size, 0, none⟩)]) ∧ w' = w.alloc (.cells #[u, d] 51) := by
  go_enter Try.func21, Try.ntmps21
  go_wp2
  go_ret
  exact ⟨rfl, rfl⟩

theorem pairs_stops (m : Nat) (hm : 1 ≤ m) (B : Nat) (ua da : Option Addr) (n uc dc : Nat) (hn : n ≤ 64) (w : World) (hB : w.heap[B]? = some (.cells #[.slice ua n uc, .slice da n dc] 51 (0, 0))) :
    SeqStopsK Fence.wide m Try.prog 31 #[.pointer (some ⟨B, 0, none⟩)] (fun x : Pr n => #[Value.int .i64 (x.1.1 : Int), Value.int .i64 (x.1.2 : Int)]) (KeepsPol B (.slice ua n uc) (.slice da n dc)) (fun ys => ys = prS n n 0) (fun pre => ∃ a b, a < n ∧ b < n ∧ pre = prS n a (b + 1)) 4096 w :=
  fun l J Jx W hW _ _ hY h0 => pairs1_in m hm l B ua da n uc dc hn J Jx hY W ((hW.block B (Array.getElem?_eq_some_iff.1 hB).1).trans hB) h0

end Go.Proofs.Ytcfpfddbbhphgab
