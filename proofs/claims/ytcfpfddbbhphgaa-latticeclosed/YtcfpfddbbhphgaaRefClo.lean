/- The document's own closure: all that is come to, step by step. -/
import Derived.Test.YtcfpfddbbhphgaaCloMath
import Derived.Test.YtcfpfddbbhphgaaRefThen
namespace Go.Proofs.Ytcfpfddbbhphgaa
open Go.RowKit Go.Shelf

def passTo (z : Nat → Int) (s : Int) : Nat → Int
  | 0 => s
  | i + 1 => if tb s i then rowSet (passTo z s i) (mems (z i)) else passTo z s i
theorem passTo_bd {z : Nat → Int} {s : Int} (h0 : 0 ≤ s) (h1 : s < 18446744073709551616) (i : Nat) : 0 ≤ passTo z s i ∧ passTo z s i < 18446744073709551616 := by
  induction i with
  | zero => exact ⟨h0, h1⟩
  | succ i ih =>
    unfold passTo
    split
    · exact rowSet_bd ih.1 ih.2 _ (fun x hx => (mem_mems.1 hx).1)
    · exact ih
theorem tb_passTo {z : Nat → Int} {s : Int} (j : Nat) (hj : j < 64) : ∀ i, tb (passTo z s i) j = true ↔ tb s j = true ∨ ∃ m, m < i ∧ tb s m = true ∧ tb (z m) j = true := by
  intro i
  induction i with
  | zero => simp [passTo]
  | succ i ih =>
    unfold passTo
    cases ht : tb s i
    · rw [if_neg (by decide), ih]
      constructor
      · rintro (h | ⟨m, h1, h2⟩)
        · exact .inl h
        · exact .inr ⟨m, by omega, h2⟩
      · rintro (h | ⟨m, h1, h2, h3⟩)
        · exact .inl h
        · by_cases e : m = i
          · subst e; rw [ht] at h2; cases h2
          · exact .inr ⟨m, by omega, h2, h3⟩
    · rw [if_pos rfl, tb_rowSet, Bool.or_eq_true, ih, decide_eq_true_iff, mem_mems]
      constructor
      · rintro ((h | ⟨m, h1, h2⟩) | h)
        · exact .inl h
        · exact .inr ⟨m, by omega, h2⟩
        · exact .inr ⟨i, by omega, ht, h.2⟩
      · rintro (h | ⟨m, h1, h2, h3⟩)
        · exact .inl (.inl h)
        · by_cases e : m = i
          · subst e; exact .inr ⟨hj, h3⟩
          · exact .inl (.inr ⟨m, by omega, h2, h3⟩)

theorem len_le {r t : Int} (h : ∀ j, tb r j = true → tb t j = true) (n : Nat) : (memsTo r n).length ≤ (memsTo t n).length := by
  induction n with
  | zero => exact Nat.le_refl _
  | succ n ih =>
    rw [memsTo_succ, memsTo_succ, List.length_append, List.length_append]
    cases h1 : tb r n
    · simp; omega
    · rw [h n h1]; simp; omega
theorem len_lt {r t : Int} (h : ∀ j, tb r j = true → tb t j = true) {j : Nat} (h1 : tb r j = false) (h2 : tb t j = true) : ∀ n, j < n → (memsTo r n).length < (memsTo t n).length := by
  intro n
  induction n with
  | zero => intro hj; omega
  | succ n ih =>
    intro hj
    rw [memsTo_succ, memsTo_succ, List.length_append, List.length_append]
    by_cases e : j = n
    · subst e
      have := len_le h j
      rw [h1, h2]; simp; omega
    · have := ih (by omega)
      cases h3 : tb r n
      · simp; omega
      · rw [h n h3]; simp; omega
theorem mems_lt {r t : Int} (hr0 : 0 ≤ r) (hr1 : r < 18446744073709551616) (ht0 : 0 ≤ t) (ht1 : t < 18446744073709551616) (h : ∀ j, tb r j = true → tb t j = true) (hne : t ≠ r) : (mems r).length < (mems t).length := by
  have hex : ∃ j, j < 64 ∧ tb r j = false ∧ tb t j = true := by
    apply Classical.byContradiction
    intro hno
    apply hne
    refine eq_of_tb64 ht0 ht1 hr0 hr1 fun j hj => ?_
    cases h1 : tb r j
    · cases h2 : tb t j
      · rfl
      · exact absurd ⟨j, hj, h1, h2⟩ hno
    · exact h j h1
  obtain ⟨j, hj, h1, h2⟩ := hex
  exact len_lt h h1 h2 64 hj
theorem take_mems {r : Int} {q : Nat} (hq : q < (mems r).length) : ∃ x : Nat, x < 64 ∧ memAt r q = (x : Int) ∧ (mems r).take (q + 1) = (mems r).take q ++ [x] := by
  refine ⟨(mems r)[q], (mem_mems.1 (List.getElem_mem hq)).1, by simp [memAt, hq], ?_⟩
  rw [List.take_succ_eq_append_getElem hq]

def msr (v : Value) : Nat := 64 - (mems (intOf v)).length
set_option maxRecDepth 100000 in
set_option maxHeartbeats 4000000 in
theorem reach_any (a : Option Addr) (n cap : Nat) (z : Nat → Int) (s : Int) (w : World) (hn : n ≤ 64) (hc : Cells w .u64 a n z) (hz : ∀ j, j < n → 0 ≤ z j ∧ z j < 18446744073709551616) (hs0 : 0 ≤ s) (hs1 : s < 18446744073709551616) :
    Calls Try.prog 58 #[.slice a n cap, .int .u64 s] w fun e w' => ∃ r, e = .returned (.int .u64 r) ∧ 0 ≤ r ∧ IsReach n z s r ∧ Below w.heap.size w w' := by
  have HC : Hid (Cells w .u64 a n z) := hc
  have HZ : Hid (∀ j, j < n → 0 ≤ z j ∧ z j < 18446744073709551616) := hz
  clear hc hz
  go_enter Try.func58, Try.ntmps58
  go_wp2
  go_loopw [1] (fun t wr => ∃ r : Int, t = .int .u64 r ∧ 0 ≤ r ∧ r < 18446744073709551616 ∧ Hid (∀ j, tb s j = true → tb r j = true) ∧
      Hid (∀ T : Nat → Prop, (∀ j, tb s j = true → T j) → (∀ i j, i < n → T i → tb (z i) j = true → T j) → ∀ j, tb r j = true → T j) ∧ Below w.heap.size w wr) (fun t _ => msr t)
  case atStart => exact ⟨s, rfl, hs0, hs1, fun _ h => h, fun T h _ j hj => h j hj, Below.refl _ _⟩
  case round =>
    obtain ⟨r, rfl, hr0, hr1, hsub, hleast, hbel⟩ := hrel
    go_wp2
    go_loopw [5, 6] (fun t i wr => ∃ k : Nat, k ≤ n ∧ i = .int .i64 k ∧ t = .int .u64 (passTo z r k) ∧ Below w.heap.size w wr) (fun _ i _ => n - (intOf i).toNat)
    case atStart => exact ⟨0, Nat.zero_le _, rfl, rfl, hbel⟩
    case round =>
      clear hbel
      obtain ⟨k, hk, rfl, rfl, hbel⟩ := hrel
      by_cases hlt : k < n
      · obtain ⟨hz0, hz1⟩ := HZ.out k hlt
        cases ht : tb r k
        · have hh := fun w => rhas_at r k w hr0 hr1 (by omega) false ht
          have HM : Hid (passTo z r (k + 1) = passTo z r k) := by show _ = _; simp [passTo, ht]
          clear ht
          go_wp2_with (go_at_call 35; refine (hh _).mono ?_; rintro e w3 ⟨rfl, hw⟩; subst hw)
          go_roundw
          case rel => exact ⟨k + 1, by omega, by go_num, by rw [HM.out], hbel⟩
          case measure => simp [intOf]; omega
        · have hh := fun w => rhas_at r k w hr0 hr1 (by omega) true ht
          have HM : Hid (passTo z r (k + 1) = rowSet (passTo z r k) (mems (z k))) := by show _ = _; simp [passTo, ht]
          have hP := passTo_bd (z := z) hr0 hr1 k
          have hle : (mems (z k)).length ≤ 64 := memsTo_le _ 64
          generalize passTo z r k = P at *
          obtain ⟨b, off, rfl, hcell⟩ := HC.out.below hbel k hlt
          clear ht
          go_wp2_with (first | (go_at_call 35; refine (hh _).mono ?_; rintro e w3 ⟨rfl, hw⟩; subst hw) | (go_at_call 72; refine (rlist_any _ _ hz0 hz1).mono ?_; rintro e w4 ⟨a4, cap4, rfl, hc4, h4⟩))
          have HC4 : Hid (Cells w4 .i64 a4 (mems (z k)).length (memAt (z k))) := hc4
          have hb4 := Below.onto hbel h4
          clear hc4 h4 hbel hcell
          go_loopw [5, 8] (fun t i wr => ∃ q : Nat, q ≤ (mems (z k)).length ∧ i = .int .i64 q ∧ t = .int .u64 (rowSet P ((mems (z k)).take q)) ∧ Below w4.heap.size w4 wr) (fun _ i _ => (mems (z k)).length - (intOf i).toNat)
          case atStart => exact ⟨0, Nat.zero_le _, rfl, rfl, Below.refl _ _⟩
          case round =>
            obtain ⟨q, hq, rfl, rfl, hb5⟩ := hrel
            by_cases hlq : q < (mems (z k)).length
            · obtain ⟨x, hx, hxa, hxt⟩ := take_mems hlq
              obtain ⟨b4, o4, rfl, hcell4⟩ := HC4.out.below hb5 q hlq
              rw [hxa] at hcell4
              have HX : Hid (rowSet P ((mems (z k)).take (q + 1)) = setI (rowSet P ((mems (z k)).take q)) x) := by
                show _ = _
                rw [hxt]; exact rowSet_snoc _ _ _
              have hbd := rowSet_bd hP.1 hP.2 ((mems (z k)).take q) (fun y hy => (mem_mems.1 (List.mem_of_mem_take hy)).1)
              generalize rowSet P ((mems (z k)).take q) = E at *
              have hwith := fun w => with_any E x w hbd.1 hbd.2 hx
              clear hxa hxt hbd
              go_wp2_with (go_at_call 59; refine (hwith _).mono ?_; rintro e w6 ⟨rfl, hw⟩; subst hw)
              go_roundw
              case rel => exact ⟨q + 1, by omega, by go_num, by rw [HX.out], hb5⟩
              case measure => simp [intOf]; omega
            · obtain rfl : q = (mems (z k)).length := by omega
              go_wp2
              go_roundw
              case rel => exact ⟨k + 1, by omega, by go_num, by rw [HM.out, List.take_length], Below.onto hb4 hb5⟩
              case measure => simp [intOf]; omega
      · obtain rfl : k = n := by omega
        have hP := passTo_bd (z := z) hr0 hr1 k
        by_cases heq : passTo z r k = r
        · have HQ : Hid (passTo z r k = r) := heq
          have hb : (passTo z r k == r) = true := by simp [heq]
          clear heq
          go_wp2
          go_ret
          refine ⟨r, rfl, hr0, ⟨hsub.out, ?_, hleast.out⟩, hbel⟩
          intro i j hi hri hij
          have hj : j < 64 := by
            by_cases h : j < 64
            · exact h
            · rw [tb_ge (HZ.out i hi).2 (by omega)] at hij; cases hij
          have := (tb_passTo (z := z) (s := r) j hj k).2 (.inr ⟨i, hi, hri, hij⟩)
          rw [HQ.out] at this; exact this
        · have hb : (passTo z r k == r) = false := by simp [heq]
          have hup : ∀ j, tb r j = true → tb (passTo z r k) j = true := fun j hj => by
            have hj64 : j < 64 := by
              by_cases h : j < 64
              · exact h
              · rw [tb_ge hr1 (by omega)] at hj; cases hj
            exact (tb_passTo j hj64 k).2 (.inl hj)
          have HM : Hid ((mems r).length < (mems (passTo z r k)).length) := mems_lt hr0 hr1 hP.1 hP.2 hup heq
          have H1 : Hid (∀ j, tb s j = true → tb (passTo z r k) j = true) := fun j hj => hup j (hsub.out j hj)
          have H2 : Hid (∀ T : Nat → Prop, (∀ j, tb s j = true → T j) → (∀ i j, i < k → T i → tb (z i) j = true → T j) → ∀ j, tb (passTo z r k) j = true → T j) := by
            intro T hT hcl j hj
            have hj64 : j < 64 := by
              by_cases h : j < 64
              · exact h
              · rw [tb_ge hP.2 (by omega)] at hj; cases hj
            rcases (tb_passTo j hj64 k).1 hj with h | ⟨m, hm, h1, h2⟩
            · exact hleast.out T hT hcl j h
            · exact hcl m j hm (hleast.out T hT hcl m h1) h2
          have hle : (mems (passTo z r k)).length ≤ 64 := memsTo_le _ 64
          clear heq hup hsub hleast
          generalize passTo z r k = P at *
          go_wp2
          go_roundw
          case rel => exact ⟨P, rfl, hP.1, hP.2, H1, H2, hbel⟩
          case measure => have := HM.out; show 64 - (mems P).length < 64 - (mems r).length; omega

end Go.Proofs.Ytcfpfddbbhphgaa
