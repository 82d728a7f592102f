/- credit.Held: how much a tenant has spent in all lanes. -/
import Derived.Test.YtlphombjejgbiaaXRow
namespace Go.Proofs.Ytlphombjejgbiaa
open Go.RowKit Go.Sort Go.Shelf
set_option maxRecDepth 100000

def fitD (n m : Nat) (C : Nat → Cw) (A : Nat → Aw) : Bool := decide (n = m) && (List.range n).all fun j => decide ((C j).ln = (A j).n)
def badD (n : Nat) (A : Nat → Aw) : Bool := (List.range n).any fun j => (List.range (A j).n).any fun i => !okA ((A j).g i)
def rowS (c : Cw) (x : Aw) (t : Int) : Nat → Int
  | 0 => 0
  | k + 1 => rowS c x t k + (if (c.f k).t = t then (x.g k).sp else 0)
def allS (C : Nat → Cw) (A : Nat → Aw) (t : Int) : Nat → Int
  | 0 => 0
  | j + 1 => allS C A t j + rowS (C j) (A j) t (A j).n
def heldE (n m : Nat) (C : Nat → Cw) (A : Nat → Aw) : Int := if fitD n m C A = true then (if badD n A = true then 131 else 0) else 1
def heldN (n m : Nat) (C : Nat → Cw) (A : Nat → Aw) (t : Int) : Int := if heldE n m C A = 0 then allS C A t n else 0
theorem fitD_iff {n m : Nat} {C : Nat → Cw} {A : Nat → Aw} : fitD n m C A = true ↔ n = m ∧ ∀ j, j < n → (C j).ln = (A j).n := by simp [fitD]
theorem badD_no {n : Nat} {A : Nat → Aw} : badD n A = false ↔ ∀ j, j < n → ∀ i, i < (A j).n → okA ((A j).g i) = true := by simp [badD]
theorem badD_yes {n : Nat} {A : Nat → Aw} {j i : Nat} (hj : j < n) (hi : i < (A j).n) (h : okA ((A j).g i) = false) : badD n A = true := by
  cases e : badD n A
  · have := badD_no.1 e j hj i hi
    rw [h] at this; cases this
  · rfl
theorem rowS_le {c : Cw} {x : Aw} {t : Int} : ∀ k, (∀ i, i < k → okA (x.g i) = true) → 0 ≤ rowS c x t k ∧ rowS c x t k ≤ 256 * k := by
  intro k
  induction k with
  | zero => intro _; simp [rowS]
  | succ k ih =>
    intro h
    have h1 := ih fun i hi => h i (by omega)
    obtain ⟨⟨h2, h3⟩, ⟨h4, h5⟩, _⟩ := okA_iff.1 (h k (by omega))
    simp only [rowS]
    split <;> omega
theorem allS_le {C : Nat → Cw} {A : Nat → Aw} {t : Int} : ∀ j, (∀ q, q < j → (A q).n ≤ 12) → (∀ q, q < j → ∀ i, i < (A q).n → okA ((A q).g i) = true) → 0 ≤ allS C A t j ∧ allS C A t j ≤ 3072 * j := by
  intro j
  induction j with
  | zero => intro _ _; simp [allS]
  | succ j ih =>
    intro h1 h2
    have h3 := ih (fun q hq => h1 q (by omega)) (fun q hq => h2 q (by omega))
    have h4 := rowS_le (c := C j) (x := A j) (t := t) (A j).n fun i hi => h2 j (by omega) i hi
    have h5 := h1 j (by omega)
    simp only [allS]
    omega
theorem chs_at {w : World} {a : Option Addr} {n : Nat} {C : Nat → Cw} (h : Chs w a n C) {j : Nat} (hj : j < n) : ∃ b off, a = some ⟨b, off, none⟩ ∧ w.cell? ⟨b, off + j * 3, none⟩ = some (.int .i64 (C j).lb) ∧ w.cell? ⟨b, off + j * 3 + 1, none⟩ = some (.slice (C j).la (C j).ln (C j).lc) ∧ w.cell? ⟨b, off + j * 3 + 2, none⟩ = some (.slice (C j).ra (C j).rn (C j).rc) := by
  obtain ⟨b, off, e, hc⟩ := h.1 j hj
  exact ⟨b, off, e, hc 0 (by omega), hc 1 (by omega), hc 2 (by omega)⟩
theorem rws_at {w : World} {a : Option Addr} {n : Nat} {A : Nat → Aw} (h : Rws w a n A) {j : Nat} (hj : j < n) : ∃ b off, a = some ⟨b, off, none⟩ ∧ w.cell? ⟨b, off + j, none⟩ = some (.slice (A j).a (A j).n (A j).c) := by
  obtain ⟨b, off, e, hc⟩ := h.1 j hj
  have := hc 0 (by omega)
  rw [Nat.mul_one, Nat.add_zero] at this
  exact ⟨b, off, e, this⟩
theorem acc_at {w : World} {a : Option Addr} {n : Nat} {g : Nat → Ac} (h : Rd w a n 3 (fun i => encAc (g i))) {i : Nat} (hi : i < n) : ∃ b off, a = some ⟨b, off, none⟩ ∧ w.cell? ⟨b, off + i * 3, none⟩ = some (.int .i64 (g i).rm) ∧ w.cell? ⟨b, off + i * 3 + 1, none⟩ = some (.int .i64 (g i).sp) ∧ w.cell? ⟨b, off + i * 3 + 2, none⟩ = some (.int .i64 (g i).ep) := by
  obtain ⟨b, off, e, hc⟩ := h i hi
  exact ⟨b, off, e, hc 0 (by omega), hc 1 (by omega), hc 2 (by omega)⟩
theorem lan_at {w : World} {a : Option Addr} {n : Nat} {f : Nat → Xl} (h : Rd w a n 3 (fun i => encXl (f i))) {i : Nat} (hi : i < n) : ∃ b off, a = some ⟨b, off, none⟩ ∧ w.cell? ⟨b, off + i * 3, none⟩ = some (.int .i64 (f i).t) ∧ w.cell? ⟨b, off + i * 3 + 1, none⟩ = some (.int .i64 (f i).c) ∧ w.cell? ⟨b, off + i * 3 + 2, none⟩ = some (.bool (f i).o) := by
  obtain ⟨b, off, e, hc⟩ := h i hi
  exact ⟨b, off, e, hc 0 (by omega), hc 1 (by omega), hc 2 (by omega)⟩
theorem fits_any (lb : Int) (la ra a : Option Addr) (ln lc rn rc n c : Nat) (w : World) : Calls Try.prog 43 #[.agg #[.int .i64 lb, .slice la ln lc, .slice ra rn rc], .slice a n c] w fun e w' => e = .returned (.bool (decide (ln = n))) ∧ Below w.heap.size w w' := by
  by_cases h : ln = n
  · subst h
    go_enter Try.func43, Try.ntmps43
    go_wp2_with fail
    go_ret
    exact ⟨ret_bool (by simp), below_new _ _⟩
  · have h2 : ((ln : Int) == (n : Int)) = false := by simp; omega
    go_enter Try.func43, Try.ntmps43
    go_wp2_with fail
    go_ret
    exact ⟨ret_bool (by simp [h]), below_new _ _⟩
set_option maxHeartbeats 4000000 in
theorem eqfits_any (a b : Option Addr) (n m cap cap2 : Nat) (C : Nat → Cw) (A : Nat → Aw) (w : World) (hn : n ≤ 1000) (hs : Chs w a n C) (hr : Rws w b m A) :
    Calls Try.prog 42 #[.slice a n cap, .slice b m cap2, fnV 43] w fun e w' => e = .returned (.bool (fitD n m C A)) ∧ Below w.heap.size w w' := by
  by_cases hll : n = m
  case neg =>
    have HR : Hid (fitD n m C A = false) := by
      show _ = _
      cases e : fitD n m C A
      · rfl
      · exact absurd (fitD_iff.1 e).1 hll
    have hl2 : ¬ (n : Int) = (m : Int) := by omega
    clear hll hs hr
    go_enter Try.func42, Try.ntmps42
    go_wp2_with fail
    go_ret
    exact ⟨ret_bool HR.out.symm, Below.refl _ _⟩
  case pos =>
    subst hll
    have HS : Hid (Chs w a n C) := hs
    have HR : Hid (Rws w b n A) := hr
    clear hs hr
    have hfit := fun lb la ra x ln lc rn rc k c W => fits_any lb la ra x ln lc rn rc k c W
    go_enter Try.func42, Try.ntmps42
    go_wp2_with fail
    go_loopw [17] (fun i wr => ∃ k : Nat, k ≤ n ∧ i = .int .i64 k ∧ Hid (∀ j, j < k → (C j).ln = (A j).n) ∧ Hid (Below w.heap.size w wr)) (fun i _ => n - (intOf i).toNat)
    case atStart => exact ⟨0, Nat.zero_le _, rfl, fun j hj => absurd hj (by omega), Below.refl _ _⟩
    case round =>
      obtain ⟨k, hk, rfl, hall, hbel⟩ := hrel
      by_cases hlt : k < n
      · obtain ⟨b1, o1, rfl, c0, c1, c2⟩ := chs_at (HS.out.below hbel.out) hlt
        obtain ⟨b2, o2, rfl, d0⟩ := rws_at (HR.out.below hbel.out) hlt
        have hYES : Hid ((C k).ln = (A k).n → ∀ j, j < k + 1 → (C j).ln = (A j).n) := fun h j hj => by
          by_cases e : j = k
          · rw [e]; exact h
          · exact hall.out j (by omega)
        have hNOT : Hid (¬ (C k).ln = (A k).n → fitD n n C A = false) := fun h => by
          cases e : fitD n n C A
          · rfl
          · exact absurd ((fitD_iff.1 e).2 k hlt) h
        generalize (C k).lb = lb at *
        generalize (C k).la = la at *
        generalize (C k).ln = ln at *
        generalize (C k).lc = lc at *
        generalize (C k).ra = ra at *
        generalize (C k).rn = rn at *
        generalize (C k).rc = rc at *
        generalize (A k).a = xa at *
        generalize (A k).n = xn at *
        generalize (A k).c = xc at *
        have hz2 := cell_lt d0
        have hb1 : Below wr.heap.size wr (wr.alloc (.cells #[.int .i64 lb, .slice la ln lc, .slice ra rn rc] 85)) := below_new _ _
        have hB1 : Hid (Below w.heap.size w (wr.alloc (.cells #[.int .i64 lb, .slice la ln lc, .slice ra rn rc] 85))) := Below.onto hbel.out hb1
        have hcall := hfit lb la ra xa ln lc rn rc xn xc (wr.alloc (.cells #[.int .i64 lb, .slice la ln lc, .slice ra rn rc] 85))
        clear hb1
        by_cases he : ln = xn
        · have HN : Hid (∀ j, j < k + 1 → (C j).ln = (A j).n) := hYES.out he
          rw [show decide (ln = xn) = true by simp [he]] at hcall
          clear he hYES hNOT
          go_wp2_with fail
          refine hcall.mono ?_
          rintro e w3 ⟨rfl, hb⟩
          have HBB : Hid (Below w.heap.size w w3) := Below.onto hB1.out hb
          clear hb hcall
          go_wp2_with fail
          go_roundw
          case rel => exact ⟨k + 1, by omega, by go_num, HN, HBB⟩
          case measure => simp [intOf]; omega
        · have HN : Hid (fitD n n C A = false) := hNOT.out he
          rw [show decide (ln = xn) = false by simp [he]] at hcall
          clear he hYES hNOT
          go_wp2_with fail
          refine hcall.mono ?_
          rintro e w3 ⟨rfl, hb⟩
          have HBB : Hid (Below w.heap.size w w3) := Below.onto hB1.out hb
          clear hb hcall
          go_wp2_with fail
          go_ret
          exact ⟨ret_bool HN.out.symm, HBB.out⟩
      · obtain rfl : k = n := by omega
        have HN : Hid (fitD k k C A = true) := fitD_iff.2 ⟨rfl, hall.out⟩
        go_wp2_with fail
        go_ret
        exact ⟨ret_bool HN.out.symm, hbel.out⟩
end Go.Proofs.Ytlphombjejgbiaa
