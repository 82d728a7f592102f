/- credit.Run: acts, one by one. -/
import Derived.Test.YtopjidlhhamjhabXBk
namespace Go.Proofs.Ytopjidlhhamjhab
open Go.RowKit Go.Sort Go.Shelf
set_option maxRecDepth 100000

/-- the account behind j acts -/
def acN (g : Nat → XOp) (c : Ac) : Nat → Ac
  | 0 => c
  | j + 1 => aoA (g j) (acN g c j)
def erN (g : Nat → XOp) (c : Ac) (j : Nat) : Int := aoE (g j) (acN g c j)
/-- where the acts stop: behind n, or at the first that tells an error -/
structure Stp (g : Nat → XOp) (c : Ac) (n i : Nat) : Prop where
  le : i ≤ n
  ok : ∀ k, k < i → erN g c k = 0
  at_ : i = n ∨ erN g c i ≠ 0
theorem Stp.uniq {g : Nat → XOp} {c : Ac} {n i k : Nat} (h : Stp g c n i) (h2 : Stp g c n k) : i = k := by
  have a := h.le
  have b := h2.le
  rcases Nat.lt_trichotomy i k with e | e | e
  · rcases h.at_ with h3 | h3
    · omega
    · exact absurd (h2.ok i e) h3
  · exact e
  · rcases h2.at_ with h3 | h3
    · omega
    · exact absurd (h.ok k e) h3
/-- the error behind -/
def erS (g : Nat → XOp) (c : Ac) (n i : Nat) (none : Bool) : Int := if i = n then (if none then 1 else 0) else erN g c i
/-- a row of acts: the n acts' functions, and nil behind them -/
def fnC (Bs : Nat → Nat) (n j : Nat) : Value := if j < n then xfn (Bs j) else Value.nilFunc
theorem eql_xfn_nil (B : Nat) (w : World) : Sem.run Try.prog (binOp BinOp.eql 41 (xfn B) Value.nilFunc) w = .ok (.bool false) w := by kernel_rfl
theorem eql_nil_nil (w : World) : Sem.run Try.prog (binOp BinOp.eql 41 Value.nilFunc Value.nilFunc) w = .ok (.bool true) w := by kernel_rfl
/-- what the loop keeps -/
structure XrI (w wr : World) (c : Ac) (B C : Nat) : Prop where
  b : Bk wr B 38 (acL c)
  r : Bk wr C 38 (acL ac0)
  bel : Below w.heap.size w wr
  hB : w.heap.size ≤ B
  hC : w.heap.size ≤ C
  ne : B ≠ C
set_option maxHeartbeats 4000000 in
theorem xrun_any (c : Ac) (g : Nat → XOp) (a : Option Addr) (n : Nat) (none : Bool) (cap : Nat) (Bs : Nat → Nat) (w : World) (hn : n ≤ 1000)
    (hr : ∀ j, j < n + none.toNat → ∃ b off, a = some ⟨b, off, Option.none⟩ ∧ w.cell? ⟨b, off + j, Option.none⟩ = some (fnC Bs n j)) (hb : ∀ j, j < n → Bk w (Bs j) 44 (xoL (g j))) :
    Calls Try.prog 16 #[acV c, .slice a (n + none.toNat) cap] w fun e w' => ∃ i, Stp g c n i ∧ e = .returned (.tuple #[acV (acN g c i), .int .i64 (i : Nat), .int .i64 (erS g c n i none)]) ∧ Below w.heap.size w w' := by
  have HR : Hid (∀ j, j < n + none.toNat → ∃ b off, a = some ⟨b, off, Option.none⟩ ∧ w.cell? ⟨b, off + j, Option.none⟩ = some (fnC Bs n j)) := hr
  have HB : Hid (∀ j, j < n → Bk w (Bs j) 44 (xoL (g j))) := hb
  clear hr hb
  have hm : none.toNat ≤ 1 := by cases none <;> simp
  obtain ⟨m, hmm⟩ : ∃ m, n + none.toNat = m := ⟨_, rfl⟩
  rw [hmm] at HR ⊢
  have HM : Hid (n + none.toNat = m ∧ none.toNat ≤ 1) := ⟨hmm, hm⟩
  have hm2 : m ≤ 1001 := by omega
  clear hmm hm
  go_enter Try.func16, Try.ntmps16
  have I0 : Hid (XrI w ((w.alloc (.cells (acL c).toArray 38)).alloc (.cells (acL ac0).toArray 38)) c w.heap.size (w.heap.size + 1)) :=
    ⟨(bk_new w (acL c) _).below (below_new _ _), by have := bk_new (w.alloc (.cells (acL c).toArray 38)) (acL ac0) 38; simpa using this, Below.onto (below_new _ _) (below_new _ _), Nat.le_refl _, Nat.le_succ _, by omega⟩
  go_wp2_with fail
  generalize (w.alloc (.cells (acL c).toArray 38)).alloc (.cells (acL ac0).toArray 38) = w2 at *
  obtain ⟨B, hB⟩ : ∃ B, w.heap.size = B := ⟨_, rfl⟩
  obtain ⟨C, hC⟩ : ∃ C, w.heap.size + 1 = C := ⟨_, rfl⟩
  rw [hC, hB] at I0
  rw [hC, hB]
  have HW : Hid (w.heap.size = B) := hB
  clear hB hC
  go_loopw [13] (fun i wr => ∃ j : Nat, j ≤ m ∧ i = .int .i64 j ∧ Hid (j ≤ n ∧ (∀ k, k < j → erN g c k = 0) ∧ XrI w wr (acN g c j) B C)) (fun i _ => m - (intOf i).toNat)
  case atStart => exact ⟨0, Nat.zero_le _, rfl, Nat.zero_le _, fun k hk => by omega, I0⟩
  case round =>
    obtain ⟨j, hj, rfl, hI⟩ := hrel
    by_cases hlt : j < m
    · obtain ⟨b, off, rfl, hcell⟩ := HR.out j hlt
      have hI2 := hI.out.2.2
      have hc0 := (hI2.bel.cell (p := ⟨b, off + j, Option.none⟩) (cell_lt hcell)).trans hcell
      obtain ⟨x0, x1, x2⟩ := acc_three hI2.b.bx
      obtain ⟨y0, y1, y2⟩ := acc_three (a := ac0) hI2.r.bx
      have xl := hI2.b.lt
      have yl := hI2.r.lt
      have yf := hI2.r.fz
      have xf := hI2.b.fz
      have hne := hI2.ne
      by_cases hjn : j < n
      · rw [show fnC Bs n j = xfn (Bs j) from if_pos hjn] at hc0
        have hnil := eql_xfn_nil (Bs j)
        have HBx : Hid (Bx wr (Bs j) (xoL (g j))) := ((HB.out j hjn).upTo hI2.bel (HB.out j hjn).lt).bx
        clear hcell hI2 hne
        have hx := xa_any (g j) (acN g c j) (Bs j) wr HBx.out
        have HX : Hid (acN g c (j + 1) = aoA (g j) (acN g c j) ∧ erN g c j = aoE (g j) (acN g c j)) := ⟨rfl, rfl⟩
        have HI : Hid (j ≤ n ∧ (∀ k, k < j → erN g c k = 0) ∧ XrI w wr (acN g c j) B C) := hI.out
        generalize aoA (g j) (acN g c j) = A at *
        generalize aoE (g j) (acN g c j) = E at *
        obtain ⟨c1, hc1⟩ : ∃ c1, acN g c j = c1 := ⟨_, rfl⟩
        rw [hc1] at hx x0 x1 x2 HI
        have HC : Hid (acN g c j = c1) := hc1
        clear hc1 hI HBx
        go_wp2_with fail
        refine hx.mono ?_
        rintro e w6 ⟨rfl, h6⟩
        have I6 : Hid (XrI w w6 c1 B C) := ⟨HI.out.2.2.b.below h6, HI.out.2.2.r.below h6, Below.onto HI.out.2.2.bel h6, HI.out.2.2.hB, HI.out.2.2.hC, HI.out.2.2.ne⟩
        clear hc0 x0 x1 x2 y0 y1 y2 xl yl yf xf hnil hx h6
        obtain ⟨x0, x1, x2⟩ := acc_three I6.out.b.bx
        obtain ⟨y0, y1, y2⟩ := acc_three (a := ac0) I6.out.r.bx
        have xl := I6.out.b.lt
        have yl := I6.out.r.lt
        have yf := I6.out.r.fz
        have xf := I6.out.b.fz
        by_cases hE : E = 0
        · subst hE
          have I8 : Hid (XrI w ((((w6.setCell ⟨B, 0, Option.none⟩ (.int .i64 A.rm)).setCell ⟨B, 1, Option.none⟩ (.int .i64 A.sp)).setCell ⟨B, 2, Option.none⟩ (.int .i64 A.ep)).alloc (.cells (acL A).toArray 38)) A B C) :=
            ⟨Bk.below (((I6.out.b.set 0 _).set 1 _).set 2 _) (below_new _ _), Bk.below (((I6.out.r.setO I6.out.ne.symm _).setO I6.out.ne.symm _).setO I6.out.ne.symm _) (below_new _ _), Below.onto (((I6.out.bel.setCell I6.out.hB _).setCell I6.out.hB _).setCell I6.out.hB _) (below_new _ _), I6.out.hB, I6.out.hC, I6.out.ne⟩
          go_wp2_with fail
          go_roundw
          case rel => exact ⟨j + 1, by omega, by go_num, by omega, fun k hk => by
            by_cases e : k = j
            · rw [e]; exact HX.out.2
            · exact HI.out.2.1 k (by omega), HX.out.1 ▸ I8.out⟩
          case measure => simp [intOf]; omega
        · have hE2 : (E == 0) = false := by simpa using hE
          have B8 : Hid (Below w.heap.size w ((((w6.setCell ⟨C, 0, Option.none⟩ (.int .i64 c1.rm)).setCell ⟨C, 1, Option.none⟩ (.int .i64 c1.sp)).setCell ⟨C, 2, Option.none⟩ (.int .i64 c1.ep)).alloc (.cells (acL A).toArray 38))) :=
            Below.onto (((I6.out.bel.setCell I6.out.hC _).setCell I6.out.hC _).setCell I6.out.hC _) (below_new _ _)
          have HS : Hid (Stp g c n j) := ⟨HI.out.1, HI.out.2.1, .inr (by rw [HX.out.2]; exact hE)⟩
          have HS2 : Hid (erS g c n j none = E) := by show _ = _; unfold erS; rw [if_neg (by omega)]; exact HX.out.2
          go_wp2_with fail
          refine bodyPost_ret (v := .tuple #[acV c1, .int .i64 (j : Nat), .int .i64 E]) (by simp [results, Try.results16, go_sem, *]) rfl ⟨j, HS.out, ?_, B8.out⟩
          rw [HC.out, HS2.out]
      · have hz : j = n ∧ none = true := by
          have h1 := HM.out
          have h2 := hI.out.1
          cases none <;> simp at h1 ⊢ <;> omega
        obtain ⟨rfl, rfl⟩ := hz
        rw [show fnC Bs j j = Value.nilFunc from if_neg (by omega)] at hc0
        have HS : Hid (Stp g c j j) := ⟨Nat.le_refl _, hI.out.2.1, .inl rfl⟩
        have HS2 : Hid (erS g c j j true = 1) := by show _ = _; simp [erS]
        have B8 : Hid (Below w.heap.size w ((((wr.setCell ⟨C, 0, Option.none⟩ (.int .i64 (acN g c j).rm)).setCell ⟨C, 1, Option.none⟩ (.int .i64 (acN g c j).sp)).setCell ⟨C, 2, Option.none⟩ (.int .i64 (acN g c j).ep)))) :=
          (((hI2.bel.setCell hI2.hC _).setCell hI2.hC _).setCell hI2.hC _)
        clear hI hI2 hcell hne
        have hnil := eql_nil_nil
        obtain ⟨c1, hc1⟩ : ∃ c1, acN g c j = c1 := ⟨_, rfl⟩
        have HC : Hid (acN g c j = c1) := hc1
        rw [hc1] at x0 x1 x2 B8
        clear hc1
        go_wp2_with fail
        refine bodyPost_ret (v := .tuple #[acV c1, .int .i64 (j : Nat), .int .i64 1]) (by simp [results, Try.results16, go_sem, *]) rfl ⟨j, HS.out, ?_, B8.out⟩
        rw [HS2.out, HC.out]
    · have hz : j = n ∧ none = false := by
        have h1 := HM.out
        have h2 := hI.out.1
        cases none <;> simp at h1 ⊢ <;> omega
      obtain ⟨rfl, rfl⟩ := hz
      have hmj : m = j := by have := HM.out.1; simp at this; omega
      subst hmj
      have HS : Hid (Stp g c m m) := ⟨Nat.le_refl _, hI.out.2.1, .inl rfl⟩
      have HS2 : Hid (erS g c m m false = 0) := by show _ = _; simp [erS]
      have hI2 := hI.out.2.2
      obtain ⟨x0, x1, x2⟩ := acc_three hI2.b.bx
      obtain ⟨y0, y1, y2⟩ := acc_three (a := ac0) hI2.r.bx
      have xl := hI2.b.lt
      have yl := hI2.r.lt
      have yf := hI2.r.fz
      have xf := hI2.b.fz
      have B8 : Hid (Below w.heap.size w ((((wr.setCell ⟨C, 0, Option.none⟩ (.int .i64 (acN g c m).rm)).setCell ⟨C, 1, Option.none⟩ (.int .i64 (acN g c m).sp)).setCell ⟨C, 2, Option.none⟩ (.int .i64 (acN g c m).ep)))) :=
        (((hI2.bel.setCell hI2.hC _).setCell hI2.hC _).setCell hI2.hC _)
      clear hI hI2
      obtain ⟨c1, hc1⟩ : ∃ c1, acN g c m = c1 := ⟨_, rfl⟩
      have HC : Hid (acN g c m = c1) := hc1
      rw [hc1] at x0 x1 x2 B8
      clear hc1
      go_wp2_with fail
      refine bodyPost_ret (v := .tuple #[acV c1, .int .i64 (m : Nat), .int .i64 0]) (by simp [results, Try.results16, go_sem, *]) rfl ⟨m, HS.out, ?_, B8.out⟩
      rw [HS2.out, HC.out]
end Go.Proofs.Ytopjidlhhamjhab
