/- credit.opened: fresh accounts of lanes. -/
import Derived.Test.YtlphombjejgbiaaXBk
import Derived.Test.YtlphombjejgbiaaURow
namespace Go.Proofs.Ytlphombjejgbiaa
open Go.RowKit Go.Sort Go.Shelf
set_option maxRecDepth 100000

/-- a lane of a channel -/
structure Xl where
  t : Int
  c : Int
  o : Bool
def encXl (x : Xl) : Nat → Value
  | 0 => .int .i64 x.t
  | 1 => .int .i64 x.c
  | _ => .bool x.o
/-- an account's cells -/
def encAc (a : Ac) : Nat → Value
  | 0 => .int .i64 a.rm
  | 1 => .int .i64 a.sp
  | _ => .int .i64 a.ep
theorem eltAc : Elt 86 90 3 24 (.agg #[.int .i64 0, .int .i64 0, .int .i64 0]) := ⟨Try.underlying86, by kernel_rfl, rfl, by decide, by decide⟩
def opA0 (x : Xl) : Bool := okA ⟨x.c, 0, 0⟩
theorem Rw.set3 {w : World} {g : Nat} {T : TypeId} {n : Nat} {c : Nat → Nat → Value} (h : Rw w g T n 3 c) {k : Nat} (hk : k < n) (a0 a1 a2 : Value) :
    Rw (((w.setCell ⟨g, k * 3, none⟩ a0).setCell ⟨g, k * 3 + 1, none⟩ a1).setCell ⟨g, k * 3 + 2, none⟩ a2) g T n 3 (fun j f => if j = k then (match f with | 0 => a0 | 1 => a1 | _ => a2) else c j f) := by
  have h3 := ((h.set (e := 0) hk (by omega) a0).set (e := 1) hk (by omega) a1).set (e := 2) hk (by omega) a2
  refine h3.congr fun j hj f hf => ?_
  by_cases e : j = k
  · subst e
    rcases (show f = 0 ∨ f = 1 ∨ f = 2 by omega) with rfl | rfl | rfl <;> simp
  · simp [e]
set_option maxHeartbeats 4000000 in
theorem opened_any (a : Option Addr) (n cap : Nat) (f : Nat → Xl) (w : World) (hn : n ≤ 1000) (hs : Rd w a n 3 (fun j => encXl (f j))) :
    Calls Try.prog 40 #[.slice a n cap] w fun e w' => (((∀ j, j < n → opA0 (f j) = true) ∧ e = .returned (.tuple #[.slice (some ⟨w.heap.size, 0, none⟩) n n, .int .i64 0]) ∧ Rw w' w.heap.size 90 n 3 (fun j => encAc ⟨(f j).c, 0, 0⟩)) ∨ ((∃ j, j < n ∧ opA0 (f j) = false) ∧ e = .returned (.tuple #[.slice none 0 0, .int .i64 131]))) ∧ Below w.heap.size w w' := by
  have HS : Hid (Rd w a n 3 (fun j => encXl (f j))) := hs
  obtain ⟨W1, hmk, hrw, hb1, hs1⟩ := make_rw eltAc w n (by omega)
  have HR : Hid (Rw W1 w.heap.size 90 n 3 (fun j q => if j < 0 then encAc ⟨(f j).c, 0, 0⟩ q else .int .i64 0) ∧ Below w.heap.size w W1) := ⟨hrw.congr fun j hj q hq => by
    rcases (show q = 0 ∨ q = 1 ∨ q = 2 by omega) with rfl | rfl | rfl <;> rfl, hb1⟩
  clear hs hrw hb1 hs1
  go_enter Try.func40, Try.ntmps40
  go_wp2_with fail
  obtain ⟨R, hR⟩ : ∃ R, w.heap.size = R := ⟨_, rfl⟩
  rw [hR] at HR ⊢
  have HRw : Hid (w.heap.size = R) := hR
  clear hR hmk
  go_loopw [14] (fun i wr => ∃ j : Nat, j ≤ n ∧ i = .int .i64 j ∧ Hid ((∀ k, k < j → opA0 (f k) = true) ∧ Rw wr R 90 n 3 (fun k q => if k < j then encAc ⟨(f k).c, 0, 0⟩ q else .int .i64 0) ∧ Below R w wr)) (fun i _ => n - (intOf i).toNat)
  case atStart => exact ⟨0, Nat.zero_le _, rfl, fun k hk => by omega, HR.out⟩
  case round =>
    obtain ⟨j, hj, rfl, hI⟩ := hrel
    clear HR
    by_cases hlt : j < n
    · obtain ⟨b, off, rfl, hcell⟩ := HS.out j hlt
      have k0 : w.cell? ⟨b, off + j * 3, none⟩ = some (.int .i64 (f j).t) := hcell 0 (by omega)
      have k1 : w.cell? ⟨b, off + j * 3 + 1, none⟩ = some (.int .i64 (f j).c) := hcell 1 (by omega)
      have k2 : w.cell? ⟨b, off + j * 3 + 2, none⟩ = some (.bool (f j).o) := hcell 2 (by omega)
      have hB := hI.out.2.2
      rw [← HRw.out] at hB
      have m0 := (hB.cell (p := ⟨b, off + j * 3, none⟩) (cell_lt k0)).trans k0
      have m1 := (hB.cell (p := ⟨b, off + j * 3 + 1, none⟩) (cell_lt k1)).trans k1
      have m2 := (hB.cell (p := ⟨b, off + j * 3 + 2, none⟩) (cell_lt k2)).trans k2
      clear k0 k1 k2 hB hcell
      have HO : Hid (opA0 (f j) = okA ⟨(f j).c, 0, 0⟩) := rfl
      have HE : Hid (encAc ⟨(f j).c, 0, 0⟩ = encAc ⟨(f j).c, 0, 0⟩) := rfl
      have hop := fun W => xopen_any (f j).c W
      obtain ⟨tc, htc⟩ : ∃ tc, (f j).c = tc := ⟨_, rfl⟩
      have HT : Hid ((f j).c = tc) := htc
      rw [htc] at hop m1 HO
      clear htc
      generalize (f j).t = tt at *
      generalize (f j).o = to at *
      have rl := hI.out.2.1.lt
      have rf := hI.out.2.1.fz
      have r0 := hI.out.2.1.cell hlt (f := 0) (by omega)
      have r1 := hI.out.2.1.cell hlt (f := 1) (by omega)
      have r2 := hI.out.2.1.cell hlt (f := 2) (by omega)
      rw [if_neg (by omega)] at r0 r1 r2
      rw [Nat.add_zero] at r0
      cases ho : okA ⟨tc, 0, 0⟩
      · have e1 : opA tc = ac0 := by simp [opA, ho]
        have e2 : opE tc = 131 := by simp [opE, ckE, ho]
        rw [e1, e2] at hop
        have HN : Hid (∃ q, q < n ∧ opA0 (f q) = false) := ⟨j, hlt, by rw [HO.out, ho]⟩
        clear e1 e2 ho r0 r1 r2 rf rl
        have BW : Hid (Below R w (wr.alloc (.cells #[.int .i64 tt, .int .i64 tc, .bool to] 94))) := by
          have h1 := hI.out.2.2
          rw [← HRw.out] at h1 ⊢
          exact Below.onto h1 (below_new _ _)
        go_wp2_with fail
        refine (hop _).mono ?_
        rintro e w5 ⟨rfl, hb5⟩
        have BW5 : Hid (Below R w w5) := by
          have h1 := BW.out
          rw [← HRw.out] at h1 ⊢
          exact Below.onto h1 hb5
        clear hb5 BW hop m0 m1 m2
        have BW6 : Hid (Below R w (w5.alloc (.cells #[.int .i64 0, .int .i64 0, .int .i64 0] 90))) := by
          have h1 := BW5.out
          rw [← HRw.out] at h1 ⊢
          exact Below.onto h1 (below_new _ _)
        go_wp2_with fail
        go_ret2
        rw [HRw.out]
        exact ⟨.inr ⟨HN.out, rfl⟩, BW6.out⟩
      · have e1 : opA tc = ⟨tc, 0, 0⟩ := by simp [opA, ho]
        have e2 : opE tc = 0 := by simp [opE, ckE, ho]
        rw [e1, e2] at hop
        have HN : Hid (opA0 (f j) = true) := by show _ = _; rw [HO.out, ho]
        clear e1 e2 ho r0 r1 r2 rf rl
        go_wp2_with fail
        refine (hop _).mono ?_
        rintro e w5 ⟨rfl, hb5⟩
        have I5 : Hid (Rw w5 R 90 n 3 (fun k q => if k < j then encAc ⟨(f k).c, 0, 0⟩ q else .int .i64 0) ∧ Below R w w5) := by
          have h1 := hI.out.2.2
          refine ⟨(hI.out.2.1.below (below_new _ _)).below hb5, ?_⟩
          rw [← HRw.out] at h1 ⊢
          exact Below.onto (Below.onto h1 (below_new _ _)) hb5
        clear hb5 hop m0 m1 m2
        have rl := I5.out.1.lt
        have rf := I5.out.1.fz
        have r0 := I5.out.1.cell hlt (f := 0) (by omega)
        have r1 := I5.out.1.cell hlt (f := 1) (by omega)
        have r2 := I5.out.1.cell hlt (f := 2) (by omega)
        rw [if_neg (by omega)] at r0 r1 r2
        rw [Nat.add_zero] at r0
        have I6 : Hid (Rw ((((w5.setCell ⟨R, j * 3, none⟩ (.int .i64 tc)).setCell ⟨R, j * 3 + 1, none⟩ (.int .i64 0)).setCell ⟨R, j * 3 + 2, none⟩ (.int .i64 0)).alloc (.cells #[.int .i64 tc, .int .i64 0, .int .i64 0] 90)) R 90 n 3 (fun k q => if k < j + 1 then encAc ⟨(f k).c, 0, 0⟩ q else .int .i64 0) ∧ Below R w ((((w5.setCell ⟨R, j * 3, none⟩ (.int .i64 tc)).setCell ⟨R, j * 3 + 1, none⟩ (.int .i64 0)).setCell ⟨R, j * 3 + 2, none⟩ (.int .i64 0)).alloc (.cells #[.int .i64 tc, .int .i64 0, .int .i64 0] 90))) := by
          refine ⟨Rw.below ((I5.out.1.set3 hlt (.int .i64 tc) (.int .i64 0) (.int .i64 0)).congr fun k hk q hq => ?_) (below_new _ _), ?_⟩
          · by_cases e : k = j
            · subst e
              rw [if_pos rfl, if_pos (by omega), HT.out]
              rcases (show q = 0 ∨ q = 1 ∨ q = 2 by omega) with rfl | rfl | rfl <;> rfl
            · rw [if_neg e]
              by_cases e2 : k < j
              · rw [if_pos e2, if_pos (by omega)]
              · rw [if_neg e2, if_neg (by omega)]
          · have h1 := I5.out.2
            have hs := h1.size
            rw [← HRw.out] at h1 ⊢
            exact Below.onto (((h1.setCell (Nat.le_refl _) _).setCell (Nat.le_refl _) _).setCell (Nat.le_refl _) _) (below_new _ _)
        go_wp2_with fail
        go_roundw
        case rel => exact ⟨j + 1, by omega, by go_num, fun k hk => by
          by_cases e : k = j
          · rw [e]; exact HN.out
          · exact hI.out.1 k (by omega), I6.out⟩
        case measure => simp [intOf]; omega
    · obtain rfl : j = n := by omega
      have HQ : Hid (Rw wr R 90 j 3 (fun k => encAc ⟨(f k).c, 0, 0⟩)) := hI.out.2.1.congr fun k hk q hq => by rw [if_pos hk]
      go_wp2_with fail
      go_ret2
      rw [HRw.out]
      exact ⟨.inl ⟨hI.out.1, rfl, HQ.out⟩, hI.out.2.2⟩
end Go.Proofs.Ytlphombjejgbiaa
