/- Depth and Under: a search upward. -/
import Derived.Test.YtlphombjejgbiaaDNew
import Derived.Test.YtlphombjejgbiaaDUp
import Derived.Lib.QuietBelow
import Derived.Deep.RegionHeld3
namespace Go.Proofs.Ytlphombjejgbiaa
open Go.RowKit Go.Shelf
attribute [local go_sem] Oper.semAt_some
set_option maxRecDepth 100000

abbrev upV (a : Fp) : Value := .func (.func 65) #[a.o.ptr] #[]
abbrev rooV (a : Fp) : Value := .func (.func 69) #[.pointer (some ⟨a.k, 0, none⟩)] #[]
abbrev undV (R : Nat) : Value := .func (.func 70) #[] #[.pointer (some ⟨R, 0, none⟩)]
theorem below_of {w w' : World} (h : But (fun _ => False) w w') : Below w.heap.size w w' := h.below (Nat.le_refl _) fun _ h => h.elim
set_option maxHeartbeats 1000000 in
theorem isRoot_k {w : World} {a : Fp} {N : Nat} {L : List Fe} {z : Nat → Int} (h : Fx w a N L z) (x : Nat) (hx : x < N) :
    Calls Try.prog 69 #[.pointer (some ⟨a.k, 0, none⟩), .int .i64 (x : Int)] w fun e w' => e = .returned (.bool (rooB N L x)) ∧ Below w.heap.size w w' := by
  have c17 := h.k17
  have ho := of_k a.o N N (kids L) x w h.kv
  have hin : inR N (x : Int) = true := inR_iff.2 (by omega)
  have hR : Hid (rooB N L x = !ofB N N (kids L) x) := by show _ = _; simp [rooB, ofB, hin]
  clear h hin
  generalize ofB N N (kids L) x = r at *
  generalize ofI N N (kids L) x = q at *
  go_enter Try.func69, Try.ntmps69
  go_wp2_with fail
  refine ho.mono ?_
  rintro e w2 ⟨rfl, hb⟩
  go_wp2_with fail
  go_ret
  rw [hR.out]
  exact ⟨rfl, below_of hb⟩
set_option maxHeartbeats 1000000 in
theorem under1_k (x r R : Nat) (w : World) (hr : Boxed w R 3 (.int .i64 (r : Int))) :
    Calls Try.prog 70 #[.int .i64 (x : Int), .pointer (some ⟨R, 0, none⟩)] w fun e w' => e = .returned (.bool (decide (x = r))) ∧ Below w.heap.size w w' := by
  have c := hr.cell
  go_enter Try.func70, Try.ntmps70
  go_wp2_with fail
  go_ret
  refine ⟨ret_bool ?_, Below.refl _ _⟩
  by_cases e : x = r
  · subst e; simp
  · have e2 : ¬ (x : Int) = (r : Int) := by omega
    simp [e, e2]

set_option maxHeartbeats 4000000 in
theorem searchD_k {w : World} {a : Fp} {N : Nat} {L : List Fe} {z : Nat → Int} (h : Fx w a N L z) (x : Nat) (hx : x < N) :
    Calls Try.prog 68 #[.int .i64 (x : Int), upV a, rooV a] w fun e w' => e = .returned (.tuple #[.int .i64 (((srch N L (rooB N L) x).getD 0 : Nat) : Int), .bool (srch N L (rooB N L) x).isSome]) ∧ Below w.heap.size w w' := by
  have H0 : Hid (Fx w a N L z) := h
  have hN := h.hN
  have hlen : L.length ≤ N := by rw [← nds_len]; exact len_le h.ok.nod h.ok.lt
  clear h
  go_enter Try.func68, Try.ntmps68
  go_wp2_with fail
  go_loopw [0, 8] (fun v q wr => ∃ (y s : Nat), v = .int .i64 (y : Int) ∧ q = .int .i64 (s : Int) ∧ Hid (Below w.heap.size w wr ∧ y < N ∧ srch N L (rooB N L) x = (srch N L (rooB N L) y).map (· + s) ∧ (nds L).idxOf y + s ≤ L.length)) (fun v _ _ => (nds L).idxOf (intOf v).toNat)
  case atStart => exact ⟨x, 0, rfl, rfl, Below.refl _ _, hx, by cases srch N L (rooB N L) x <;> rfl, by have := idx_le L x; omega⟩
  case round =>
    obtain ⟨y, s, rfl, rfl, hI⟩ := hrel
    have hI1 := hI.out.1
    have hs1 : s ≤ 1024 := by have := hI.out.2.2.2; omega
    have HF : Hid (Fx wr a N L z) := H0.out.below hI1
    have hc := isRoot_k HF.out y hI.out.2.1
    have ho := fun W (hW : Below wr.heap.size wr W) => of_k a.o N N (kids L) y W (HF.out.below hW).kv
    have hin : inR N (y : Int) = true := inR_iff.2 (by have := hI.out.2.1; omega)
    clear hI1
    cases hS : (rooB N L) y
    · replace hS : rooB N L y = false := hS
      rw [hS] at hc
      cases hw : whr (kids L) N y with
      | none =>
        have e1 : ofI N N (kids L) y = 0 := by simp [ofI, hw]
        have e2 : ofB N N (kids L) y = false := by simp [ofB, hw]
        rw [e1, e2] at ho
        have HR : Hid (srch N L (rooB N L) x = none) := by show _ = _; rw [hI.out.2.2.1, srch_root _ hS hw]; rfl
        clear e1 e2 hS hw hin
        go_wp2_with fail
        refine hc.mono ?_
        rintro e w2 ⟨rfl, hb2⟩
        go_wp2_with fail
        refine (ho _ hb2).mono ?_
        rintro e w3 ⟨rfl, hb3⟩
        have HB : Hid (Below w.heap.size w w3) := Below.onto (Below.onto hI.out.1 hb2) (below_of hb3)
        go_wp2_with fail
        go_ret2
        rw [HR.out]
        exact ⟨rfl, HB.out⟩
      | some p =>
        have e1 : ofI N N (kids L) y = (p : Int) := by simp [ofI, hw, hin]
        have e2 : ofB N N (kids L) y = true := by simp [ofB, hw, hin]
        rw [e1, e2] at ho
        have hb := (HF.out.ok.behind (whr_kid HF.out.ok hw)).2
        have hp := (whr_some hw).1
        have HR : Hid (srch N L (rooB N L) x = (srch N L (rooB N L) p).map (· + (s + 1)) ∧ p < N ∧ (nds L).idxOf p < (nds L).idxOf y) := ⟨by
          rw [hI.out.2.2.1, srch_up _ HF.out.ok hS hw, Option.map_map]
          congr 1
          funext k
          show k + 1 + s = k + (s + 1)
          omega, hp, hb⟩
        clear e1 e2 hS hw hin hb hp
        go_wp2_with fail
        refine hc.mono ?_
        rintro e w2 ⟨rfl, hb2⟩
        go_wp2_with fail
        refine (ho _ hb2).mono ?_
        rintro e w3 ⟨rfl, hb3⟩
        have HB : Hid (Below w.heap.size w w3) := Below.onto (Below.onto hI.out.1 hb2) (below_of hb3)
        go_wp2_with fail
        go_roundw
        case rel => exact ⟨p, s + 1, rfl, by go_num, HB.out, HR.out.2.1, HR.out.1, by have := hI.out.2.2.2; have := HR.out.2.2; omega⟩
        case measure => simp only [intOf, Int.toNat_natCast]; exact HR.out.2.2
    · replace hS : rooB N L y = true := hS
      rw [hS] at hc
      have HR : Hid (srch N L (rooB N L) x = some s) := by show _ = _; rw [hI.out.2.2.1, srch_hit _ hS]; simp
      clear hS hin
      go_wp2_with fail
      refine hc.mono ?_
      rintro e w2 ⟨rfl, hb2⟩
      have HB : Hid (Below w.heap.size w w2) := Below.onto hI.out.1 hb2
      go_wp2_with fail
      go_ret2
      rw [HR.out]
      exact ⟨rfl, HB.out⟩

set_option maxHeartbeats 4000000 in
theorem searchU_k {w : World} {a : Fp} {N : Nat} {L : List Fe} {z : Nat → Int} (h : Fx w a N L z) (x : Nat) (hx : x < N) (r R : Nat) (hr : Boxed w R 3 (.int .i64 (r : Int))) :
    Calls Try.prog 68 #[.int .i64 (x : Int), upV a, undV R] w fun e w' => e = .returned (.tuple #[.int .i64 (((srch N L (fun y => decide (y = r)) x).getD 0 : Nat) : Int), .bool (srch N L (fun y => decide (y = r)) x).isSome]) ∧ Below w.heap.size w w' := by
  have H0 : Hid (Fx w a N L z ∧ Boxed w R 3 (.int .i64 (r : Int))) := ⟨h, hr⟩
  have hN := h.hN
  have hlen : L.length ≤ N := by rw [← nds_len]; exact len_le h.ok.nod h.ok.lt
  clear h
  go_enter Try.func68, Try.ntmps68
  go_wp2_with fail
  go_loopw [0, 8] (fun v q wr => ∃ (y s : Nat), v = .int .i64 (y : Int) ∧ q = .int .i64 (s : Int) ∧ Hid (Below w.heap.size w wr ∧ y < N ∧ srch N L (fun y => decide (y = r)) x = (srch N L (fun y => decide (y = r)) y).map (· + s) ∧ (nds L).idxOf y + s ≤ L.length)) (fun v _ _ => (nds L).idxOf (intOf v).toNat)
  case atStart => exact ⟨x, 0, rfl, rfl, Below.refl _ _, hx, by cases srch N L (fun y => decide (y = r)) x <;> rfl, by have := idx_le L x; omega⟩
  case round =>
    obtain ⟨y, s, rfl, rfl, hI⟩ := hrel
    have hI1 := hI.out.1
    have hs1 : s ≤ 1024 := by have := hI.out.2.2.2; omega
    have HF : Hid (Fx wr a N L z) := H0.out.1.below hI1
    have hc := under1_k y r R wr ((hI1.block R H0.out.2.lt).trans H0.out.2)
    have ho := fun W (hW : Below wr.heap.size wr W) => of_k a.o N N (kids L) y W (HF.out.below hW).kv
    have hin : inR N (y : Int) = true := inR_iff.2 (by have := hI.out.2.1; omega)
    clear hI1
    cases hS : (fun y => decide (y = r)) y
    · replace hS : decide (y = r) = false := hS
      rw [hS] at hc
      cases hw : whr (kids L) N y with
      | none =>
        have e1 : ofI N N (kids L) y = 0 := by simp [ofI, hw]
        have e2 : ofB N N (kids L) y = false := by simp [ofB, hw]
        rw [e1, e2] at ho
        have HR : Hid (srch N L (fun y => decide (y = r)) x = none) := by show _ = _; rw [hI.out.2.2.1, srch_root _ hS hw]; rfl
        clear e1 e2 hS hw hin
        go_wp2_with fail
        refine hc.mono ?_
        rintro e w2 ⟨rfl, hb2⟩
        go_wp2_with fail
        refine (ho _ hb2).mono ?_
        rintro e w3 ⟨rfl, hb3⟩
        have HB : Hid (Below w.heap.size w w3) := Below.onto (Below.onto hI.out.1 hb2) (below_of hb3)
        go_wp2_with fail
        go_ret2
        rw [HR.out]
        exact ⟨rfl, HB.out⟩
      | some p =>
        have e1 : ofI N N (kids L) y = (p : Int) := by simp [ofI, hw, hin]
        have e2 : ofB N N (kids L) y = true := by simp [ofB, hw, hin]
        rw [e1, e2] at ho
        have hb := (HF.out.ok.behind (whr_kid HF.out.ok hw)).2
        have hp := (whr_some hw).1
        have HR : Hid (srch N L (fun y => decide (y = r)) x = (srch N L (fun y => decide (y = r)) p).map (· + (s + 1)) ∧ p < N ∧ (nds L).idxOf p < (nds L).idxOf y) := ⟨by
          rw [hI.out.2.2.1, srch_up _ HF.out.ok hS hw, Option.map_map]
          congr 1
          funext k
          show k + 1 + s = k + (s + 1)
          omega, hp, hb⟩
        clear e1 e2 hS hw hin hb hp
        go_wp2_with fail
        refine hc.mono ?_
        rintro e w2 ⟨rfl, hb2⟩
        go_wp2_with fail
        refine (ho _ hb2).mono ?_
        rintro e w3 ⟨rfl, hb3⟩
        have HB : Hid (Below w.heap.size w w3) := Below.onto (Below.onto hI.out.1 hb2) (below_of hb3)
        go_wp2_with fail
        go_roundw
        case rel => exact ⟨p, s + 1, rfl, by go_num, HB.out, HR.out.2.1, HR.out.1, by have := hI.out.2.2.2; have := HR.out.2.2; omega⟩
        case measure => simp only [intOf, Int.toNat_natCast]; exact HR.out.2.2
    · replace hS : decide (y = r) = true := hS
      rw [hS] at hc
      have HR : Hid (srch N L (fun y => decide (y = r)) x = some s) := by show _ = _; rw [hI.out.2.2.1, srch_hit _ hS]; simp
      clear hS hin
      go_wp2_with fail
      refine hc.mono ?_
      rintro e w2 ⟨rfl, hb2⟩
      have HB : Hid (Below w.heap.size w w2) := Below.onto hI.out.1 hb2
      go_wp2_with fail
      go_ret2
      rw [HR.out]
      exact ⟨rfl, HB.out⟩

end Go.Proofs.Ytlphombjejgbiaa
