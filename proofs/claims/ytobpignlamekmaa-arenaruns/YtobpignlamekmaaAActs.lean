/- Alloc, Write, Read, Free, Counts, Part, Look. -/
import Derived.Test.YtobpignlamekmaaALeaf
import Derived.Deep.RegionHeld3
namespace Go.Proofs.Ytobpignlamekmaa
open Go.RowKit Go.Sort
set_option maxRecDepth 100000

def alE (h : Sh) (d : Da) (x : Int) : Int := if inR h.P x then (if popB h.P d.R x then 0 else 61) else 5
def alN (h : Sh) (d : Da) (x : Int) : Int := popI h.P d.R x
def alG (h : Sh) (d : Da) (x : Int) : Int := if popB h.P d.R x then d.gen (popI h.P d.R x).toNat else 0
def alD (h : Sh) (d : Da) (x : Int) : Da := { d with R := popR h.P d.R x }

theorem popR_sub {m : Nat} {R : Nat → List Nat} {i : Int} {k x : Nat} (h : x ∈ popR m R i k) : x ∈ R k := by
  unfold popR at h
  split at h
  · unfold upd at h
    split at h
    · rename_i e; subst e; exact List.mem_of_mem_tail h
    · exact h
  · exact h
theorem alD_ok {h : Sh} {d : Da} (ok : d.Ok h) (x : Int) : (alD h d x).Ok h :=
  ⟨fun k hk y hy => ok.own k hk y (popR_sub hy), fun k hk y hy => ok.zero k hk y (popR_sub hy), ok.g64, ok.p64⟩
theorem popB_in {m : Nat} {R : Nat → List Nat} {i : Int} (h : popB m R i = true) : inR m i = true := by
  unfold popB at h; rw [Bool.and_eq_true] at h; exact h.1
theorem pop_head {m : Nat} {R : Nat → List Nat} {i : Int} (h : popB m R i = true) : ∃ (k x : Nat) (l : List Nat), i = (k : Int) ∧ k < m ∧ R k = x :: l ∧ popI m R i = (x : Int) ∧ popR m R i = upd R k l := by
  have hp' := h
  unfold popB at hp'
  rw [Bool.and_eq_true] at hp'
  obtain ⟨k, rfl, hkm⟩ := inR_nat hp'.1
  cases hh : R k with
  | nil => rw [show ((k : Int)).toNat = k by omega, hh] at hp'; simp at hp'
  | cons x l => exact ⟨k, x, l, rfl, hkm, hh, by simp [popI, h, hh], by simp [popR, h, hh]⟩

theorem But.lists {o : Po} {w w' : World} (h : But o.l.has w w') : But o.has w w' := h.mono fun _ hb => .inr (.inr (.inr hb))
theorem But.below' {S : Nat → Prop} {w w1 w2 : World} (h : But S w w1) (k : Below w1.heap.size w1 w2) : But S w w2 := h.trans (But.of k)

set_option maxHeartbeats 2000000 in
theorem alloc_a (o : Po) (h : Sh) (d : Da) (x : Int) (w : World) (a : Ax w o h d) :
    Calls Try.prog 22 #[o.ptr, .int .i64 x] w fun e w' => e = .returned (.tuple #[.agg #[.int .i64 (alN h d x), .int .u64 (alG h d x)], .int .i64 (alE h d x)]) ∧ Ax w' o h (alD h d x) ∧ But o.has w w' := by
  have HK : Hid (Ax w o h d) := a
  have hno : ¬ o.has w.heap.size := fun hb => by have := a.lt _ hb; omega
  clear a
  have hB := (Below.refl _ w).alloc (Nat.le_refl _) (.cells #[.int .i64 0, .int .u64 0] 36)
  obtain ⟨c0, c1, cf⟩ := box2 (w := w) (x := .int .i64 0) (y := .int .u64 0) (T := 36) (Below.refl _ _)
  obtain ⟨W, hW⟩ : ∃ W, w.alloc (.cells #[.int .i64 0, .int .u64 0] 36) = W := ⟨_, rfl⟩
  rw [hW] at c0 c1 cf hB
  have HW : Hid (Ax W o h d) := HK.out.below hB
  have hkn := known_a o h d x W HW.out
  have hpop := pop_k o.l h.N h.P d.R x W HW.out.kv
  have l2 := HW.out.c2
  cases hh : inR h.P x
  · have hpb : popB h.P d.R x = false := by simp [popB, hh]
    have e1 : alE h d x = 5 := by simp [alE, hh]
    have e2 : alN h d x = 0 := by simp [alN, popI, hpb]
    have e3 : alG h d x = 0 := by simp [alG, hpb]
    have e4 : alD h d x = d := by simp [alD, popR, hpb]
    have e5 : knE h x = 5 := by simp [knE, hh]
    rw [e1, e2, e3, e4]
    rw [e5] at hkn
    clear hpop l2
    go_enter Try.func22, Try.ntmps22
    go_wp2_with fail
    refine hkn.mono ?_
    rintro e w2 ⟨rfl, e2⟩
    subst e2
    go_wp2_with fail
    refine bodyPost_ret (v := .tuple #[.agg #[.int .i64 0, .int .u64 0], .int .i64 5]) (by simp [results, Try.results22, go_sem, c0, c1]) rfl ⟨rfl, ?_, ?_⟩
    · refine HW.out.same (by simp [World.setCell]) fun b ho => ?_
      rw [Below.heap_setCell _ _ _ _ (by rintro rfl; exact hno ho), Below.heap_setCell _ _ _ _ (by rintro rfl; exact hno ho)]
    · exact ((But.of hB : But o.has w _).setNew (Nat.le_refl _) _).setNew (Nat.le_refl _) _
  · have e5 : knE h x = 0 := by simp [knE, hh]
    rw [e5] at hkn
    cases hpb : popB h.P d.R x
    · have e1 : alE h d x = 61 := by simp [alE, hh, hpb]
      have e2 : alN h d x = 0 := by simp [alN, popI, hpb]
      have e3 : alG h d x = 0 := by simp [alG, hpb]
      have e4 : alD h d x = d := by simp [alD, popR, hpb]
      have e6 : popI h.P d.R x = 0 := by simp [popI, hpb]
      have e7 : popR h.P d.R x = d.R := by simp [popR, hpb]
      rw [e1, e2, e3, e4]
      rw [hpb, e6, e7] at hpop
      go_enter Try.func22, Try.ntmps22
      go_wp2_with fail
      refine hkn.mono ?_
      rintro e w2 ⟨rfl, e2⟩
      subst e2
      go_wp2_with fail
      refine hpop.mono ?_
      rintro e w3 ⟨rfl, hk3, hb3⟩
      have d0 := hb3.cell c0 (fun hb => hno (.inr (.inr (.inr hb))))
      have d1 := hb3.cell c1 (fun hb => hno (.inr (.inr (.inr hb))))
      have df := fun i => (World.frozen?_of_block (w := w2) (a := ⟨w.heap.size, i, none⟩) (hb3.block _ (cell_lt c0) (fun hb => hno (.inr (.inr (.inr hb)))))).trans (cf i)
      have H3 : Hid (Ax w3 o h d) := HW.out.setR hb3 hk3 HW.out.da
      have B3 : But o.has w w3 := (But.of hB : But o.has w _).trans hb3.lists
      clear hk3 hb3 cf c0 c1
      go_wp2_with fail
      refine bodyPost_ret (v := .tuple #[.agg #[.int .i64 0, .int .u64 0], .int .i64 61]) (by simp [results, Try.results22, go_sem, d0, d1]) rfl ⟨rfl, ?_, ?_⟩
      · refine H3.out.same (by simp [World.setCell]) fun b ho => ?_
        rw [Below.heap_setCell _ _ _ _ (by rintro rfl; exact hno ho), Below.heap_setCell _ _ _ _ (by rintro rfl; exact hno ho)]
      · exact (B3.setNew (Nat.le_refl _) _).setNew (Nat.le_refl _) _
    · obtain ⟨k, n, l, rfl, hkP, hR, hI, hR'⟩ := pop_head hpb
      have hn : n < h.N := HK.out.rng hkP (by rw [hR]; simp)
      have e1 : alE h d k = 0 := by simp [alE, hh, hpb]
      have e2 : alN h d k = n := hI
      have e3 : alG h d k = d.gen n := by simp [alG, hpb, hI]
      rw [e1, e2, e3]
      rw [hpb, hI] at hpop
      have HD : Hid ((alD h d k).Ok h) := alD_ok HK.out.da _
      clear e1 e2 e3 hI hR'
      go_enter Try.func22, Try.ntmps22
      go_wp2_with fail
      refine hkn.mono ?_
      rintro e w2 ⟨rfl, e2⟩
      subst e2
      go_wp2_with fail
      refine hpop.mono ?_
      rintro e w3 ⟨rfl, hk3, hb3⟩
      have d0 := hb3.cell c0 (fun hb => hno (.inr (.inr (.inr hb))))
      have d1 := hb3.cell c1 (fun hb => hno (.inr (.inr (.inr hb))))
      have df := fun i => (World.frozen?_of_block (w := w2) (a := ⟨w.heap.size, i, none⟩) (hb3.block _ (cell_lt c0) (fun hb => hno (.inr (.inr (.inr hb)))))).trans (cf i)
      have H3 : Hid (Ax w3 o h (alD h d k)) := HW.out.setR hb3 hk3 HD.out
      have B3 : But o.has w w3 := (But.of hB : But o.has w _).trans hb3.lists
      clear hk3 hb3 cf c0 c1
      go_wp2_with fail
      refine (name_a o h (alD h d k) n w3 H3.out hn).mono ?_
      rintro e w4 ⟨rfl, hb4⟩
      have f0 := (hb4.cell (p := ⟨w.heap.size, 0, none⟩) (cell_lt d0)).trans d0
      have f1 := (hb4.cell (p := ⟨w.heap.size, 1, none⟩) (cell_lt d0)).trans d1
      have ff := fun i => (World.frozen?_of_block (w := w3) (a := ⟨w.heap.size, i, none⟩) (hb4.block _ (cell_lt d0))).trans (df i)
      have H4 : Hid (Ax w4 o h (alD h d k)) := H3.out.below hb4
      have B4 := B3.below' hb4
      have e9 : (alD h d k).gen n = d.gen n := rfl
      rw [e9]
      clear hb4 df d0 d1
      go_wp2_with fail
      refine bodyPost_ret (v := .tuple #[.agg #[.int .i64 n, .int .u64 (d.gen n)], .int .i64 0]) (by simp [results, Try.results22, go_sem, f0, f1]) rfl ⟨rfl, ?_, ?_⟩
      · refine H4.out.same (by simp [World.setCell]) fun b ho => ?_
        rw [Below.heap_setCell _ _ _ _ (by rintro rfl; exact hno ho), Below.heap_setCell _ _ _ _ (by rintro rfl; exact hno ho)]
      · exact (B4.setNew (Nat.le_refl _) _).setNew (Nat.le_refl _) _
end Go.Proofs.Ytobpignlamekmaa
