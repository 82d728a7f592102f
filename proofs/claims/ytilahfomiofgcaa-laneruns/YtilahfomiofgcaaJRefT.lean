/- The document's first, First, Take. -/
import Derived.Test.YtilahfomiofgcaaJRefS
import Derived.Deep.RegionHeld3
namespace Go.Proofs.Ytilahfomiofgcaa
open Go.RowKit Go.Sort
set_option maxRecDepth 100000

def isP (m : Ms) : Bool := decide (m.is = 2)
def ftI (l : List Ms) : Int := if l.findIdx isP < l.length then (l.findIdx isP : Int) else -1
section
variable {w : World} {r : Nat} {rv : Value} {A : La} {l : List Ms}
set_option maxHeartbeats 2000000 in
theorem rfirst (x : Rq w r rv A l) (hl : l.length ≤ 1000) :
    Calls Try.prog 35 #[pV r] w fun v w' => v = .returned (.int .i64 (ftI l)) ∧ Below w.heap.size w w' := by
  obtain ⟨a0, cap0, hv0⟩ := x.form
  subst hv0
  have HX : Hid (Rq w r (.slice a0 l.length cap0) A l) := x
  have E : Hid (ftI l = if l.findIdx isP < l.length then (l.findIdx isP : Int) else -1) := rfl
  generalize hN : l.length = N at *
  clear x
  go_enter Try.func35, Try.ntmps35
  go_wp2_with fail
  go_loopw [3] (fun vi wr => ∃ k : Nat, k ≤ N ∧ vi = .int .i64 k ∧ Hid (Below w.heap.size w wr) ∧ Hid (k ≤ l.findIdx isP)) (fun vi _ => N - (intOf vi).toNat)
  case atStart => exact ⟨0, Nat.zero_le _, rfl, Below.refl _ _, Nat.zero_le _⟩
  case round =>
    obtain ⟨k, hk, rfl, HBr, HF⟩ := hrel
    have xr := HX.out.below HBr.out
    have k4 := xr.cell 4
    simp only [List.getElem?_toArray, List.getElem?_cons_succ, List.getElem?_cons_zero] at k4
    by_cases hkN : k < N
    · obtain ⟨m, hm⟩ : ∃ m, l[k]? = some m := ⟨l[k]'(by omega), List.getElem?_eq_getElem (by omega)⟩
      obtain ⟨g, cap2, hv2, _, _, _, c1, _⟩ := xr.at_ hm
      injection hv2 with hv2 hv3 hv4
      subst hv2 hv4
      clear hv3 xr
      by_cases h2 : m.is = 2
      · have HFI : Hid (l.findIdx isP = k) := find_here HF.out hm (by unfold isP; simp [h2])
        rw [h2] at c1
        clear hm h2
        go_wp2_with fail
        go_ret
        refine ⟨?_, HBr.out⟩
        rw [E.out, if_pos (by rw [HFI.out]; exact hkN), HFI.out]
        rfl
      · have HFM : Hid (k + 1 ≤ l.findIdx isP) := find_more HF.out hm (by unfold isP; simp [h2])
        have h3 : ((m.is : Int) == 2) = false := by simp; omega
        generalize m.is = mi at *
        clear hm
        go_wp2_with fail
        go_roundw
        case rel => exact ⟨k + 1, by omega, by go_num, HBr, HFM⟩
        case measure => simp [intOf]; omega
    · go_wp2_with fail
      go_ret
      refine ⟨?_, HBr.out⟩
      have := HF.out
      rw [E.out, if_neg (by omega)]
      rfl
set_option maxHeartbeats 2000000 in
theorem rFirst_no (x : Rq w r rv A l) (hl : l.length ≤ 1000) (hf : ftI l = -1) :
    Calls Try.prog 21 #[pV r] w fun v w' => v = .returned (.tuple #[smV 0 0, tkV 0 0, .bool false]) ∧ Below w.heap.size w w' := by
  have hb := jalloc (jalloc (Below.refl _ w) (.cells #[.int .i64 0, .int .i64 0] 38)) (.cells #[.int .u64 0, .int .u64 0] 34)
  have b2 := fun W hW => jtwo (w := w) (w' := W) (x := .int .i64 0) (y := .int .i64 0) (u := .int .u64 0) (v := .int .u64 0) (T := 38) (U := 34) hW
  have cF := rfirst (x.below hb) hl
  rw [hf] at cF
  have HB : Hid (Below w.heap.size w ((w.alloc (.cells #[.int .i64 0, .int .i64 0] 38)).alloc (.cells #[.int .u64 0, .int .u64 0] 34))) := hb
  clear x hb
  obtain ⟨B, hBs⟩ : ∃ B, w.heap.size = B := ⟨_, rfl⟩
  go_enter Try.func21, Try.ntmps21
  go_wp2_with fail
  refine cF.mono ?_
  rintro v w2 ⟨rfl, hb2⟩
  obtain ⟨⟨k0, k1, kf⟩, k2, k3, kg⟩ := b2 _ hb2
  rw [hBs] at k0 k1 kf k2 k3 kg
  have HB2 : Hid (Below w.heap.size w w2) := Below.onto HB.out hb2
  clear cF b2 HB
  go_wp2_with fail
  refine bodyPost_ret (v := .tuple #[smV 0 0, tkV 0 0, .bool false]) (by simp [results, Try.results21, go_sem, k0, k1, k2, k3, smV, tkV]) rfl ⟨rfl, ?_⟩
  iterate 2 (refine Below.setCell ?_ (by show _ ≤ B + 1; omega) _)
  iterate 2 (refine Below.setCell ?_ (by exact Nat.le_of_eq hBs) _)
  exact HB2.out
set_option maxHeartbeats 2000000 in
theorem rFirst_ok (x : Rq w r rv A l) (hl : l.length ≤ 1000) (i : Nat) (m : Ms) (hm : l[i]? = some m) (hf : ftI l = (i : Int)) :
    Calls Try.prog 21 #[pV r] w fun v w' => v = .returned (.tuple #[smV m.tk m.sp, tkV (sqI A.st m.k) A.ep, .bool true]) ∧ Below w.heap.size w w' := by
  have hi := (List.getElem?_eq_some_iff.1 hm).1
  have hb := jalloc (jalloc (Below.refl _ w) (.cells #[.int .i64 0, .int .i64 0] 38)) (.cells #[.int .u64 0, .int .u64 0] 34)
  have b2 := fun W hW => jtwo (w := w) (w' := W) (x := .int .i64 0) (y := .int .i64 0) (u := .int .u64 0) (v := .int .u64 0) (T := 38) (U := 34) hW
  have cF := rfirst (x.below hb) hl
  rw [hf] at cF
  have HX : Hid (Rq w r rv A l) := x
  have HB : Hid (Below w.heap.size w ((w.alloc (.cells #[.int .i64 0, .int .i64 0] 38)).alloc (.cells #[.int .u64 0, .int .u64 0] 34))) := hb
  clear x hb
  obtain ⟨B, hBs⟩ : ∃ B, w.heap.size = B := ⟨_, rfl⟩
  go_enter Try.func21, Try.ntmps21
  go_wp2_with fail
  refine cF.mono ?_
  rintro v w2 ⟨rfl, hb2⟩
  have x2 := HX.out.below (Below.onto HB.out hb2)
  obtain ⟨g0, cap, rfl, _, _, c0, c1, c2, c3, c4, c5, c6⟩ := x2.at_ hm
  have k4 := x2.cell 4
  have k3 := x2.cell 3
  simp only [List.getElem?_toArray, List.getElem?_cons_succ, List.getElem?_cons_zero] at k4 k3
  have b3 := fun W (hW : Below w2.heap.size w2 W) => b2 W (Below.onto hb2 hW)
  rw [hBs] at b3
  have HB2 : Hid (Below w.heap.size w w2) := Below.onto HB.out hb2
  obtain ⟨⟨b0, b1, bf⟩, b4, b5, bg⟩ := b3 _ (Below.refl _ _)
  have hgB : ¬ (g0 = B ∨ g0 = B + 1) := by
    have h1 := (HX.out.ow.lt g0 rfl).2
    omega
  have hrB : ¬ (r = B ∨ r = B + 1) := by
    have h1 := HX.out.lt
    omega
  have toS : ∀ W, But (fun b => b = B ∨ b = B + 1) w2 W → W.cell? ⟨r, 4, none⟩ = some (.slice (some ⟨g0, 0, none⟩) l.length cap) ∧ W.cell? ⟨r, 3, none⟩ = some (.int .u64 A.ep) ∧ W.cell? ⟨g0, i * 7, none⟩ = some (.int .u64 (sqI A.st m.k)) ∧ W.cell? ⟨g0, i * 7 + 5, none⟩ = some (.int .i64 m.tk) ∧ W.cell? ⟨g0, i * 7 + 6, none⟩ = some (.int .i64 m.sp) :=
    fun W h => ⟨h.cell k4 hrB, h.cell k3 hrB, h.cell c0 hgB, h.cell c5 hgB, h.cell c6 hgB⟩
  have to2 := toS _ (But.refl _ _)
  clear cF b2 HB x2 c0 c1 c2 c3 c4 c5 c6 k4 k3 hb2 b3
  generalize hN : l.length = N at *
  go_wp2_with fail
  go_region_held3 (fun W => W.cell? ⟨r, 4, none⟩ = some (.slice (some ⟨g0, 0, none⟩) N cap) ∧ W.cell? ⟨r, 3, none⟩ = some (.int .u64 A.ep) ∧ W.cell? ⟨g0, i * 7, none⟩ = some (.int .u64 (sqI A.st m.k)) ∧ W.cell? ⟨g0, i * 7 + 5, none⟩ = some (.int .i64 m.tk) ∧ W.cell? ⟨g0, i * 7 + 6, none⟩ = some (.int .i64 m.sp)) (first | assumption | exact to2 | exact toS _ (by repeat (first | exact (But.refl _ _).drew | exact But.refl _ _ | refine But.drew ?_ | refine But.setCell ?_ (Or.inl rfl) _ | refine But.setCell ?_ (Or.inr rfl) _))) (fail)
  clear toS to2
  go_wp2_with fail
  refine bodyPost_ret (v := .tuple #[smV m.tk m.sp, tkV (sqI A.st m.k) A.ep, .bool true]) (by simp [results, Try.results21, go_sem, b0, b1, b4, b5, smV, tkV]) rfl ⟨rfl, Below.drew ?_⟩
  iterate 2 (refine Below.setCell ?_ (by show _ ≤ B + 1; omega) _)
  iterate 2 (refine Below.setCell ?_ (by exact Nat.le_of_eq hBs) _)
  exact HB2.out
set_option maxHeartbeats 2000000 in
theorem rtake_no (x : Rq w r rv A l) (hl : l.length ≤ 1000) (hf : ftI l = -1) :
    Calls Try.prog 22 #[pV r] w fun v w' => v = .returned (.tuple #[slV 0 0, tkV 0 0, .int .i64 82]) ∧ RGo w r rv w' A l := by
  have hb := jalloc (jalloc (Below.refl _ w) (.cells #[.int .i64 0, .int .u64 0] 36)) (.cells #[.int .u64 0, .int .u64 0] 34)
  have b2 := fun W hW => jtwo (w := w) (w' := W) (x := .int .i64 0) (y := .int .u64 0) (u := .int .u64 0) (v := .int .u64 0) (T := 36) (U := 34) hW
  have cF := rfirst (x.below hb) hl
  rw [hf] at cF
  have HX : Hid (Rq w r rv A l) := x
  have HB : Hid (Below w.heap.size w ((w.alloc (.cells #[.int .i64 0, .int .u64 0] 36)).alloc (.cells #[.int .u64 0, .int .u64 0] 34))) := hb
  clear x hb
  obtain ⟨B, hBs⟩ : ∃ B, w.heap.size = B := ⟨_, rfl⟩
  go_enter Try.func22, Try.ntmps22
  go_wp2_with fail
  refine cF.mono ?_
  rintro v w2 ⟨rfl, hb2⟩
  obtain ⟨⟨k0, k1, kf⟩, k2, k3, kg⟩ := b2 _ hb2
  rw [hBs] at k0 k1 kf k2 k3 kg
  have HB2 : Hid (Below w.heap.size w w2) := Below.onto HB.out hb2
  clear cF b2 HB
  go_wp2_with fail
  refine bodyPost_ret (v := .tuple #[slV 0 0, tkV 0 0, .int .i64 82]) (by simp [results, Try.results22, go_sem, k0, k1, k2, k3, slV, tkV]) rfl ⟨rfl, RGo.stay HX.out ?_⟩
  iterate 2 (refine Below.setCell ?_ (by show _ ≤ B + 1; omega) _)
  iterate 2 (refine Below.setCell ?_ (by exact Nat.le_of_eq hBs) _)
  exact HB2.out
set_option maxHeartbeats 2000000 in
theorem rtake_ok (x : Rq w r rv A l) (hl : l.length ≤ 1000) (i : Nat) (m : Ms) (hm : l[i]? = some m) (hf : ftI l = (i : Int)) :
    Calls Try.prog 22 #[pV r] w fun v w' => v = .returned (.tuple #[slV m.n m.g, tkV (sqI A.st m.k) A.ep, .int .i64 0]) ∧ RGo w r rv w' A (l.set i { m with is := 3 }) := by
  have hi := (List.getElem?_eq_some_iff.1 hm).1
  have hb := jalloc (jalloc (Below.refl _ w) (.cells #[.int .i64 0, .int .u64 0] 36)) (.cells #[.int .u64 0, .int .u64 0] 34)
  have b2 := fun W hW => jtwo (w := w) (w' := W) (x := .int .i64 0) (y := .int .u64 0) (u := .int .u64 0) (v := .int .u64 0) (T := 36) (U := 34) hW
  have cF := rfirst (x.below hb) hl
  rw [hf] at cF
  have HX : Hid (Rq w r rv A l) := x
  have HB : Hid (Below w.heap.size w ((w.alloc (.cells #[.int .i64 0, .int .u64 0] 36)).alloc (.cells #[.int .u64 0, .int .u64 0] 34))) := hb
  clear x hb
  obtain ⟨B, hBs⟩ : ∃ B, w.heap.size = B := ⟨_, rfl⟩
  go_enter Try.func22, Try.ntmps22
  go_wp2_with fail
  refine cF.mono ?_
  rintro v w2 ⟨rfl, hb2⟩
  have x2 := HX.out.below (Below.onto HB.out hb2)
  obtain ⟨g0, cap, rfl, _, _, c0, c1, c2, c3, c4, c5, c6⟩ := x2.at_ hm
  have k4 := x2.cell 4
  simp only [List.getElem?_toArray, List.getElem?_cons_succ, List.getElem?_cons_zero] at k4
  have hb3 := jalloc (Below.refl _ w2) (.cells #[.int .u64 (sqI A.st m.k), .int .i64 3, .bool m.laid, .int .i64 m.n, .int .u64 m.g, .int .i64 m.tk, .int .i64 m.sp] 72)
  have cS := rset _ r _ A l (x2.below hb3) hl i hi { m with is := 3 }
  unfold mrV at cS
  have hrl := HX.out.lt
  have b3 := fun W (hW : But (fun b => b = r) w2 W) => b2 w2 hb2
  have nw := fun k hk => jnew_at w2 #[.int .u64 (sqI A.st m.k), .int .i64 3, .bool m.laid, .int .i64 m.n, .int .u64 m.g, .int .i64 m.tk, .int .i64 m.sp] 72 k hk
  have HB3 : Hid (Below w.heap.size w (w2.alloc (.cells #[.int .u64 (sqI A.st m.k), .int .i64 3, .bool m.laid, .int .i64 m.n, .int .u64 m.g, .int .i64 m.tk, .int .i64 m.sp] 72))) := Below.onto (Below.onto HB.out hb2) hb3
  obtain ⟨⟨k0, k1, kf⟩, k2, k3, kg⟩ := b2 _ (Below.onto hb2 hb3)
  rw [hBs] at k0 k1 kf k2 k3 kg
  have hszB : w.heap.size < w2.heap.size := by have := cell_lt k0; have h9 := hb2.size; simp at h9; omega
  have HSZ : Hid (w.heap.size + 2 ≤ w2.heap.size) := by have h9 := hb2.size; simp at h9; exact h9
  clear cF b2 b3 hb2 x2 HB hb3 hszB
  go_wp2_with fail
  refine cS.mono ?_
  rintro v w4 ⟨rfl, rv', y, hbut, hown⟩
  have ybl := y.cell 3
  simp only [List.getElem?_toArray, List.getElem?_cons_succ, List.getElem?_cons_zero] at ybl
  have tr : ∀ {b j : Nat} {u : Value}, ¬ b = r → (w2.alloc (.cells #[.int .u64 (sqI A.st m.k), .int .i64 3, .bool m.laid, .int .i64 m.n, .int .u64 m.g, .int .i64 m.tk, .int .i64 m.sp] 72)).cell? ⟨b, j, none⟩ = some u → w4.cell? ⟨b, j, none⟩ = some u := fun hb h => hbut.cell h hb
  have n0 := tr (by have := HSZ.out; omega) (nw 0 (by simp))
  have n3 := tr (by have := HSZ.out; omega) (nw 3 (by simp))
  have n4 := tr (by have := HSZ.out; omega) (nw 4 (by simp))
  simp only [List.getElem_toArray, List.getElem_cons_zero, List.getElem_cons_succ] at n0 n3 n4
  have k0 := tr (by omega) k0
  have k1 := tr (by omega) k1
  have k2 := tr (by omega) k2
  have k3 := tr (by omega) k3
  have hsz2 := HSZ.out
  obtain ⟨D, hD⟩ : ∃ D, w2.heap.size = D := ⟨_, rfl⟩
  rw [hD] at n0 n3 n4 hsz2
  have hDB : ¬ (D = B ∨ D = B + 1) := by omega
  have hrB : ¬ (r = B ∨ r = B + 1) := by omega
  have kf : ∀ i, w4.frozen? ⟨B, i, none⟩ = false := fun i => (World.frozen?_of_block (a := ⟨B, i, none⟩) (hbut.block B (by simp; omega) (by omega))).trans (kf i)
  have kg : ∀ i, w4.frozen? ⟨B + 1, i, none⟩ = false := fun i => (World.frozen?_of_block (a := ⟨B + 1, i, none⟩) (hbut.block (B + 1) (by simp; omega) (by omega))).trans (kg i)
  have toS : ∀ W, But (fun b => b = B ∨ b = B + 1) w4 W → W.cell? ⟨D, 0, none⟩ = some (.int .u64 (sqI A.st m.k)) ∧ W.cell? ⟨D, 3, none⟩ = some (.int .i64 m.n) ∧ W.cell? ⟨D, 4, none⟩ = some (.int .u64 m.g) ∧ W.cell? ⟨r, 3, none⟩ = some (.int .u64 A.ep) :=
    fun W h => ⟨h.cell n0 hDB, h.cell n3 hDB, h.cell n4 hDB, h.cell ybl hrB⟩
  have to4 := toS _ (But.refl _ _)
  have HY : Hid (Rq w4 r rv' A (l.set i { m with is := 3 })) := y
  have HBT : Hid (But (fun b => b = r) w w4) := (But.of HB3.out).trans hbut
  have HOW : Hid (∀ b, rv'.ownBlock = some b → (Value.slice (some ⟨g0, 0, none⟩) l.length cap).ownBlock = some b ∨ w2.heap.size + 1 ≤ b) := fun b hb => by simpa using hown b hb
  have HGL : Hid (g0 < w.heap.size) := (HX.out.ow.lt g0 rfl).2
  clear cS y hbut hown nw tr n0 n3 n4 ybl c0 c1 c2 c3 c4 c5 c6 k4
  generalize hN : l.length = N at *
  go_wp2_with fail
  go_region_held3 (fun W => W.cell? ⟨D, 0, none⟩ = some (.int .u64 (sqI A.st m.k)) ∧ W.cell? ⟨D, 3, none⟩ = some (.int .i64 m.n) ∧ W.cell? ⟨D, 4, none⟩ = some (.int .u64 m.g) ∧ W.cell? ⟨r, 3, none⟩ = some (.int .u64 A.ep)) (first | assumption | exact to4 | exact toS _ (by repeat (first | exact (But.refl _ _).drew | exact But.refl _ _ | refine But.drew ?_ | refine But.setCell ?_ (Or.inl rfl) _ | refine But.setCell ?_ (Or.inr rfl) _))) (fail)
  clear toS to4
  go_wp2_with fail
  refine bodyPost_ret (v := .tuple #[slV m.n m.g, tkV (sqI A.st m.k) A.ep, .int .i64 0]) (by simp [results, Try.results22, go_sem, k0, k1, k2, k3, slV, tkV]) rfl ⟨rfl, ?_⟩
  have hO := HOW.out
  have hne : ∀ b, b = B ∨ b = B + 1 → ¬ rhas r rv' b := fun b hb h => by
    rcases h with h | h
    · omega
    · rcases hO b h with h | h
      · have := HGL.out
        simp [Value.ownBlock] at h
        omega
      · omega
  have hbx : But (fun b => b = B ∨ b = B + 1) w4 _ := But.drew (But.setCell (But.setCell (But.setCell (But.setCell (But.refl _ w4) (p := ⟨B, 0, none⟩) (Or.inl rfl) (.int .i64 m.n)) (p := ⟨B, 1, none⟩) (Or.inl rfl) (.int .u64 m.g)) (p := ⟨B + 1, 0, none⟩) (Or.inr rfl) (.int .u64 (sqI A.st m.k))) (p := ⟨B + 1, 1, none⟩) (Or.inr rfl) (.int .u64 A.ep))
  refine ⟨rv', HY.out.but hbx (fun b hb hs => hne b hs hb), ?_, fun b hb => ?_⟩
  · refine ⟨hbx.os.trans HBT.out.os, hbx.tape.trans HBT.out.tape, hbx.output.trans HBT.out.output, Nat.le_trans HBT.out.size hbx.size, fun k hk hkr => ?_⟩
    rw [hbx.block k (Nat.lt_of_lt_of_le hk HBT.out.size) (by omega)]
    exact HBT.out.block k hk hkr
  · rcases hO b hb with h | h
    · exact .inl h
    · right; omega
end
end Go.Proofs.Ytilahfomiofgcaa
