/- Which row's first record stands first. -/
import Derived.Test.YtcfmbppnghlkaaaYMath
import Derived.Test.YtcfmbppnghlkaaaOStamp
import Derived.Deep.RegionHeld3
namespace Go.Proofs.Ytcfmbppnghlkaaa
open Go.RowKit
set_option maxRecDepth 100000

set_option maxHeartbeats 1000000 in
theorem ycomp (b1 o1 n1 c1 b2 o2 n2 c2 : Nat) (t s t' s' : Int) (w : World) (h1 : 0 < n1) (h2 : 0 < n2)
    (k1 : w.cell? ⟨b1, o1, none⟩ = some (.int .i64 t)) (k2 : w.cell? ⟨b1, o1 + 1, none⟩ = some (.int .i64 s)) (k3 : w.cell? ⟨b2, o2, none⟩ = some (.int .i64 t')) (k4 : w.cell? ⟨b2, o2 + 1, none⟩ = some (.int .i64 s')) :
    Calls Try.prog 34 #[.slice (some ⟨b1, o1, none⟩) n1 c1, .slice (some ⟨b2, o2, none⟩) n2 c2] w fun e w' => e = .returned (.int .i64 (cmpI t s t' s')) ∧ Below w.heap.size w w' := by
  have hc := cmp_any t s t' s' w.drew
  have toS : ∀ W, Below w.heap.size w W → W.cell? ⟨b1, o1, none⟩ = some (.int .i64 t) ∧ W.cell? ⟨b1, o1 + 1, none⟩ = some (.int .i64 s) ∧ W.cell? ⟨b2, o2, none⟩ = some (.int .i64 t') ∧ W.cell? ⟨b2, o2 + 1, none⟩ = some (.int .i64 s') := fun W hW =>
    ⟨(hW.cell (p := ⟨b1, o1, none⟩) (cell_lt k1)).trans k1, (hW.cell (p := ⟨b1, o1 + 1, none⟩) (cell_lt k2)).trans k2, (hW.cell (p := ⟨b2, o2, none⟩) (cell_lt k3)).trans k3, (hW.cell (p := ⟨b2, o2 + 1, none⟩) (cell_lt k4)).trans k4⟩
  clear k1 k2 k3 k4
  generalize cmpI t s t' s' = r at *
  go_enter Try.func34, Try.ntmps34
  go_wp2_with fail
  go_region_held3 (fun W => W.cell? ⟨b1, o1, none⟩ = some (.int .i64 t) ∧ W.cell? ⟨b1, o1 + 1, none⟩ = some (.int .i64 s) ∧ W.cell? ⟨b2, o2, none⟩ = some (.int .i64 t') ∧ W.cell? ⟨b2, o2 + 1, none⟩ = some (.int .i64 s')) (first | (with_reducible assumption) | exact toS _ (by assumption) | exact toS _ (Below.refl _ _).drew | exact toS _ (Below.refl _ _)) (first | (go_at_call 44; (with_reducible refine hc.mono ?_); rintro v w5 ⟨rfl, hb5⟩; have e5 : Below w.heap.size w w5 := (Below.refl _ w).drew.trans hb5))
  all_goals
    have HB : Hid (Below w.heap.size w w5) := e5
    clear hb5 e5
    try go_wp2_with fail
    go_ret
    exact ⟨rfl, HB.out⟩
set_option maxHeartbeats 1000000 in
theorem ysooner (b1 o1 n1 c1 b2 o2 n2 c2 : Nat) (t s t' s' : Int) (w : World) (h1 : 0 < n1) (h2 : 0 < n2)
    (k1 : w.cell? ⟨b1, o1, none⟩ = some (.int .i64 t)) (k2 : w.cell? ⟨b1, o1 + 1, none⟩ = some (.int .i64 s)) (k3 : w.cell? ⟨b2, o2, none⟩ = some (.int .i64 t')) (k4 : w.cell? ⟨b2, o2 + 1, none⟩ = some (.int .i64 s')) :
    Calls Try.prog 46 #[.slice (some ⟨b1, o1, none⟩) n1 c1, .slice (some ⟨b2, o2, none⟩) n2 c2] w fun e w' => e = .returned (.bool (decide (cmpI t s t' s' < 0))) ∧ Below w.heap.size w w' := by
  have hc := ycomp b1 o1 n1 c1 b2 o2 n2 c2 t s t' s' w h1 h2 k1 k2 k3 k4
  clear k1 k2 k3 k4
  generalize cmpI t s t' s' = r at *
  go_enter Try.func46, Try.ntmps46
  go_wp2_with fail
  refine hc.mono ?_
  rintro v w5 ⟨rfl, hb5⟩
  clear hc
  go_wp2_with fail
  go_ret
  exact ⟨rfl, hb5⟩
theorem cmpI_key {r q : Rc} (h : r.Ok) (k : q.Ok) : decide (cmpI r.t r.s q.t q.s < 0) = decide (r.key < q.key) := by
  have hk := h.key k
  unfold cmpI
  split
  · simp; omega
  · split
    · simp; omega
    · simp; omega

/-- the rows' records lie in memory -/
def Fam.In (f : Fam) (w : World) : Prop := ∀ i, i < f.K → ∀ j r, (f.rc i)[j]? = some r → ∀ k v, (encR r)[k]? = some v → w.cell? ⟨f.B i, 4 * j + k, none⟩ = some v
theorem Fam.In.below {f : Fam} {w w' : World} (h : f.In w) (hb : Below w.heap.size w w') : f.In w' := fun i hi j r hr k v hv =>
  (hb.cell (p := ⟨f.B i, 4 * j + k, none⟩) (cell_lt (h i hi j r hr k v hv))).trans (h i hi j r hr k v hv)
theorem fsooner : ∀ args W, (callFunc 46 args).run Try.prog W = .ok (.enter 46 args) W := enters_of Try.func46 (by kernel_rfl) rfl
/-- how the agenda compares; all that was there stays -/
abbrev leY (f : Fam) (w0 : World) : Le := ⟨46, #[], fun W => Below w0.heap.size w0 W, fun b => b < w0.heap.size, True, f.P⟩
theorem leY_ok {f : Fam} {F : List Rc} {w0 : World} (ok : f.Ok F) (h : f.In w0) : (leY f w0).Ok := by
  refine ⟨?_, fsooner, fun W W' hJ hB => ?_, fun W b hJ hb => Nat.lt_of_lt_of_le hb hJ.size, ?_⟩
  · rintro k m ⟨i, j, r, hi, hr, rfl, rfl⟩
    exact ⟨(some ⟨f.B i, 4 * j, none⟩, (f.rc i).length - j, f.C i - j), rfl⟩
  · exact ⟨hB.os.trans hJ.os, hB.tape.trans hJ.tape, hB.output.trans hJ.output, Nat.le_trans hJ.size hB.size, fun b hb => (hB.block b (Nat.lt_of_lt_of_le hb hJ.size) (fun hn => hn hb)).trans (hJ.block b hb)⟩
  · rintro W k1 m1 k2 m2 ⟨i, j, r, hi, hr, rfl, rfl⟩ ⟨i', j', q, hi', hq, rfl, rfl⟩ hJ
    have hIn : f.In W := h.below hJ
    have hl := (List.getElem?_eq_some_iff.1 hr).1
    have hl' := (List.getElem?_eq_some_iff.1 hq).1
    have c1 := hIn i hi j r hr 0 _ rfl
    have c2 := hIn i hi j r hr 1 _ rfl
    have c3 := hIn i' hi' j' q hq 0 _ rfl
    have c4 := hIn i' hi' j' q hq 1 _ rfl
    refine (ysooner (f.B i) (4 * j) ((f.rc i).length - j) (f.C i - j) (f.B i') (4 * j') ((f.rc i').length - j') (f.C i' - j') r.t r.s q.t q.s W (by omega) (by omega) c1 c2 c3 c4).mono ?_
    rintro e w' ⟨rfl, hb⟩
    exact ⟨_, rfl, fun _ => cmpI_key (ok.ok i hi r (List.mem_of_getElem? hr)) (ok.ok i' hi' q (List.mem_of_getElem? hq)), But.of hb, Below.onto hJ hb⟩
end Go.Proofs.Ytcfmbppnghlkaaa
