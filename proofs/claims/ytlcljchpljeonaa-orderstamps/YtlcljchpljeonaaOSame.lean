/- Two rows of stamps are the same; stamps that came in. -/
import Derived.Test.YtlcljchpljeonaaOSortR
import Derived.Test.YtlcljchpljeonaaORow
import Derived.Deep.Slices
namespace Go.Proofs.Ytlcljchpljeonaa
open Go.RowKit Go.ChangeShapes Go.WideShapes Go.Deep Go.Joins
open Go.Sort hiding Below
set_option maxRecDepth 100000

theorem own_sts {w : World} {b : Nat} {v : Value} {L : List St} (h : w.ownsRow b 37 2 v L.length (encS L)) : ∃ oa cap, v = .slice oa L.length cap ∧ Sts w oa L.length (fun j => L.getD j (0, 0)) := by
  rcases h.2 with ⟨rfl, h0⟩ | ⟨g, cap, cur, rfl, _⟩
  · exact ⟨none, 0, by rw [h0], fun j hj => absurd hj (by omega)⟩
  · refine ⟨_, cap, rfl, fun j hj => ⟨g, 0, rfl, ?_⟩⟩
    obtain ⟨h0, h1⟩ := encS_at L hj
    have e : L.getD j (0, 0) = L[j] := by simp [List.getD, hj]
    simp only
    rw [e, Nat.zero_add]
    exact ⟨by rw [h.cellAt (j * 2) (by omega)]; exact h0, by rw [h.cellAt (j * 2 + 1) (by omega)]; exact h1⟩

set_option maxHeartbeats 2000000 in
theorem rsame_any (a a' : Option Addr) (n cap cap' : Nat) (z : Nat → St) (w : World) (hn : n ≤ 200) (h : Sts w a n z) (h' : Sts w a' n z) :
    Calls Try.prog 22 #[.slice a n cap, .slice a' n cap'] w fun e w' => e = .returned (.bool true) ∧ Below w.heap.size w w' := by
  have HA : Hid (Sts w a n z) := h
  have HB : Hid (Sts w a' n z) := h'
  clear h h'
  go_enter Try.func22, Try.ntmps22
  go_wp2
  go_loopw [5] (fun i wr => ∃ k : Nat, k ≤ n ∧ i = .int .i64 k ∧ Below w.heap.size w wr) (fun i _ => n - (intOf i).toNat)
  case atStart => exact ⟨0, by omega, rfl, Below.refl _ _⟩
  case round =>
    obtain ⟨k, hk, rfl, hb⟩ := hrel
    by_cases hlt : k < n
    · obtain ⟨b, off, rfl, c0, c1⟩ := HA.out.below hb k hlt
      obtain ⟨b', off', rfl, d0, d1⟩ := HB.out.below hb k hlt
      have r0 := cell_regrown c0
      have r1 := cell_regrown c1
      have r2 := cell_regrown d0
      have r3 := cell_regrown d1
      generalize (z k).1 = x1 at *
      generalize (z k).2 = x2 at *
      go_wp2_with fail
      refine wp_region_quiet_below (by kernel_rfl) (by kernel_rfl) ?_
      repeat (go_big_quiet_step (fail))
      refine wpQuiet_nil ?_
      intro _ hw'
      obtain ⟨⟨dq, osq⟩, hw''⟩ := hw'
      subst hw''
      have hbQ := Below.onto hb (below_regrown wr dq osq)
      clear r0 r1 r2 r3 c0 c1 d0 d1 hb
      generalize grow (redrawn wr dq) osq = w5 at *
      go_wp2_with fail
      go_roundw
      case rel => exact ⟨k + 1, by omega, by go_num, hbQ⟩
      case measure => simp [intOf]; omega
    · obtain rfl : k = n := by omega
      go_wp2
      go_ret
      exact ⟨rfl, hb⟩

section
variable {H : Type} {enc : TypeId × Value → H} {w : World} {base : Nat} {spare : Nat → Bool} {held : Bool}
theorem ocell_spot {w : World} {a : Addr} {v : Value} (h : w.cell? a = some v) : a.spot = none := by
  unfold World.cell? at h
  split at h
  · by_cases hs : a.spot.isSome
    · simp [hs] at h
    · simpa using hs
  · cases h
def onumAt (w : World) (a : Addr) : Int := match w.cell? a with | some (.int _ n) => n | _ => 0
theorem onum_at {w : World} {a : Addr} {k : IntKind} {x : Int} (h : w.cell? a = some (.int k x)) : onumAt w a = x := by unfold onumAt; rw [h]
/-- a stamp's cells -/
theorem st_cells {n : Nat} {c0 c1 : Value} {y : DataW H × List MemPlace} (h : DataW.trod enc Try.prog w base spare held n 37 [c0, c1] = some y) : ∃ t s : Int, c0 = .int .i64 t ∧ c1 = .int .i64 s := by
  obtain ⟨xs, n, _, _, _, hlen, hf⟩ := DataW.trod_struct Try.underlying37 h
  match xs, hlen, hf with
  | [y0, y1], _, hf =>
    have e1 : Try.prog.cellsOf 3 = 1 := by kernel_rfl
    obtain ⟨t, rfl, _⟩ := int_cell (v := c0) Try.underlying3 (by simpa [e1] using hf 0 _ rfl)
    obtain ⟨s, rfl, _⟩ := int_cell (v := c1) Try.underlying3 (by simpa [e1] using hf 1 _ rfl)
    exact ⟨t, s, rfl, rfl⟩
/-- stamps that came in -/
def StRow (w : World) (a : Option Addr) (len cap : Nat) (z : Nat → St) : Prop := Sts w a len z ∧ len ≤ cap ∧ cap ≤ maxLen ∧ (a = none → len = 0 ∧ cap = 0)
theorem open_sts {r : Reach} {b0 : Nat} {v : Value} {d : DataW H} {ps : List MemPlace} (hv : Value.okWide Try.prog w r b0 35 v) (hT : DataW.Trod enc Try.prog w base (fun _ => true) held 35 v d ps) :
    ∃ (a : Option Addr) (len cap : Nat) (z : Nat → St), v = .slice a len cap ∧ StRow w a len cap z := by
  obtain ⟨a, len, cap, rfl⟩ := okWide_slice Try.underlying35 hv
  obtain ⟨fuel, hf⟩ := hT
  rcases open_slice Try.underlying35 hf with ⟨hcs, _⟩ | ⟨x, l, c, m, n, D, Pl, hcs, _, hl, hm, hmm, _, hx⟩
  · simp [Value.cells] at hcs
    obtain ⟨rfl, rfl, rfl⟩ := hcs
    exact ⟨none, 0, 0, fun _ => (0, 0), rfl, fun j hj => absurd hj (by omega), Nat.le_refl _, Nat.zero_le _, fun _ => ⟨rfl, rfl⟩⟩
  · simp [Value.cells] at hcs
    obtain ⟨rfl, rfl, rfl⟩ := hcs
    refine ⟨_, _, _, fun j => (onumAt w (x.add (j * 2)), onumAt w (x.add (j * 2 + 1))), rfl, fun j hj => ?_, hl, hm, fun e => by cases e⟩
    have each : ∀ j, j < len → ∃ k p : Int, w.cell? ((x.add (j * 2)).add 0) = some (.int .i64 k) ∧ w.cell? ((x.add (j * 2)).add 1) = some (.int .i64 p) := by
      intro j hj
      obtain ⟨cs', h1, h2⟩ := hx j (by rw [hmm]; split <;> omega)
      rw [show Try.prog.cellsOf 37 = 2 by kernel_rfl] at h1
      obtain ⟨_, hlen, hcell⟩ := World.cells?_some h1
      match cs', hlen, hcell, h2 with
      | [c0, c1], _, hcell, h2 =>
        obtain ⟨k, p, rfl, rfl⟩ := st_cells h2
        exact ⟨k, p, hcell 0 (by omega), hcell 1 (by omega)⟩
    have h2 : x.spot = none := by
      obtain ⟨k, _, h0, _⟩ := each 0 (by omega)
      exact ocell_spot (a := x) h0
    obtain ⟨k, p, e0, e1⟩ := each j hj
    obtain ⟨b, off, s⟩ := x
    simp only at h2
    subst h2
    have add2 : ∀ i : Nat, ((⟨b, off, none⟩ : Addr).add (j * 2)).add i = ⟨b, off + j * 2 + i, none⟩ := fun i => by rw [add_plain, add_plain]
    have add1 : ((⟨b, off, none⟩ : Addr).add (j * 2 + 1)) = ⟨b, off + j * 2 + 1, none⟩ := by rw [add_plain, Nat.add_assoc]
    have add0 : ((⟨b, off, none⟩ : Addr).add (j * 2)) = ⟨b, off + j * 2, none⟩ := add_plain _ _ _
    rw [add2] at e0 e1
    rw [Nat.add_zero] at e0
    refine ⟨b, off, rfl, ?_, ?_⟩
    · show _ = some (Value.int .i64 (onumAt w _))
      rw [add0, onum_at (x := k) e0]; exact e0
    · show _ = some (Value.int .i64 (onumAt w _))
      rw [add1, onum_at e1]; exact e1
end
theorem Sts.less {w : World} {a : Option Addr} {n m : Nat} {z : Nat → St} (h : Sts w a n z) (hm : m ≤ n) : Sts w a m z := fun j hj => h j (by omega)

end Go.Proofs.Ytlcljchpljeonaa
