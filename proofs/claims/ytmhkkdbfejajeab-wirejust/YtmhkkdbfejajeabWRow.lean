/- What is known of bytes, of requests and of replies that came in. -/
import Derived.Test.YtmhkkdbfejajeabWAlive
import Derived.OpenShut
import Derived.Lib.SmallJoins
namespace Go.Proofs.Ytmhkkdbfejajeab
open Go.RowKit Go.ChangeShapes Go.WideShapes Go.Joins

def ByRow (w : World) (a : Option Addr) (len cap : Nat) (z : Nat → Int) : Prop :=
  Cells w .u8 a len z ∧ (a = none → len = 0 ∧ cap = 0) ∧ len ≤ cap ∧ cap ≤ maxLen ∧ Byt z len
theorem byRow_nil (w : World) : ByRow w none 0 0 (fun _ => 0) :=
  ⟨fun j hj => absurd hj (by omega), fun _ => ⟨rfl, rfl⟩, Nat.le_refl _, Nat.zero_le _, fun j hj => absurd hj (by omega)⟩
theorem byRow_some {w : World} {x : Addr} {l c : Nat} {zs : List Int} (hl : l ≤ c) (hm : c ≤ maxLen) (hz : zs.length = c)
    (hcell : ∀ i, i < zs.length → w.cell? (x.add i) = some (.int .u8 (zs.getD i 0))) (hwz : ∀ n ∈ zs, (Lit.int .u8 n).wf = true) : ByRow w (some x) l c (fun j => zs.getD j 0) := by
  refine ⟨fun j hj => ?_, fun e => (by cases e), hl, hm, fun j hj => ?_⟩
  · obtain ⟨b, off, rfl, h⟩ := ints_at hcell (by omega)
    exact ⟨b, off, rfl, h j (by omega)⟩
  · have hj' : j < zs.length := by omega
    have e : zs.getD j 0 = zs[j] := by simp [List.getD, hj']
    have := bounds_u8 (hwz _ (List.getElem_mem hj'))
    show 0 ≤ zs.getD j 0 ∧ zs.getD j 0 < 256
    rw [e]; omega

section
variable {H : Type} {enc : TypeId × Value → H} {w : World} {base : Nat} {spare : Nat → Bool} {held : Bool}

theorem array5 {α : Type} {cs : Array α} (h : cs.size = 5) : ∃ c0 c1 c2 c3 c4, cs = #[c0, c1, c2, c3, c4] := by
  obtain ⟨l⟩ := cs
  match l, h with
  | [c0, c1, c2, c3, c4], _ => exact ⟨c0, c1, c2, c3, c4, rfl⟩
/-- a request's fields are within -/
def ReqIs (k a r h p : Int) : Prop := (0 ≤ k ∧ k < 256) ∧ (0 ≤ a ∧ a < 256) ∧ (0 ≤ r ∧ r < 256) ∧ (0 ≤ h ∧ h < 4294967296) ∧ 0 ≤ p ∧ p < 18446744073709551616
def RpyIs (k a h p : Int) : Prop := (0 ≤ k ∧ k < 256) ∧ (0 ≤ a ∧ a < 256) ∧ (0 ≤ h ∧ h < 4294967296) ∧ 0 ≤ p ∧ p < 18446744073709551616
theorem Try.cellsReq : Try.prog.cellsOf 28 = 5 := by kernel_rfl
theorem Try.cellsRpy : Try.prog.cellsOf 36 = 4 := by kernel_rfl

theorem int_cell {t : TypeId} {k : IntKind} {n : Nat} {v : Value} {y : DataW H × List MemPlace} (ht : Try.prog.underlying t = some (.int k)) (h : DataW.trod enc Try.prog w base spare held n t [v] = some y) : ∃ x, v = .int k x ∧ (Lit.int k x).wf = true := by
  obtain ⟨a, e0, _, wa⟩ := DataW.trod_int ht h
  simp at e0
  exact ⟨a, e0, wa⟩

theorem open_req {r : Reach} {b0 : Nat} {v : Value} {d : DataW H} {ps : List MemPlace} (hv : Value.okWide Try.prog w r b0 28 v) (hT : DataW.Trod enc Try.prog w base spare held 28 v d ps) :
    ∃ k a r h p : Int, v = .agg #[.int .u8 k, .int .u8 a, .int .u8 r, .int .u32 h, .int .u64 p] ∧ ReqIs k a r h p := by
  have hs := Try.underlying28
  obtain ⟨cs, rfl, hsz⟩ := okWide_struct hs hv
  obtain ⟨c0, c1, c2, c3, c4, rfl⟩ := array5 (hsz.trans Try.cellsReq)
  obtain ⟨fuel, hf⟩ := hT
  obtain ⟨xs, n, _, _, _, hlen, hf⟩ := DataW.trod_struct hs hf
  match xs, hlen, hf with
  | [y0, y1, y2, y3, y4], _, hf =>
    obtain ⟨k, rfl, wk⟩ := int_cell (v := c0) Try.underlying24 (by simpa [Value.cells, show Try.prog.cellsOf 24 = 1 by kernel_rfl] using hf 0 _ rfl)
    obtain ⟨a, rfl, wa⟩ := int_cell (v := c1) Try.underlying5 (by simpa [Value.cells, show Try.prog.cellsOf 5 = 1 by kernel_rfl] using hf 1 _ rfl)
    obtain ⟨r, rfl, wr⟩ := int_cell (v := c2) Try.underlying5 (by simpa [Value.cells, show Try.prog.cellsOf 5 = 1 by kernel_rfl] using hf 2 _ rfl)
    obtain ⟨h, rfl, wh⟩ := int_cell (v := c3) Try.underlying25 (by simpa [Value.cells, show Try.prog.cellsOf 25 = 1 by kernel_rfl] using hf 3 _ rfl)
    obtain ⟨p, rfl, wp⟩ := int_cell (v := c4) Try.underlying26 (by simpa [Value.cells, show Try.prog.cellsOf 26 = 1 by kernel_rfl] using hf 4 _ rfl)
    have := bounds_u8 wk
    have := bounds_u8 wa
    have := bounds_u8 wr
    have := bounds_u32 wh
    have := bounds_u64 wp
    exact ⟨k, a, r, h, p, rfl, by omega, by omega, by omega, by omega, by omega, by omega⟩
theorem open_rpy {r : Reach} {b0 : Nat} {v : Value} {d : DataW H} {ps : List MemPlace} (hv : Value.okWide Try.prog w r b0 36 v) (hT : DataW.Trod enc Try.prog w base spare held 36 v d ps) :
    ∃ k a h p : Int, v = .agg #[.int .u8 k, .int .u8 a, .int .u32 h, .int .u64 p] ∧ RpyIs k a h p := by
  have hs := Try.underlying36
  obtain ⟨cs, rfl, hsz⟩ := okWide_struct hs hv
  obtain ⟨c0, c1, c2, c3, rfl⟩ := array4 (hsz.trans Try.cellsRpy)
  obtain ⟨fuel, hf⟩ := hT
  obtain ⟨xs, n, _, _, _, hlen, hf⟩ := DataW.trod_struct hs hf
  match xs, hlen, hf with
  | [y0, y1, y2, y3], _, hf =>
    obtain ⟨k, rfl, wk⟩ := int_cell (v := c0) Try.underlying34 (by simpa [Value.cells, show Try.prog.cellsOf 34 = 1 by kernel_rfl] using hf 0 _ rfl)
    obtain ⟨a, rfl, wa⟩ := int_cell (v := c1) Try.underlying5 (by simpa [Value.cells, show Try.prog.cellsOf 5 = 1 by kernel_rfl] using hf 1 _ rfl)
    obtain ⟨h, rfl, wh⟩ := int_cell (v := c2) Try.underlying25 (by simpa [Value.cells, show Try.prog.cellsOf 25 = 1 by kernel_rfl] using hf 2 _ rfl)
    obtain ⟨p, rfl, wp⟩ := int_cell (v := c3) Try.underlying26 (by simpa [Value.cells, show Try.prog.cellsOf 26 = 1 by kernel_rfl] using hf 3 _ rfl)
    have := bounds_u8 wk
    have := bounds_u8 wa
    have := bounds_u32 wh
    have := bounds_u64 wp
    exact ⟨k, a, h, p, rfl, by omega, by omega, by omega, by omega, by omega⟩
end

end Go.Proofs.Ytmhkkdbfejajeab
