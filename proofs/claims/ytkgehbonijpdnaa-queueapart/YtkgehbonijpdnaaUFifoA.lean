/- Acts, credits, boxes without numbers: what both walks over acts want. -/
import Derived.Test.YtkgehbonijpdnaaUFifoN
import Derived.Test.YtkgehbonijpdnaaUReg
import Derived.Test.YtkgehbonijpdnaaUNew
import Derived.Test.YtkgehbonijpdnaaUAwake
import Derived.Test.YtkgehbonijpdnaaURefC
namespace Go.Proofs.Ytkgehbonijpdnaa
open Go.RowKit Go.Sort
set_option maxRecDepth 100000

theorem eltC : Elt 34 47 3 24 (.agg #[.int .i64 0, .int .i64 0, .int .i64 0]) := ⟨Try.underlying34, by kernel_rfl, rfl, by decide, by decide⟩
theorem eltU : Elt 35 39 1 8 (.int .u64 0) := ⟨Try.underlying35, by kernel_rfl, rfl, by decide, by decide⟩
/-- values that are no numbers -/
def noI : Value → Bool
  | .int _ _ => false
  | _ => true
/-- numbers do not lie in a box that holds none -/
theorem Sl.box {w w' : World} {B s n : Nat} {T : TypeId} {l : List Value} {c : Nat → Nat → Value} {v : Value} (h : Sl w s n c v) (hs : 0 < s) (hi : ∀ j, j < n → noI (c j 0) = false) (hb : Blk w B T l) (hl : ∀ y ∈ l, noI y = true) (hw : ∀ b, b ≠ B → w'.heap[b]? = w.heap[b]?) : Sl w' s n c v := by
  obtain ⟨a, cap, rfl, h1, h2, hr⟩ := h
  refine ⟨a, cap, rfl, h1, h2, fun j hj => ?_⟩
  obtain ⟨b, off, e, hc⟩ := hr j hj
  have hne : b ≠ B := by
    rintro rfl
    have h3 := hc 0 hs
    have h4 : w.cell? ⟨b, off + j * s + 0, none⟩ = l[off + j * s + 0]? := by rw [cell_of_row w b _ _ T (0, 0) hb]; simp
    rw [h4] at h3
    have h5 := hl _ (List.mem_of_getElem? h3)
    rw [hi j hj] at h5
    cases h5
  exact ⟨b, off, e, fun f hf => (World.cell?_of_block (w := w) (a := ⟨b, off + j * s + f, none⟩) (hw b hne)).trans (hc f hf)⟩
/-- credits, and which lanes are two-way -/
def csT (f : Nat → Int) (i : Nat) : List Int := (List.range i).map fun j => f j % 8 + 1
def twT (f : Nat → Int) (i : Nat) : List Bool := (List.range i).map fun j => decide (128 ≤ f j)
theorem csT_len (f : Nat → Int) (i : Nat) : (csT f i).length = i := by simp [csT]
theorem twT_len (f : Nat → Int) (i : Nat) : (twT f i).length = i := by simp [twT]
theorem csT_succ (f : Nat → Int) (i : Nat) : (csT f (i + 1)).map (Value.int .i64) = (csT f i).map (Value.int .i64) ++ [.int .i64 (f i % 8 + 1)] := by simp [csT, List.range_succ]
theorem twT_succ (f : Nat → Int) (i : Nat) : (twT f (i + 1)).map Value.bool = (twT f i).map Value.bool ++ [.bool (decide (128 ≤ f i))] := by simp [twT, List.range_succ]
theorem csT_rng (f : Nat → Int) (i : Nat) (h : ∀ j, j < i → 0 ≤ f j ∧ f j < 256) : ∀ c ∈ csT f i, 1 ≤ c ∧ c ≤ 8 := by
  intro c hc
  simp [csT] at hc
  obtain ⟨j, hj, rfl⟩ := hc
  have := h j hj
  omega
theorem cs_sl {w : World} {B i : Nat} {v : Value} {f : Nat → Int} (h : w.ownsRow B 3 1 v i ((csT f i).map (Value.int .i64))) : Sl w 1 (csT f i).length (encI (csT f i)) v := by
  rw [csT_len]
  refine sl_own h fun j hj k hk => ?_
  obtain rfl : k = 0 := by omega
  simp [encI, atI, hj, csT]
theorem tw_sl {w : World} {B i : Nat} {v : Value} {f : Nat → Int} (h : w.ownsRow B 4 1 v i ((twT f i).map Value.bool)) : Sl w 1 (twT f i).length (encB (twT f i)) v := by
  rw [twT_len]
  refine sl_own h fun j hj k hk => ?_
  obtain rfl : k = 0 := by omega
  simp [encB, atB, hj, twT]
/-- an act -/
structure UOp where
  k : Int
  ln : Int
  n : Int
  x : Int
def encO (o : UOp) : Nat → Value
  | 0 => .int .i64 o.k
  | 1 => .int .i64 o.ln
  | 2 => .int .u8 o.n
  | _ => .int .u64 o.x
theorem uop_at {w : World} {a : Option Addr} {n : Nat} {g : Nat → UOp} (h : Rd w a n 4 (fun j => encO (g j))) {i : Nat} (hi : i < n) : ∃ b off, a = some ⟨b, off, none⟩ ∧ w.cell? ⟨b, off + i * 4, none⟩ = some (.int .i64 (g i).k) ∧ w.cell? ⟨b, off + i * 4 + 1, none⟩ = some (.int .i64 (g i).ln) ∧ w.cell? ⟨b, off + i * 4 + 2, none⟩ = some (.int .u8 (g i).n) ∧ w.cell? ⟨b, off + i * 4 + 3, none⟩ = some (.int .u64 (g i).x) := by
  obtain ⟨b, off, e, hc⟩ := h i hi
  exact ⟨b, off, e, hc 0 (by omega), hc 1 (by omega), hc 2 (by omega), hc 3 (by omega)⟩
end Go.Proofs.Ytkgehbonijpdnaa
