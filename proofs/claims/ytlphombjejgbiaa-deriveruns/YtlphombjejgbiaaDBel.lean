/- All below a node, as a row of its own. -/
import Derived.Test.YtlphombjejgbiaaDWalk2
import Derived.Test.YtlphombjejgbiaaDMath2
import Derived.Test.YtlphombjejgbiaaDMark
import Derived.Laws.CopyOwn
namespace Go.Proofs.Ytlphombjejgbiaa
open Go.RowKit Go.Shelf
attribute [local go_sem] Oper.semAt_some
set_option maxRecDepth 100000

def zcF : Array Value := Array.replicate 1024 (Value.int .i64 0)
theorem zcF_run (w : World) : (zeroValue 122).run Try.prog w = .ok (.agg zcF) w := by kernel_rfl
theorem zcF_size : zcF.size = 1024 := by simp [zcF]
theorem zcF_at (i : Nat) (h : i < 1024) : zcF[i]? = some (.int .i64 0) := by simp [zcF, h]

set_option maxHeartbeats 4000000 in
theorem below_k (kb : Nat) (o : Pl) (N : Nat) (L : List Fe) (ok : Fok N L) (hN : N ≤ 1024) (k : Nat) (hk : k < N) (w : World) (hc : w.cell? ⟨kb, 17, none⟩ = some o.ptr) (hK : Kv w o N N (kids L)) :
    Calls Try.prog 55 #[.pointer (some ⟨kb, 0, none⟩), .int .i64 (k : Int)] w fun e w' => ∃ v, e = .returned v ∧ w'.ownsRow w.heap.size 3 1 v (blw L k).length (encL (blw L k)) ∧ Below w.heap.size w w' ∧ ∃ g, v = .slice (some ⟨g, 0, none⟩) (blw L k).length (blw L k).length := by
  have hzr := zcF_run
  have hz := zcF_size
  have hza : Hid _ := zcF_at
  generalize zcF = zc at *
  have hz2 : ¬ zc = #[] := by intro e; rw [e] at hz; simp at hz
  have HK : Hid (w.cell? ⟨kb, 17, none⟩ = some o.ptr ∧ Kv w o N N (kids L) ∧ Fok N L) := ⟨hc, hK, ok⟩
  clear hc hK ok
  go_enter Try.func55, Try.ntmps55
  go_wp2_with fail
  obtain ⟨w2, hw2⟩ : ∃ w2, (w.alloc (.cells zc 122)).alloc (.cells #[.int .i64 0] 3) = w2 := ⟨_, rfl⟩
  rw [hw2]
  have hb2 : Below w.heap.size w w2 := by rw [← hw2]; exact ((Below.refl _ w).alloc (Nat.le_refl _) _).alloc (by simp) _
  have hsz2 : w2.heap.size = w.heap.size + 2 := by rw [← hw2]; simp
  have hblk : w2.heap[w.heap.size]? = some (.cells zc 122) := by
    rw [← hw2]; exact (Below.heap_alloc _ _ _ (by simp)).trans (World.alloc_heap_new w _)
  have hbox : Boxed w2 (w.heap.size + 1) 3 (.int .i64 0) := by
    have := Boxed.new (w.alloc (.cells zc 122)) 3 (.int .i64 0)
    rw [World.size_alloc, hw2] at this; exact this
  have hwk : Wk w2 kb o N w.heap.size (w.heap.size + 1) L [] := by
    obtain ⟨h1, h2, h3⟩ := HK.out
    refine ⟨(World.cell?_of_block (a := ⟨kb, 17, none⟩) (hb2.block _ (cell_lt h1))).trans h1, h2.below hb2, ⟨fun i hi => ⟨0, ?_⟩, fun i hi => by simp at hi, fun i => ?_, hbox, by omega⟩, ?_⟩
    · simp [World.cell?, hblk, hza.out i hi]
    · simp [World.frozen?, hblk]
    · have h4 := cell_lt h1
      refine ⟨fun h => ?_, fun h => ?_, by omega, by omega⟩
      · have := h2.lt _ h; omega
      · have := h2.lt _ h; omega
  have hlen := blw_len HK.out.2.2 k
  have hcall := walk_k kb o N w.heap.size (w.heap.size + 1) L HK.out.2.2 (hgt L k) k hk (Nat.le_refl _) [] w2 hwk (by rw [bel_blw HK.out.2.2 (Nat.le_refl _)]; simp only [List.length_nil]; omega)
  rw [bel_blw HK.out.2.2 (Nat.le_refl _), List.nil_append] at hcall
  generalize hT : blw L k = T at *
  have HTe : Hid (blw L k = T) := hT
  clear hT hwk hblk hbox hw2
  refine hcall.mono ?_
  rintro e w3 ⟨rfl, hF, hbut⟩
  have hB3 : Below w.heap.size w w3 := hb2.trans (hbut.below (by omega) (fun b hb => by omega))
  have hs3 := hbut.size
  clear hcall hbut hb2
  have c3 := hF.b.cell
  have hmk := make_ints w3 T.length (T.length : Int) rfl (by omega)
  have hF4 := hF.below ((Below.refl _ w3).alloc (Nat.le_refl _) (.cells (madeCells (Value.int .i64 0).cells T.length) 3))
  have hsl : ∀ W : World, Sem.run Try.prog (Instr.sliceAt 122 (.pointer (some ⟨w.heap.size, 0, none⟩)) none none none) W = .ok (.slice (some ⟨w.heap.size, 0, none⟩) 1024 1024) W := by intro W; kernel_rfl
  have hg4 : (w3.alloc (.cells (madeCells (Value.int .i64 0).cells T.length) 3)).heap[w3.heap.size]? = some (.cells (madeCells (Value.int .i64 0).cells T.length) 3 (0, 0)) := World.alloc_heap_new _ _
  have hB4 : Below w.heap.size w (w3.alloc (.cells (madeCells (Value.int .i64 0).cells T.length) 3)) := hB3.alloc (by omega) _
  have hcs : (madeCells (Value.int .i64 0).cells T.length).size = T.length := by simp [madeCells]
  have HF : Hid (Fnd (w3.alloc (.cells (madeCells (Value.int .i64 0).cells T.length) 3)) w.heap.size (w.heap.size + 1) T) := hF4
  have hsz4 : (w3.alloc (.cells (madeCells (Value.int .i64 0).cells T.length) 3)).heap.size = w3.heap.size + 1 := by simp
  generalize w3.alloc (.cells (madeCells (Value.int .i64 0).cells T.length) 3) = w4 at *
  generalize madeCells (Value.int .i64 0).cells T.length = cur at *
  have hll : (encL T).length = T.length := by simp [encL]
  have hsrc : ∀ j v, (encL T)[j]? = some v → w4.cell? ((⟨w.heap.size, 0, none⟩ : Addr).add j) = some v := by
    intro j v hj
    have hj' : j < T.length := by rw [← hll]; exact (List.getElem?_eq_some_iff.1 hj).1
    rw [encL_at2 hj'] at hj
    cases hj
    rw [Go.WideShapes.add_plain, Nat.zero_add]
    exact HF.out.t j hj'
  have hone : ∀ v, v ∈ encL T → v.oneCell' = true := by
    intro v hv
    simp only [encL, List.mem_map] at hv
    obtain ⟨x, _, rfl⟩ := hv
    rfl
  have hml : (encL T).length = Nat.min 1024 T.length := by rw [hll]; show _ = min _ _; omega
  have hcp := run_copy_row (P := Try.prog) w4 35 35 3 3 w3.heap.size 0 T.length T.length ⟨w.heap.size, 0, none⟩ 1024 1024 cur 3 (encL T) Try.underlying35 (by kernel_rfl) hg4 hml hsrc (by omega) hone
  have hE : (cur.toList.take 0 ++ encL T ++ cur.toList.drop (0 + (encL T).length)).toArray = (encL T).toArray := by
    rw [List.drop_eq_nil_of_le (by simp; omega)]; simp
  rw [hE, hll] at hcp
  have HE : Hid ((w4.setRow w3.heap.size (encL T).toArray).heap[w3.heap.size]? = some (.cells (encL T).toArray 3 (0, 0)) ∧ Below w.heap.size w (w4.setRow w3.heap.size (encL T).toArray)) :=
    ⟨setRow_heap w4 w3.heap.size _ _ 3 _ hg4, hB4.trans ⟨rfl, rfl, rfl, by simp [World.setRow], fun k hk => setRow_other w4 w3.heap.size k _ (by omega)⟩⟩
  generalize w4.setRow w3.heap.size (encL T).toArray = w5 at *
  clear hF hF4 HK hsrc hone hml hE
  go_wp2_with fail
  go_ret
  rw [HTe.out]
  refine ⟨_, rfl, ⟨by rw [hll]; omega, .inr ⟨w3.heap.size, T.length, (encL T).toArray, rfl, by omega, HE.out.1, Nat.le_refl _, by unfold maxLen; omega, by simp [hll], by rw [Nat.mul_one, ← hll]; simp⟩⟩, HE.out.2, _, rfl⟩
end Go.Proofs.Ytlphombjejgbiaa
