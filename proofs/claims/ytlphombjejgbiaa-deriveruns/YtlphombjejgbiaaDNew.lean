/- New, Len, Parent. -/
import Derived.Test.YtlphombjejgbiaaDCut
namespace Go.Proofs.Ytlphombjejgbiaa
open Go.RowKit Go.Shelf
attribute [local go_sem] Oper.semAt_some
set_option maxRecDepth 100000

theorem fok_nil (N : Nat) : Fok N [] := ⟨by simp [nds], by simp [nds], fun l1 e l2 h => by simp at h⟩
theorem kids_nil : kids [] = fun _ => [] := by funext k; simp [kids]
/-- what a forest keeps when it is made -/
def kc0 (n : Nat) (v : Value) : Array Value := #[Value.int .i64 (n : Int), Value.int .u64 0, Value.int .u64 0, Value.int .u64 0, Value.int .u64 0, Value.int .u64 0, Value.int .u64 0, Value.int .u64 0, Value.int .u64 0, Value.int .u64 0, Value.int .u64 0, Value.int .u64 0, Value.int .u64 0, Value.int .u64 0, Value.int .u64 0, Value.int .u64 0, Value.int .u64 0, v]
theorem kc0_at (n : Nat) (v : Value) : ∀ i, i < 16 → (kc0 n v)[1 + i]? = some (.int .u64 0) := fun i hi => by
  rw [Nat.add_comm]
  rcases (show i = 0 ∨ i = 1 ∨ i = 2 ∨ i = 3 ∨ i = 4 ∨ i = 5 ∨ i = 6 ∨ i = 7 ∨ i = 8 ∨ i = 9 ∨ i = 10 ∨ i = 11 ∨ i = 12 ∨ i = 13 ∨ i = 14 ∨ i = 15 by omega) with rfl | rfl | rfl | rfl | rfl | rfl | rfl | rfl | rfl | rfl | rfl | rfl | rfl | rfl | rfl | rfl <;> rfl
theorem dnew_fo {w2 : World} {o : Pl} {n : Nat} (hn : n ≤ 1024) (hkv : Kv w2 o n n (fun _ => [])) :
    Fo ((w2.alloc (.cells (kc0 n o.ptr) 67)).alloc (.cells #[.pointer (some ⟨w2.heap.size, 0, none⟩)] 69)) ⟨w2.heap.size + 1, w2.heap.size, o⟩ n [] := by
  obtain ⟨W, hW⟩ : ∃ W, (w2.alloc (.cells (kc0 n o.ptr) 67)).alloc (.cells #[.pointer (some ⟨w2.heap.size, 0, none⟩)] 69) = W := ⟨_, rfl⟩
  have hb : Below w2.heap.size w2 W := by rw [← hW]; exact ((Below.refl _ w2).alloc (Nat.le_refl _) _).alloc (by simp) _
  have hblk : W.heap[w2.heap.size]? = some (.cells (kc0 n o.ptr) 67) := by
    rw [← hW]; exact (Below.heap_alloc _ _ _ (by simp)).trans (World.alloc_heap_new w2 _)
  have hbox : Boxed W (w2.heap.size + 1) 69 (.pointer (some ⟨w2.heap.size, 0, none⟩)) := by
    have := Boxed.new (w2.alloc (.cells (kc0 n o.ptr) 67)) 69 (.pointer (some ⟨w2.heap.size, 0, none⟩))
    rw [World.size_alloc, hW] at this; exact this
  rw [hW]
  refine ⟨fun _ => 0, hbox, ?_, fun i hi => ⟨?_, by omega, by omega⟩, ?_, fun i => ?_, by rw [kids_nil]; exact hkv.below hb, fok_nil n, hn, fun i j _ _ => by rw [tb_zero]; simp [nds], ?_⟩
  · show World.cell? _ _ = _
    unfold World.cell?; rw [hblk]; rfl
  · show World.cell? _ _ = _
    unfold World.cell?; rw [hblk]; exact kc0_at n _ i hi
  · show World.cell? _ _ = _
    unfold World.cell?; rw [hblk]; rfl
  · show World.frozen? _ _ = _
    unfold World.frozen?; rw [hblk]; simp
  · refine ⟨by show w2.heap.size + 1 ≠ w2.heap.size; omega, fun h => ?_, fun h => ?_⟩
    · have : w2.heap.size + 1 < w2.heap.size := hkv.lt _ h
      omega
    · have : w2.heap.size < w2.heap.size := hkv.lt _ h
      omega
set_option maxHeartbeats 2000000 in
theorem dnew_k (n : Nat) (hn : n ≤ 1024) (w : World) :
    Calls Try.prog 6 #[.int .i64 (n : Int)] w fun e w' => ∃ a : Fp, e = .returned (.tuple #[a.ptr, .int .i64 0]) ∧ Fo w' a n [] ∧ Below w.heap.size w w' ∧ ∀ b, a.has b → w.heap.size ≤ b := by
  have hk := new_k n n w (by omega) (by omega)
  go_enter Try.func6, Try.ntmps6
  go_wp2_with fail
  refine hk.mono ?_
  rintro e w2 ⟨o, rfl, hkv, hb2, hge⟩
  go_wp2_with fail
  go_ret2
  have hs := hb2.size
  refine ⟨⟨w2.heap.size + 1, w2.heap.size, o⟩, rfl, dnew_fo hn hkv, (hb2.alloc hs _).alloc (by simp; omega) _, ?_⟩
  rintro b (rfl | rfl | hb)
  · show w.heap.size ≤ w2.heap.size + 1; omega
  · exact hs
  · exact hge b hb
set_option maxHeartbeats 1000000 in
theorem dnew_bad (x : Int) (h : x < 0 ∨ 1024 < x) (w : World) :
    Calls Try.prog 6 #[.int .i64 x] w fun e w' => e = .returned (.tuple #[.pointer none, .int .i64 1]) ∧ w' = w := by
  rcases h with h | h
  · go_enter Try.func6, Try.ntmps6
    go_wp2_with fail
    go_ret2
    exact ⟨rfl, rfl⟩
  · have h0 : 0 ≤ x := by omega
    go_enter Try.func6, Try.ntmps6
    go_wp2_with fail
    go_ret2
    exact ⟨rfl, rfl⟩
/-- the nodes that are marked among the first 64 n -/
def mkd (z : Nat → Int) (n : Nat) : List Nat := (List.range n).filter fun x => tb (z (x / 64)) (x % 64)
theorem popW_mkd (z : Nat → Int) (n : Nat) : popW z n = (mkd z (64 * n)).length := by
  induction n with
  | zero => simp [popW, mkd]
  | succ n ih =>
    have e : 64 * (n + 1) = 64 * n + 64 := by omega
    rw [popW, ih, mkd, mkd, e, List.range_add, List.filter_append, List.length_append, mems, memsTo, List.filter_map, List.length_map]
    congr 2
    apply List.filter_congr
    intro x hx
    have hx : x < 64 := by simpa using hx
    simp only [Function.comp]
    rw [show (64 * n + x) / 64 = n by omega, show (64 * n + x) % 64 = x by omega]
theorem popW_len {w : World} {a : Fp} {N : Nat} {L : List Fe} {z : Nat → Int} (h : Fx w a N L z) : popW z 16 = L.length := by
  rw [popW_mkd, ← nds_len]
  refine List.Perm.length_eq ((List.perm_ext_iff_of_nodup (List.nodup_range.sublist List.filter_sublist) h.ok.nod).2 fun x => ?_)
  have hN := h.hN
  simp only [List.mem_filter, List.mem_range]
  constructor
  · rintro ⟨h1, h2⟩
    rw [h.mark (by omega)] at h2
    simpa using h2
  · intro hx
    have := h.ok.lt x hx
    exact ⟨by omega, by rw [h.mark (by omega)]; simpa using hx⟩
set_option maxHeartbeats 1000000 in
theorem len_k12 {w : World} {a : Fp} {N : Nat} {L : List Fe} (h : Fo w a N L) :
    Calls Try.prog 24 #[a.ptr] w fun e w' => e = .returned (.int .i64 (L.length : Nat)) ∧ w' = w := by
  obtain ⟨z, h⟩ := h
  have hi := fis_any h
  have c := h.pc.cell
  have hm := mcount_any a.k z w h.kz
  rw [popW_len h] at hm
  clear h
  go_enter Try.func24, Try.ntmps24
  go_wp2_with fail
  refine hi.mono ?_
  rintro e w' ⟨rfl, rfl⟩
  go_wp2_with fail
  refine hm.mono ?_
  rintro e w' ⟨rfl, rfl⟩
  go_wp2_with fail
  go_ret
  exact ⟨rfl, rfl⟩
/-- what Parent tells -/
def parB (N : Nat) (L : List Fe) (x : Int) : Bool := hasF N L x && ofB N N (kids L) x
def parI (N : Nat) (L : List Fe) (x : Int) : Int := if hasF N L x then ofI N N (kids L) x else 0
set_option maxHeartbeats 1000000 in
theorem parent_k {w : World} {a : Fp} {N : Nat} {L : List Fe} (h : Fo w a N L) (x : Int) :
    Calls Try.prog 30 #[a.ptr, .int .i64 x] w fun e w' => e = .returned (.tuple #[.int .i64 (parI N L x), .bool (parB N L x)]) ∧ Below w.heap.size w w' := by
  obtain ⟨z, h⟩ := h
  have hh := fhas_any h x
  have HX : Hid (Fx w a N L z) := h
  clear h
  cases hq : hasF N L x
  · have HR : Hid (parI N L x = 0 ∧ parB N L x = false) := by constructor <;> simp [parI, parB, hq]
    rw [hq] at hh
    clear hq
    go_enter Try.func30, Try.ntmps30
    go_wp2_with fail
    refine hh.mono ?_
    rintro e w2 ⟨rfl, hb2⟩
    go_wp2_with fail
    go_ret2
    rw [HR.out.1, HR.out.2]
    exact ⟨rfl, hb2⟩
  · have HR : Hid (parI N L x = ofI N N (kids L) x ∧ parB N L x = ofB N N (kids L) x) := by constructor <;> simp [parI, parB, hq]
    rw [hq] at hh
    clear hq
    go_enter Try.func30, Try.ntmps30
    go_wp2_with fail
    refine hh.mono ?_
    rintro e w2 ⟨rfl, hb2⟩
    have h2 := HX.out.below hb2
    have c := h2.pc.cell
    have c17 := h2.k17
    have ho := of_k a.o N N (kids L) x w2 h2.kv
    have HB : Hid _ := hb2
    clear h2 hb2
    go_wp2_with fail
    refine ho.mono ?_
    rintro e w3 ⟨rfl, hb3⟩
    go_wp2_with fail
    go_ret2
    rw [HR.out.1, HR.out.2]
    exact ⟨rfl, HB.out.trans (hb3.below HB.out.size (fun _ h => h.elim))⟩
end Go.Proofs.Ytlphombjejgbiaa
