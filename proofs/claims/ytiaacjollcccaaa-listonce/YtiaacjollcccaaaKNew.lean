/- New: nodes and lists are made. -/
import Derived.Test.YtiaacjollcccaaaKOps
import Derived.Laws.MakeOwn
namespace Go.Proofs.Ytiaacjollcccaaa
open Go.RowKit

theorem Try.infoLink : (Try.prog.info? 72).map (fun i => (i.zero, i.size, i.bytes)) = some (some (.agg #[.int .i64 0, .int .i64 0, .int .i64 0]), 3, 24) := by kernel_rfl
theorem Try.infoFacts : (Try.prog.info? 70).map (fun i => (i.zero, i.size, i.bytes)) = some (some (.agg #[.int .i64 0, .int .i64 0]), 2, 16) := by kernel_rfl

theorem make_links (w : World) (n : Nat) (x : Int) (hx : x = n) (hn : n ≤ 200000) : Sem.run Try.prog (Instr.makeSlice 52 (.int .i64 x) (.int .i64 x)) w = .ok (.slice (some ⟨w.heap.size, 0, none⟩) n n) (w.alloc (.cells (madeCells (Value.agg #[.int .i64 0, .int .i64 0, .int .i64 0]).cells (n * 3)) 72)) := by
  obtain ⟨i0, hi, hz0, hz1, hz2⟩ := info_parts Try.infoLink
  subst hx
  have := run_make (P := Try.prog) w 52 72 i0 _ Try.underlying52 hi hz0 .i64 .i64 n n (by omega) (Int.le_refl _) (by rw [hz2]; omega) (by omega)
  rw [hz1] at this
  simpa using this
theorem make_facts (w : World) (n : Nat) (x : Int) (hx : x = n) (hn : n ≤ 200000) : Sem.run Try.prog (Instr.makeSlice 53 (.int .i64 x) (.int .i64 x)) w = .ok (.slice (some ⟨w.heap.size, 0, none⟩) n n) (w.alloc (.cells (madeCells (Value.agg #[.int .i64 0, .int .i64 0]).cells (n * 2)) 70)) := by
  obtain ⟨i0, hi, hz0, hz1, hz2⟩ := info_parts Try.infoFacts
  subst hx
  have := run_make (P := Try.prog) w 53 70 i0 _ Try.underlying53 hi hz0 .i64 .i64 n n (by omega) (Int.le_refl _) (by rw [hz2]; omega) (by omega)
  rw [hz1] at this
  simpa using this
theorem make_ints (w : World) (n : Nat) (x : Int) (hx : x = n) (hn : n ≤ 200000) : Sem.run Try.prog (Instr.makeSlice 36 (.int .i64 x) (.int .i64 x)) w = .ok (.slice (some ⟨w.heap.size, 0, none⟩) n n) (w.alloc (.cells (madeCells (Value.int .i64 0).cells n) 3)) := by
  obtain ⟨i0, hi, hz0, hz1, hz2⟩ := info_parts Try.info3
  subst hx
  have := run_make (P := Try.prog) w 36 3 i0 _ Try.underlying36 hi hz0 .i64 .i64 n n (by omega) (Int.le_refl _) (by rw [hz2]; omega) (by omega)
  rw [hz1] at this
  simpa using this

theorem heap4 {w W : World} {A B C D : Obj} (h : ((((w.alloc A).alloc B).alloc C).alloc D).drew = W) :
    W.heap[w.heap.size]? = some A ∧ W.heap[w.heap.size + 1]? = some B ∧ W.heap[w.heap.size + 1 + 1]? = some C ∧ W.heap[w.heap.size + 1 + 1 + 1]? = some D ∧ Below w.heap.size w W ∧ W.heap.size = w.heap.size + 1 + 1 + 1 + 1 := by
  subst h
  have e : ∀ k : Nat, ((((w.alloc A).alloc B).alloc C).alloc D).drew.heap[k]? = ((((w.heap.push A).push B).push C).push D)[k]? := fun k => rfl
  refine ⟨?_, ?_, ?_, ?_, ?_, ?_⟩
  · rw [e]; grind
  · rw [e]; grind
  · rw [e]; grind
  · rw [e]; grind
  · exact (((((Below.refl _ w).alloc (Nat.le_refl _) _).alloc (by simp) _).alloc (by simp; omega) _).alloc (by simp; omega) _).drew
  · show ((((w.heap.push A).push B).push C).push D).size = _
    simp
theorem made_at {zs : Array Value} {n i : Nat} {v : Value} (hi : i < n) (hz : zs[i % zs.size]? = some v) : (madeCells zs n)[i]? = some v := by
  have h1 : i % zs.size < zs.size := (Array.getElem?_eq_some_iff.1 hz).1
  have h2 := (Array.getElem?_eq_some_iff.1 hz).2
  have hpos : 0 < zs.size := by omega
  simp [madeCells, hi, h1, h2]
theorem fresh_k {W : World} {o : Pl} {n m : Nat} (hn : n ≤ 65536) (hm : m ≤ 65536) (ne : o.p ≠ o.b1 ∧ o.p ≠ o.b2 ∧ o.p ≠ o.b3 ∧ o.b1 ≠ o.b2 ∧ o.b1 ≠ o.b3 ∧ o.b2 ≠ o.b3)
    (hp : W.heap[o.p]? = some (.cells #[.bool true, .int .i64 (n : Int), .slice (some ⟨o.b1, 0, none⟩) (n + m) (n + m), .slice (some ⟨o.b2, 0, none⟩) m m, .slice (some ⟨o.b3, 0, none⟩) (m + 1) (m + 1)] 55))
    (h1 : W.heap[o.b1]? = some (.cells (madeCells #[.int .i64 0, .int .i64 0, .int .i64 0] ((n + m) * 3)) 72))
    (h2 : W.heap[o.b2]? = some (.cells (madeCells #[.int .i64 0, .int .i64 0] (m * 2)) 70))
    (h3 : W.heap[o.b3]? = some (.cells (madeCells #[.int .i64 0] (m + 1)) 3)) : Kx W o (newS n m 0) := by
  have c : ∀ b i (zs : Array Value) T, W.heap[b]? = some (.cells zs T) → W.cell? ⟨b, i, none⟩ = zs[i]? := fun b i zs T h => by simp [World.cell?, h]
  have f : ∀ b i (zs : Array Value) T, W.heap[b]? = some (.cells zs T) → W.frozen? ⟨b, i, none⟩ = false := fun b i zs T h => by simp [World.frozen?, h]
  have l : ∀ b (x : Obj), W.heap[b]? = some x → b < W.heap.size := fun b x h => (Array.getElem?_eq_some_iff.1 h).1
  have z0 : ∀ j, (newS n m 0).ah j = 0 := fun j => by simp only [newS]; rw [if_neg (by omega)]
  have z1 : ∀ j, (newS n m 0).bh j = 0 := fun j => by simp only [newS]; rw [if_neg (by omega)]
  have z2 : ∀ j, (newS n m 0).lb j = 0 := fun j => by simp only [newS]; rw [if_neg (by omega)]
  have z3 : ∀ j, (newS n m 0).ow j = 0 := fun j => by simp only [newS]; rw [if_neg (by omega)]
  refine ⟨?_, ?_, ?_, ?_, ?_, ?_, ?_, ?_, ?_, ?_, ?_, ?_, ne, ⟨hn, hm⟩, ?_⟩
  · rw [c _ _ _ _ hp]; rfl
  · rw [c _ _ _ _ hp]; rfl
  · rw [c _ _ _ _ hp]; rfl
  · rw [c _ _ _ _ hp]; rfl
  · rw [c _ _ _ _ hp]; rfl
  · intro j hj
    have hj' : j < n + m := hj
    rw [c _ _ _ _ h1, made_at (by omega) (v := .int .i64 0) (by rw [show (#[Value.int .i64 0, .int .i64 0, .int .i64 0] : Array Value).size = 3 from rfl, show j * 3 % 3 = 0 by omega]; rfl), z0]; rfl
  · intro j hj
    have hj' : j < n + m := hj
    rw [c _ _ _ _ h1, made_at (by omega) (v := .int .i64 0) (by rw [show (#[Value.int .i64 0, .int .i64 0, .int .i64 0] : Array Value).size = 3 from rfl, show (j * 3 + 1) % 3 = 1 by omega]; rfl), z1]; rfl
  · intro j hj
    have hj' : j < n + m := hj
    rw [c _ _ _ _ h1, made_at (by omega) (v := .int .i64 0) (by rw [show (#[Value.int .i64 0, .int .i64 0, .int .i64 0] : Array Value).size = 3 from rfl, show (j * 3 + 2) % 3 = 2 by omega]; rfl)]; rfl
  · intro j hj
    have hj' : j < m := hj
    rw [c _ _ _ _ h2, made_at (by omega) (v := .int .i64 0) (by rw [show (#[Value.int .i64 0, .int .i64 0] : Array Value).size = 2 from rfl, show j * 2 % 2 = 0 by omega]; rfl), z2]; rfl
  · intro j hj
    have hj' : j < m := hj
    rw [c _ _ _ _ h2, made_at (by omega) (v := .int .i64 0) (by rw [show (#[Value.int .i64 0, .int .i64 0] : Array Value).size = 2 from rfl, show (j * 2 + 1) % 2 = 1 by omega]; rfl)]; rfl
  · intro j hj
    have hj' : j < m + 1 := hj
    rw [c _ _ _ _ h3, made_at (by omega) (v := .int .i64 0) (by rw [show (#[Value.int .i64 0] : Array Value).size = 1 from rfl, show j % 1 = 0 by omega]; rfl), z3]; rfl
  · intro b i ho
    rcases ho with rfl | rfl | rfl | rfl
    · exact f _ _ _ _ hp
    · exact f _ _ _ _ h1
    · exact f _ _ _ _ h2
    · exact f _ _ _ _ h3
  · intro b ho
    rcases ho with rfl | rfl | rfl | rfl
    · exact l _ _ hp
    · exact l _ _ h1
    · exact l _ _ h2
    · exact l _ _ h3

set_option maxHeartbeats 2000000 in
theorem new_k (n m : Nat) (w : World) (hn : n ≤ 65536) (hm : m ≤ 65536) :
    Calls Try.prog 8 #[.int .i64 (n : Int), .int .i64 (m : Int)] w fun e w' => ∃ o : Pl, e = .returned (.tuple #[o.ptr, .int .i64 0]) ∧ Kv w' o n m (fun _ => []) ∧ Below w.heap.size w w' ∧ ∀ b, o.has b → w.heap.size ≤ b := by
  have h1 : inR 65537 (n : Int) = true := inR_iff.2 (by omega)
  have h2 : inR 65537 (m : Int) = true := inR_iff.2 (by omega)
  have m1 := fun w => make_links w (n + m) ((n : Int) + (m : Int)) (by omega) (by omega)
  have m2 := fun w => make_facts w m m rfl (by omega)
  have m3 := fun w => make_ints w (m + 1) ((m : Int) + 1) (by omega) (by omega)
  go_enter Try.func8, Try.ntmps8
  go_wp2_with fail
  refine (kbelow_any n 65537 _).mono ?_
  rintro e w1 ⟨rfl, e1⟩
  subst e1
  rw [h1]
  go_wp2_with fail
  refine (kbelow_any m 65537 _).mono ?_
  rintro e w1 ⟨rfl, e1⟩
  subst e1
  rw [h2]
  go_wp2_with fail
  go_region
  · generalize hW : World.drew _ = W
    obtain ⟨e0, e1, e2, e3, hB, hsz⟩ := heap4 hW
    clear hW
    obtain ⟨o, hp, HK, HO⟩ : ∃ o : Pl, o.p = w1.heap.size + 1 + 1 + 1 ∧ Hid (Kx W o (newS n m 0)) ∧ Hid (∀ b, o.has b → w1.heap.size ≤ b) :=
      ⟨⟨w1.heap.size + 1 + 1 + 1, w1.heap.size, w1.heap.size + 1, w1.heap.size + 1 + 1⟩, rfl, fresh_k hn hm (by simp only; omega) e3 e0 e1 e2, by rintro b (rfl | rfl | rfl | rfl) <;> simp only <;> omega⟩
    clear e0 e1 e2 e3 hsz m1 m2 m3
    rw [← hp]
    clear hp
    go_wp2_with fail
    go_loopw [29] (fun i wr => ∃ k : Nat, k ≤ m ∧ i = .int .i64 k ∧ Hid (Kx wr o (newS n m k)) ∧ Below w1.heap.size w1 wr) (fun i _ => m - (intOf i).toNat)
    case atStart => exact ⟨0, by omega, rfl, HK.out, hB⟩
    case round =>
      obtain ⟨k, hk, rfl, hkx, hbel⟩ := hrel
      by_cases hlt : k < m
      · go_wp2_with fail
        refine (empty_k o (newS n m k) k _ hkx.out hlt).mono ?_
        rintro e w2 ⟨rfl, hk2, hb2⟩
        have HK2 : Hid (Kx w2 o _) := hk2
        have H2 := hbel.trans (hb2.below hbel.size HO.out)
        clear hk2
        go_wp2_with fail
        refine (wear_k o ((newS n m k).empty k) k (k + 1) _ HK2.out hlt (by show k + 1 < m + 1; omega)).mono ?_
        rintro e w3 ⟨rfl, hk3, hb3⟩
        rw [newS_step] at hk3
        have HK3 : Hid (Kx w3 o _) := hk3
        have H3 := H2.trans (hb3.below H2.size HO.out)
        clear hk3
        go_wp2_with fail
        go_roundw
        case rel => exact ⟨k + 1, by omega, by go_num, HK3.out, H3⟩
        case measure => simp [intOf]; omega
      · obtain rfl : k = m := by omega
        go_wp2_with fail
        go_ret2
        exact ⟨o, rfl, kv_of hkx.out (newS_inv n k) rfl rfl, hbel, HO.out⟩
  · generalize hW : World.drew _ = W
    obtain ⟨e0, e1, e2, e3, hB, hsz⟩ := heap4 hW
    clear hW
    obtain ⟨o, hp, HK, HO⟩ : ∃ o : Pl, o.p = w1.heap.size + 1 + 1 + 1 ∧ Hid (Kx W o (newS n m 0)) ∧ Hid (∀ b, o.has b → w1.heap.size ≤ b) :=
      ⟨⟨w1.heap.size + 1 + 1 + 1, w1.heap.size, w1.heap.size + 1 + 1, w1.heap.size + 1⟩, rfl, fresh_k hn hm (by simp only; omega) e3 e0 e2 e1, by rintro b (rfl | rfl | rfl | rfl) <;> simp only <;> omega⟩
    clear e0 e1 e2 e3 hsz m1 m2 m3
    rw [← hp]
    clear hp
    go_wp2_with fail
    go_loopw [29] (fun i wr => ∃ k : Nat, k ≤ m ∧ i = .int .i64 k ∧ Hid (Kx wr o (newS n m k)) ∧ Below w1.heap.size w1 wr) (fun i _ => m - (intOf i).toNat)
    case atStart => exact ⟨0, by omega, rfl, HK.out, hB⟩
    case round =>
      obtain ⟨k, hk, rfl, hkx, hbel⟩ := hrel
      by_cases hlt : k < m
      · go_wp2_with fail
        refine (empty_k o (newS n m k) k _ hkx.out hlt).mono ?_
        rintro e w2 ⟨rfl, hk2, hb2⟩
        have HK2 : Hid (Kx w2 o _) := hk2
        have H2 := hbel.trans (hb2.below hbel.size HO.out)
        clear hk2
        go_wp2_with fail
        refine (wear_k o ((newS n m k).empty k) k (k + 1) _ HK2.out hlt (by show k + 1 < m + 1; omega)).mono ?_
        rintro e w3 ⟨rfl, hk3, hb3⟩
        rw [newS_step] at hk3
        have HK3 : Hid (Kx w3 o _) := hk3
        have H3 := H2.trans (hb3.below H2.size HO.out)
        clear hk3
        go_wp2_with fail
        go_roundw
        case rel => exact ⟨k + 1, by omega, by go_num, HK3.out, H3⟩
        case measure => simp [intOf]; omega
      · obtain rfl : k = m := by omega
        go_wp2_with fail
        go_ret2
        exact ⟨o, rfl, kv_of hkx.out (newS_inv n k) rfl rfl, hbel, HO.out⟩
  · generalize hW : World.drew _ = W
    obtain ⟨e0, e1, e2, e3, hB, hsz⟩ := heap4 hW
    clear hW
    obtain ⟨o, hp, HK, HO⟩ : ∃ o : Pl, o.p = w1.heap.size + 1 + 1 + 1 ∧ Hid (Kx W o (newS n m 0)) ∧ Hid (∀ b, o.has b → w1.heap.size ≤ b) :=
      ⟨⟨w1.heap.size + 1 + 1 + 1, w1.heap.size + 1, w1.heap.size, w1.heap.size + 1 + 1⟩, rfl, fresh_k hn hm (by simp only; omega) e3 e1 e0 e2, by rintro b (rfl | rfl | rfl | rfl) <;> simp only <;> omega⟩
    clear e0 e1 e2 e3 hsz m1 m2 m3
    rw [← hp]
    clear hp
    go_wp2_with fail
    go_loopw [29] (fun i wr => ∃ k : Nat, k ≤ m ∧ i = .int .i64 k ∧ Hid (Kx wr o (newS n m k)) ∧ Below w1.heap.size w1 wr) (fun i _ => m - (intOf i).toNat)
    case atStart => exact ⟨0, by omega, rfl, HK.out, hB⟩
    case round =>
      obtain ⟨k, hk, rfl, hkx, hbel⟩ := hrel
      by_cases hlt : k < m
      · go_wp2_with fail
        refine (empty_k o (newS n m k) k _ hkx.out hlt).mono ?_
        rintro e w2 ⟨rfl, hk2, hb2⟩
        have HK2 : Hid (Kx w2 o _) := hk2
        have H2 := hbel.trans (hb2.below hbel.size HO.out)
        clear hk2
        go_wp2_with fail
        refine (wear_k o ((newS n m k).empty k) k (k + 1) _ HK2.out hlt (by show k + 1 < m + 1; omega)).mono ?_
        rintro e w3 ⟨rfl, hk3, hb3⟩
        rw [newS_step] at hk3
        have HK3 : Hid (Kx w3 o _) := hk3
        have H3 := H2.trans (hb3.below H2.size HO.out)
        clear hk3
        go_wp2_with fail
        go_roundw
        case rel => exact ⟨k + 1, by omega, by go_num, HK3.out, H3⟩
        case measure => simp [intOf]; omega
      · obtain rfl : k = m := by omega
        go_wp2_with fail
        go_ret2
        exact ⟨o, rfl, kv_of hkx.out (newS_inv n k) rfl rfl, hbel, HO.out⟩
  · generalize hW : World.drew _ = W
    obtain ⟨e0, e1, e2, e3, hB, hsz⟩ := heap4 hW
    clear hW
    obtain ⟨o, hp, HK, HO⟩ : ∃ o : Pl, o.p = w1.heap.size + 1 + 1 + 1 ∧ Hid (Kx W o (newS n m 0)) ∧ Hid (∀ b, o.has b → w1.heap.size ≤ b) :=
      ⟨⟨w1.heap.size + 1 + 1 + 1, w1.heap.size + 1 + 1, w1.heap.size, w1.heap.size + 1⟩, rfl, fresh_k hn hm (by simp only; omega) e3 e2 e0 e1, by rintro b (rfl | rfl | rfl | rfl) <;> simp only <;> omega⟩
    clear e0 e1 e2 e3 hsz m1 m2 m3
    rw [← hp]
    clear hp
    go_wp2_with fail
    go_loopw [29] (fun i wr => ∃ k : Nat, k ≤ m ∧ i = .int .i64 k ∧ Hid (Kx wr o (newS n m k)) ∧ Below w1.heap.size w1 wr) (fun i _ => m - (intOf i).toNat)
    case atStart => exact ⟨0, by omega, rfl, HK.out, hB⟩
    case round =>
      obtain ⟨k, hk, rfl, hkx, hbel⟩ := hrel
      by_cases hlt : k < m
      · go_wp2_with fail
        refine (empty_k o (newS n m k) k _ hkx.out hlt).mono ?_
        rintro e w2 ⟨rfl, hk2, hb2⟩
        have HK2 : Hid (Kx w2 o _) := hk2
        have H2 := hbel.trans (hb2.below hbel.size HO.out)
        clear hk2
        go_wp2_with fail
        refine (wear_k o ((newS n m k).empty k) k (k + 1) _ HK2.out hlt (by show k + 1 < m + 1; omega)).mono ?_
        rintro e w3 ⟨rfl, hk3, hb3⟩
        rw [newS_step] at hk3
        have HK3 : Hid (Kx w3 o _) := hk3
        have H3 := H2.trans (hb3.below H2.size HO.out)
        clear hk3
        go_wp2_with fail
        go_roundw
        case rel => exact ⟨k + 1, by omega, by go_num, HK3.out, H3⟩
        case measure => simp [intOf]; omega
      · obtain rfl : k = m := by omega
        go_wp2_with fail
        go_ret2
        exact ⟨o, rfl, kv_of hkx.out (newS_inv n k) rfl rfl, hbel, HO.out⟩
  · generalize hW : World.drew _ = W
    obtain ⟨e0, e1, e2, e3, hB, hsz⟩ := heap4 hW
    clear hW
    obtain ⟨o, hp, HK, HO⟩ : ∃ o : Pl, o.p = w1.heap.size + 1 + 1 + 1 ∧ Hid (Kx W o (newS n m 0)) ∧ Hid (∀ b, o.has b → w1.heap.size ≤ b) :=
      ⟨⟨w1.heap.size + 1 + 1 + 1, w1.heap.size + 1, w1.heap.size + 1 + 1, w1.heap.size⟩, rfl, fresh_k hn hm (by simp only; omega) e3 e1 e2 e0, by rintro b (rfl | rfl | rfl | rfl) <;> simp only <;> omega⟩
    clear e0 e1 e2 e3 hsz m1 m2 m3
    rw [← hp]
    clear hp
    go_wp2_with fail
    go_loopw [29] (fun i wr => ∃ k : Nat, k ≤ m ∧ i = .int .i64 k ∧ Hid (Kx wr o (newS n m k)) ∧ Below w1.heap.size w1 wr) (fun i _ => m - (intOf i).toNat)
    case atStart => exact ⟨0, by omega, rfl, HK.out, hB⟩
    case round =>
      obtain ⟨k, hk, rfl, hkx, hbel⟩ := hrel
      by_cases hlt : k < m
      · go_wp2_with fail
        refine (empty_k o (newS n m k) k _ hkx.out hlt).mono ?_
        rintro e w2 ⟨rfl, hk2, hb2⟩
        have HK2 : Hid (Kx w2 o _) := hk2
        have H2 := hbel.trans (hb2.below hbel.size HO.out)
        clear hk2
        go_wp2_with fail
        refine (wear_k o ((newS n m k).empty k) k (k + 1) _ HK2.out hlt (by show k + 1 < m + 1; omega)).mono ?_
        rintro e w3 ⟨rfl, hk3, hb3⟩
        rw [newS_step] at hk3
        have HK3 : Hid (Kx w3 o _) := hk3
        have H3 := H2.trans (hb3.below H2.size HO.out)
        clear hk3
        go_wp2_with fail
        go_roundw
        case rel => exact ⟨k + 1, by omega, by go_num, HK3.out, H3⟩
        case measure => simp [intOf]; omega
      · obtain rfl : k = m := by omega
        go_wp2_with fail
        go_ret2
        exact ⟨o, rfl, kv_of hkx.out (newS_inv n k) rfl rfl, hbel, HO.out⟩
  · generalize hW : World.drew _ = W
    obtain ⟨e0, e1, e2, e3, hB, hsz⟩ := heap4 hW
    clear hW
    obtain ⟨o, hp, HK, HO⟩ : ∃ o : Pl, o.p = w1.heap.size + 1 + 1 + 1 ∧ Hid (Kx W o (newS n m 0)) ∧ Hid (∀ b, o.has b → w1.heap.size ≤ b) :=
      ⟨⟨w1.heap.size + 1 + 1 + 1, w1.heap.size + 1 + 1, w1.heap.size + 1, w1.heap.size⟩, rfl, fresh_k hn hm (by simp only; omega) e3 e2 e1 e0, by rintro b (rfl | rfl | rfl | rfl) <;> simp only <;> omega⟩
    clear e0 e1 e2 e3 hsz m1 m2 m3
    rw [← hp]
    clear hp
    go_wp2_with fail
    go_loopw [29] (fun i wr => ∃ k : Nat, k ≤ m ∧ i = .int .i64 k ∧ Hid (Kx wr o (newS n m k)) ∧ Below w1.heap.size w1 wr) (fun i _ => m - (intOf i).toNat)
    case atStart => exact ⟨0, by omega, rfl, HK.out, hB⟩
    case round =>
      obtain ⟨k, hk, rfl, hkx, hbel⟩ := hrel
      by_cases hlt : k < m
      · go_wp2_with fail
        refine (empty_k o (newS n m k) k _ hkx.out hlt).mono ?_
        rintro e w2 ⟨rfl, hk2, hb2⟩
        have HK2 : Hid (Kx w2 o _) := hk2
        have H2 := hbel.trans (hb2.below hbel.size HO.out)
        clear hk2
        go_wp2_with fail
        refine (wear_k o ((newS n m k).empty k) k (k + 1) _ HK2.out hlt (by show k + 1 < m + 1; omega)).mono ?_
        rintro e w3 ⟨rfl, hk3, hb3⟩
        rw [newS_step] at hk3
        have HK3 : Hid (Kx w3 o _) := hk3
        have H3 := H2.trans (hb3.below H2.size HO.out)
        clear hk3
        go_wp2_with fail
        go_roundw
        case rel => exact ⟨k + 1, by omega, by go_num, HK3.out, H3⟩
        case measure => simp [intOf]; omega
      · obtain rfl : k = m := by omega
        go_wp2_with fail
        go_ret2
        exact ⟨o, rfl, kv_of hkx.out (newS_inv n k) rfl rfl, hbel, HO.out⟩

set_option maxHeartbeats 2000000 in
theorem new_bad (x y : Int) (w : World) (h : ¬ (inR 65537 x = true ∧ inR 65537 y = true)) :
    Calls Try.prog 8 #[.int .i64 x, .int .i64 y] w fun e w' => e = .returned (.tuple #[.pointer none, .int .i64 1]) ∧ w' = w := by
  cases h1 : inR 65537 x
  · go_enter Try.func8, Try.ntmps8
    go_wp2_with fail
    refine (kbelow_any x 65537 _).mono ?_
    rintro e w1 ⟨rfl, e1⟩
    subst e1
    rw [h1]
    go_wp2_with fail
    go_ret2
    exact ⟨rfl, rfl⟩
  · have h2 : inR 65537 y = false := by
      cases hh : inR 65537 y
      · rfl
      · exact absurd ⟨h1, hh⟩ h
    clear h
    go_enter Try.func8, Try.ntmps8
    go_wp2_with fail
    refine (kbelow_any x 65537 _).mono ?_
    rintro e w1 ⟨rfl, e1⟩
    subst e1
    rw [h1]
    go_wp2_with fail
    refine (kbelow_any y 65537 _).mono ?_
    rintro e w1 ⟨rfl, e1⟩
    subst e1
    rw [h2]
    go_wp2_with fail
    go_ret2
    exact ⟨rfl, rfl⟩

end Go.Proofs.Ytiaacjollcccaaa
