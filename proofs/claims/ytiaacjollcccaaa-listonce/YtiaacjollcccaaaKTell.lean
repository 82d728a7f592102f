/- A list's nodes are told: All, Back. -/
import Derived.Test.YtiaacjollcccaaaKRest1
namespace Go.Proofs.Ytiaacjollcccaaa
open Go.RowKit Go.Shelf
attribute [local go_sem] Oper.semAt_some

theorem eql_rest_nil (C : Nat) (w : World) : Sem.run Try.prog (binOp BinOp.eql 41 (Value.func (Fn.func 53) #[] #[.pointer (some ⟨C, 0, none⟩)]) Value.nilFunc) w = .ok (.bool false) w := by kernel_rfl

set_option maxHeartbeats 4000000 in
theorem tellB_rest (C B1 B2 B3 : Nat) (o : Pl) (s : Sx) (k : Nat) (hk : k < s.m) (r : List Nat) (hr : Nxt s.bh (s.n + k) (s.n + k) r) (nd : r.Nodup) (hlt : ∀ x, x ∈ r → x < s.n) (hlen : r.length < 80) (W : World)
    (b1 : Boxed W B1 23 o.ptr) (b2 : Boxed W B2 3 (.int .i64 (k : Int))) (b3 : Boxed W B3 43 (.func (.func 40) #[o.ptr] #[])) (hK : Kx W o s) (bC : Boxed W C 36 (.slice none 0 0)) :
    Calls Try.prog 57 #[.func (.func 53) #[] #[.pointer (some ⟨C, 0, none⟩)], .pointer (some ⟨B1, 0, none⟩), .pointer (some ⟨B2, 0, none⟩), .pointer (some ⟨B3, 0, none⟩)] W fun e W' =>
      e = .returned (.tuple #[]) ∧ ∃ v, Boxed W' C 36 v ∧ W'.ownsRow W.heap.size 3 1 v r.length (encL r) ∧ But (fun b => b = C) W W' := by
  have hnil := eql_rest_nil C
  have c1 := b1.cell
  have c2 := b2.cell
  have c3 := b3.cell
  have hl := hasList_k o s (k : Int) W hK
  rw [show inR s.m (k : Int) = true from inR_iff.2 (by omega)] at hl
  have HK : Hid (Kx W o s) := hK
  have hCl := bC.lt
  obtain ⟨r0, hr0⟩ := lift_nd hlt
  have HR : Hid (Nxt s.bh (s.n + k) (s.n + k) (nat r0)) := hr0 ▸ hr
  have HN : Hid ((nat r0).Nodup) := hr0 ▸ nd
  have HE : Hid (nat r0 = r) := hr0
  clear hr0
  clear hK hr nd hlt b1 b2 b3
  go_enter Try.func57, Try.ntmps57
  go_wp2_with fail
  refine hl.mono ?_
  rintro e w1 ⟨rfl, e1⟩
  subst e1
  go_wp2_with fail
  refine (walk_any _ _ _ _ _ _).mono ?_
  rintro e w2 ⟨rfl, hw2⟩
  have hB2 : Below w1.heap.size w1 w2 := by rw [hw2]; exact (((Below.refl _ w1).alloc (Nat.le_refl _) _).alloc (by simp) _).alloc (by simp; omega) _
  have HW : Hid (WkOk w1.heap.size (w1.heap.size + 1) (w1.heap.size + 1 + 1) o s k (.func (.func 40) #[o.ptr] #[]) w2) := by
    refine ⟨?_, ?_, ?_, s, HK.out.below hB2, rfl, rfl, rfl, rfl⟩
    · rw [hw2]; exact ((Boxed.new w1 _ _).alloc _).alloc _
    · rw [hw2]
      have := Boxed.new (w1.alloc (.cells #[o.ptr] 23)) 3 (.int .i64 (k : Int))
      rw [World.size_alloc] at this
      exact this.alloc _
    · rw [hw2]
      have := Boxed.new ((w1.alloc (.cells #[o.ptr] 23)).alloc (.cells #[.int .i64 (k : Int)] 3)) 43 (.func (.func 40) #[o.ptr] #[])
      rw [World.size_alloc, World.size_alloc] at this
      exact this
  clear hw2 hnil c1 c2 c3 hl
  go_wp2_with fail
  refine (collectwalkB _ _ _ o s k hk r0 HR.out HN.out (by rw [← nat_len, HE.out]; omega) w2 HW.out).mono ?_
  rintro e w3 ⟨v, rfl, hrow, hb3⟩
  rw [← nat_len, HE.out] at hrow
  obtain ⟨a, cap, rfl, hcells, hge⟩ := cells_of_own hrow (k := .i64) (z := atL r) (fun j hj => encL_at2 hj)
  have HC : Hid (Cells w3 .i64 a r.length (atL r)) := hcells
  have HG : Hid (∀ b o p, a = some ⟨b, o, p⟩ → w2.heap.size ≤ b) := hge
  have hB3 : Below w1.heap.size w1 w3 := Below.onto hB2 hb3
  have bC3 : Boxed w3 C 36 (.slice none 0 0) := (hB3.block C hCl).trans bC
  have hsz := hB2.size
  clear hcells hge hrow HW
  go_wp2_with fail
  go_loopw [21] (fun i wr => ∃ j : Nat, j ≤ r.length ∧ i = .int .i64 j ∧ Hid (∃ v, Boxed wr C 36 v ∧ wr.ownsRow w3.heap.size 3 1 v j (encL (r.take j)) ∧ But (fun b => b = C) w3 wr)) (fun i _ => r.length - (intOf i).toNat)
  case atStart => exact ⟨0, Nat.zero_le _, rfl, _, bC3, World.ownsRow_nil _ _ _ _, But.refl _ _⟩
  case round =>
    obtain ⟨j, hj, rfl, hJ⟩ := hrel
    obtain ⟨v, hv, hown, hbut⟩ := hJ.out
    by_cases hlt : j < r.length
    · obtain ⟨b, off, rfl, hcell⟩ := HC.out j hlt
      have hb1 := HG.out b off none rfl
      have hcell2 := hbut.cell hcell (by omega)
      have hw := hbut.size
      have hlt80 : decide ((j : Int) + 1 < 80) = true := by simp; omega
      have hcall := rest1_k C (atL r j) v j _ w3.heap.size wr hv hown hw (by omega)
      rw [hlt80, ← take_enc hlt] at hcall
      have HB : Hid (But (fun b => b = C) w3 wr) := hbut
      clear hcell hv hown hJ hbut
      go_wp2_with fail
      refine hcall.mono ?_
      rintro e w4 ⟨rfl, v', hv', hown', hbut'⟩
      have HJ : Hid (∃ v, Boxed w4 C 36 v ∧ w4.ownsRow w3.heap.size 3 1 v (j + 1) (encL (r.take (j + 1))) ∧ But (fun b => b = C) w3 w4) := ⟨v', hv', hown', HB.out.onto hbut' fun i h => h⟩
      clear hv' hown' hbut'
      go_wp2_with fail
      go_roundw
      case rel => exact ⟨j + 1, by omega, by go_num, HJ.out⟩
      case measure => simp [intOf]; omega
    · obtain rfl : j = r.length := by omega
      rw [List.take_length] at hown
      go_wp2_with fail
      refine bodyPost_end (results_none rfl _ _ _) rfl ?_
      exact ⟨rfl, v, hv, own_mono hown (Nat.le_trans hsz hb3.size), (But.of hB3 : But (fun b => b = C) w1 w3).trans hbut⟩

set_option maxHeartbeats 4000000 in
theorem tellA_rest (C B1 B2 B3 : Nat) (o : Pl) (s : Sx) (k : Nat) (hk : k < s.m) (r : List Nat) (hr : Nxt s.ah (s.n + k) (s.n + k) r) (nd : r.Nodup) (hlt : ∀ x, x ∈ r → x < s.n) (hlen : r.length < 80) (W : World)
    (b1 : Boxed W B1 23 o.ptr) (b2 : Boxed W B2 3 (.int .i64 (k : Int))) (b3 : Boxed W B3 43 (.func (.func 48) #[o.ptr] #[])) (hK : Kx W o s) (bC : Boxed W C 36 (.slice none 0 0)) :
    Calls Try.prog 57 #[.func (.func 53) #[] #[.pointer (some ⟨C, 0, none⟩)], .pointer (some ⟨B1, 0, none⟩), .pointer (some ⟨B2, 0, none⟩), .pointer (some ⟨B3, 0, none⟩)] W fun e W' =>
      e = .returned (.tuple #[]) ∧ ∃ v, Boxed W' C 36 v ∧ W'.ownsRow W.heap.size 3 1 v r.length (encL r) ∧ But (fun b => b = C) W W' := by
  have hnil := eql_rest_nil C
  have c1 := b1.cell
  have c2 := b2.cell
  have c3 := b3.cell
  have hl := hasList_k o s (k : Int) W hK
  rw [show inR s.m (k : Int) = true from inR_iff.2 (by omega)] at hl
  have HK : Hid (Kx W o s) := hK
  have hCl := bC.lt
  obtain ⟨r0, hr0⟩ := lift_nd hlt
  have HR : Hid (Nxt s.ah (s.n + k) (s.n + k) (nat r0)) := hr0 ▸ hr
  have HN : Hid ((nat r0).Nodup) := hr0 ▸ nd
  have HE : Hid (nat r0 = r) := hr0
  clear hr0
  clear hK hr nd hlt b1 b2 b3
  go_enter Try.func57, Try.ntmps57
  go_wp2_with fail
  refine hl.mono ?_
  rintro e w1 ⟨rfl, e1⟩
  subst e1
  go_wp2_with fail
  refine (walk_any _ _ _ _ _ _).mono ?_
  rintro e w2 ⟨rfl, hw2⟩
  have hB2 : Below w1.heap.size w1 w2 := by rw [hw2]; exact (((Below.refl _ w1).alloc (Nat.le_refl _) _).alloc (by simp) _).alloc (by simp; omega) _
  have HW : Hid (WkOk w1.heap.size (w1.heap.size + 1) (w1.heap.size + 1 + 1) o s k (.func (.func 48) #[o.ptr] #[]) w2) := by
    refine ⟨?_, ?_, ?_, s, HK.out.below hB2, rfl, rfl, rfl, rfl⟩
    · rw [hw2]; exact ((Boxed.new w1 _ _).alloc _).alloc _
    · rw [hw2]
      have := Boxed.new (w1.alloc (.cells #[o.ptr] 23)) 3 (.int .i64 (k : Int))
      rw [World.size_alloc] at this
      exact this.alloc _
    · rw [hw2]
      have := Boxed.new ((w1.alloc (.cells #[o.ptr] 23)).alloc (.cells #[.int .i64 (k : Int)] 3)) 43 (.func (.func 48) #[o.ptr] #[])
      rw [World.size_alloc, World.size_alloc] at this
      exact this
  clear hw2 hnil c1 c2 c3 hl
  go_wp2_with fail
  refine (collectwalkA _ _ _ o s k hk r0 HR.out HN.out (by rw [← nat_len, HE.out]; omega) w2 HW.out).mono ?_
  rintro e w3 ⟨v, rfl, hrow, hb3⟩
  rw [← nat_len, HE.out] at hrow
  obtain ⟨a, cap, rfl, hcells, hge⟩ := cells_of_own hrow (k := .i64) (z := atL r) (fun j hj => encL_at2 hj)
  have HC : Hid (Cells w3 .i64 a r.length (atL r)) := hcells
  have HG : Hid (∀ b o p, a = some ⟨b, o, p⟩ → w2.heap.size ≤ b) := hge
  have hB3 : Below w1.heap.size w1 w3 := Below.onto hB2 hb3
  have bC3 : Boxed w3 C 36 (.slice none 0 0) := (hB3.block C hCl).trans bC
  have hsz := hB2.size
  clear hcells hge hrow HW
  go_wp2_with fail
  go_loopw [21] (fun i wr => ∃ j : Nat, j ≤ r.length ∧ i = .int .i64 j ∧ Hid (∃ v, Boxed wr C 36 v ∧ wr.ownsRow w3.heap.size 3 1 v j (encL (r.take j)) ∧ But (fun b => b = C) w3 wr)) (fun i _ => r.length - (intOf i).toNat)
  case atStart => exact ⟨0, Nat.zero_le _, rfl, _, bC3, World.ownsRow_nil _ _ _ _, But.refl _ _⟩
  case round =>
    obtain ⟨j, hj, rfl, hJ⟩ := hrel
    obtain ⟨v, hv, hown, hbut⟩ := hJ.out
    by_cases hlt : j < r.length
    · obtain ⟨b, off, rfl, hcell⟩ := HC.out j hlt
      have hb1 := HG.out b off none rfl
      have hcell2 := hbut.cell hcell (by omega)
      have hw := hbut.size
      have hlt80 : decide ((j : Int) + 1 < 80) = true := by simp; omega
      have hcall := rest1_k C (atL r j) v j _ w3.heap.size wr hv hown hw (by omega)
      rw [hlt80, ← take_enc hlt] at hcall
      have HB : Hid (But (fun b => b = C) w3 wr) := hbut
      clear hcell hv hown hJ hbut
      go_wp2_with fail
      refine hcall.mono ?_
      rintro e w4 ⟨rfl, v', hv', hown', hbut'⟩
      have HJ : Hid (∃ v, Boxed w4 C 36 v ∧ w4.ownsRow w3.heap.size 3 1 v (j + 1) (encL (r.take (j + 1))) ∧ But (fun b => b = C) w3 w4) := ⟨v', hv', hown', HB.out.onto hbut' fun i h => h⟩
      clear hv' hown' hbut'
      go_wp2_with fail
      go_roundw
      case rel => exact ⟨j + 1, by omega, by go_num, HJ.out⟩
      case measure => simp [intOf]; omega
    · obtain rfl : j = r.length := by omega
      rw [List.take_length] at hown
      go_wp2_with fail
      refine bodyPost_end (results_none rfl _ _ _) rfl ?_
      exact ⟨rfl, v, hv, own_mono hown (Nat.le_trans hsz hb3.size), (But.of hB3 : But (fun b => b = C) w1 w3).trans hbut⟩

set_option maxHeartbeats 1000000 in
theorem tell_rest_none (B1 B2 B3 : Nat) (o : Pl) (s : Sx) (i : Int) (hi : inR s.m i = false) (f : Value) (W : World)
    (b1 : Boxed W B1 23 o.ptr) (b2 : Boxed W B2 3 (.int .i64 i)) (hK : Kx W o s) :
    Calls Try.prog 57 #[f, .pointer (some ⟨B1, 0, none⟩), .pointer (some ⟨B2, 0, none⟩), .pointer (some ⟨B3, 0, none⟩)] W fun e W' => e = .returned (.tuple #[]) ∧ W' = W := by
  have c1 := b1.cell
  have c2 := b2.cell
  have hl := hasList_k o s i W hK
  rw [hi] at hl
  clear hK b1 b2
  go_enter Try.func57, Try.ntmps57
  go_wp2_with fail
  refine hl.mono ?_
  rintro e w1 ⟨rfl, e1⟩
  subst e1
  go_wp2_with fail
  refine bodyPost_ret (results_none rfl _ _ _) rfl ?_
  exact ⟨rfl, rfl⟩

set_option maxHeartbeats 1000000 in
theorem tell_any (l : Option Addr) (k : Int) (g : Fn) (xs ys : Array Value) (w : World) :
    Calls Try.prog 39 #[.pointer l, .int .i64 k, .func g xs ys] w fun e w' => e = .returned (.func (.func 57) #[] #[.pointer (some ⟨w.heap.size, 0, none⟩), .pointer (some ⟨w.heap.size + 1, 0, none⟩), .pointer (some ⟨w.heap.size + 1 + 1, 0, none⟩)]) ∧ w' = ((w.alloc (.cells #[.pointer l] 23)).alloc (.cells #[.int .i64 k] 3)).alloc (.cells #[.func g xs ys] 43) := by
  go_enter Try.func39, Try.ntmps39
  go_wp2_with fail
  go_ret
  exact ⟨rfl, rfl⟩

/-- three boxes laid one behind the other -/
theorem boxes3 {w w' : World} {x y z : Value} {T U V : TypeId} (h : w' = ((w.alloc (.cells #[x] T)).alloc (.cells #[y] U)).alloc (.cells #[z] V)) :
    Below w.heap.size w w' ∧ Boxed w' w.heap.size T x ∧ Boxed w' (w.heap.size + 1) U y ∧ Boxed w' (w.heap.size + 1 + 1) V z ∧ w'.heap.size = w.heap.size + 1 + 1 + 1 := by
  subst h
  refine ⟨(((Below.refl _ w).alloc (Nat.le_refl _) _).alloc (by simp) _).alloc (by simp; omega) _, ((Boxed.new w _ _).alloc _).alloc _, ?_, ?_, by simp⟩
  · have := Boxed.new (w.alloc (.cells #[x] T)) U y
    rw [World.size_alloc] at this
    exact this.alloc _
  · have := Boxed.new ((w.alloc (.cells #[x] T)).alloc (.cells #[y] U)) V z
    rw [World.size_alloc, World.size_alloc] at this
    exact this

set_option maxHeartbeats 1000000 in
theorem all_k (l : Option Addr) (k : Int) (w : World) :
    Calls Try.prog 14 #[.pointer l, .int .i64 k] w fun e w' => e = .returned (.func (.func 57) #[] #[.pointer (some ⟨w.heap.size, 0, none⟩), .pointer (some ⟨w.heap.size + 1, 0, none⟩), .pointer (some ⟨w.heap.size + 1 + 1, 0, none⟩)]) ∧ w' = ((w.alloc (.cells #[.pointer l] 23)).alloc (.cells #[.int .i64 k] 3)).alloc (.cells #[.func (.func 40) #[.pointer l] #[]] 43) := by
  go_enter Try.func14, Try.ntmps14
  go_wp2_with fail
  refine (tell_any _ _ _ _ _ _).mono ?_
  rintro e w1 ⟨rfl, hw⟩
  subst hw
  go_wp2_with fail
  go_ret
  exact ⟨rfl, rfl⟩
set_option maxHeartbeats 1000000 in
theorem back_k (l : Option Addr) (k : Int) (w : World) :
    Calls Try.prog 27 #[.pointer l, .int .i64 k] w fun e w' => e = .returned (.func (.func 57) #[] #[.pointer (some ⟨w.heap.size, 0, none⟩), .pointer (some ⟨w.heap.size + 1, 0, none⟩), .pointer (some ⟨w.heap.size + 1 + 1, 0, none⟩)]) ∧ w' = ((w.alloc (.cells #[.pointer l] 23)).alloc (.cells #[.int .i64 k] 3)).alloc (.cells #[.func (.func 48) #[.pointer l] #[]] 43) := by
  go_enter Try.func27, Try.ntmps27
  go_wp2_with fail
  refine (tell_any _ _ _ _ _ _).mono ?_
  rintro e w1 ⟨rfl, hw⟩
  subst hw
  go_wp2_with fail
  go_ret
  exact ⟨rfl, rfl⟩

theorem eql_tell_nil (A B C : Nat) (w : World) : Sem.run Try.prog (binOp BinOp.eql 38 (Value.func (Fn.func 57) #[] #[.pointer (some ⟨A, 0, none⟩), .pointer (some ⟨B, 0, none⟩), .pointer (some ⟨C, 0, none⟩)]) Value.nilFunc) w = .ok (.bool false) w := by kernel_rfl

set_option maxHeartbeats 1000000 in
/-- rest, of an iterator that is known -/
theorem rest_of (B1 B2 B3 : Nat) (w : World) (r : List Nat)
    (hs : ∀ W, Below w.heap.size w W → Boxed W w.heap.size 36 (.slice none 0 0) → Calls Try.prog 57 #[.func (.func 53) #[] #[.pointer (some ⟨w.heap.size, 0, none⟩)], .pointer (some ⟨B1, 0, none⟩), .pointer (some ⟨B2, 0, none⟩), .pointer (some ⟨B3, 0, none⟩)] W fun e W' =>
      e = .returned (.tuple #[]) ∧ ∃ v, Boxed W' w.heap.size 36 v ∧ W'.ownsRow W.heap.size 3 1 v r.length (encL r) ∧ But (fun b => b = w.heap.size) W W') :
    Calls Try.prog 26 #[.func (.func 57) #[] #[.pointer (some ⟨B1, 0, none⟩), .pointer (some ⟨B2, 0, none⟩), .pointer (some ⟨B3, 0, none⟩)]] w fun e w' => ∃ v, e = .returned v ∧ w'.ownsRow w.heap.size 3 1 v r.length (encL r) ∧ Below w.heap.size w w' := by
  have hB : Below w.heap.size w (w.alloc (.cells #[.slice none 0 0] 36)) := (Below.refl _ w).alloc (Nat.le_refl _) _
  have hcall := hs _ hB (Boxed.new w _ _)
  have hnil := eql_tell_nil B1 B2 B3
  clear hs
  go_enter Try.func26, Try.ntmps26
  go_wp2_with fail
  refine hcall.mono ?_
  rintro e w1 ⟨rfl, v, hv, hown, hbut⟩
  have hc := hv.cell
  have HO : Hid (w1.ownsRow w.heap.size 3 1 v r.length (encL r)) := own_mono hown (by simp)
  have HB : Hid (Below w.heap.size w w1) := hB.trans (hbut.below (by simp) (fun k e => by omega))
  clear hv hown hbut hB
  go_wp2_with fail
  go_ret
  exact ⟨v, rfl, HO.out, HB.out⟩

end Go.Proofs.Ytiaacjollcccaaa
