/- The iterator of a list's nodes, as long as nobody changes their order: what it tells, for whatever loop is ranged over it. -/
import Derived.Test.YtiaacjollcccaaaIter
import Derived.Test.YtiaacjollcccaaaKNew
namespace Go.Proofs.Ytiaacjollcccaaa
open Go.RowKit Go.Shelf
attribute [local go_sem] Oper.semAt_some

/-- f leads from a through l to h -/
def Nxt (f : Nat → Nat) (h a : Nat) : List Nat → Prop
  | [] => f a = h
  | x :: l => f a = x ∧ Nxt f h x l
theorem nxt_fwd {ah bh : Nat → Nat} {h a : Nat} {l : List Nat} (p : Pth ah bh a (l ++ [h])) : Nxt bh h a l := by
  induction l generalizing a with
  | nil => exact p.1
  | cons x l ih => exact ⟨p.1, ih p.2.2⟩
theorem nxt_app {f : Nat → Nat} {h a x : Nat} {l1 l2 : List Nat} : Nxt f h a (l1 ++ x :: l2) ↔ Nxt f x a l1 ∧ Nxt f h x l2 := by
  induction l1 generalizing a with
  | nil => rfl
  | cons y l ih => simp only [List.cons_append, Nxt, ih, and_assoc]
theorem nxt_back {ah bh : Nat → Nat} {h a : Nat} {l : List Nat} (p : Pth ah bh a (l ++ [h])) : Nxt ah a h l.reverse := by
  induction l generalizing a with
  | nil => exact p.2.1
  | cons x l ih =>
    rw [List.reverse_cons]
    exact nxt_app.2 ⟨ih p.2.2, p.2.1⟩
/-- the j-th of l, or h behind its last one -/
def curN (l : List Nat) (h j : Nat) : Nat := (l.drop j).headD h
theorem nxt_zero {f : Nat → Nat} {h a : Nat} {l : List Nat} (p : Nxt f h a l) : f a = curN l h 0 := by
  cases l with
  | nil => exact p
  | cons x l => exact p.1
theorem curN_lt {l : List Nat} {h j : Nat} (hj : j < l.length) : curN l h j = l[j] := by
  unfold curN
  rw [List.drop_eq_getElem_cons hj]; rfl
theorem curN_end (l : List Nat) (h : Nat) : curN l h l.length = h := by simp [curN]
theorem nxt_step {f : Nat → Nat} {h a : Nat} {l : List Nat} (p : Nxt f h a l) {j : Nat} (hj : j < l.length) : f (curN l h j) = curN l h (j + 1) := by
  induction l generalizing a j with
  | nil => simp at hj
  | cons x l ih =>
    cases j with
    | zero =>
      have : curN (x :: l) h (0 + 1) = curN l h 0 := rfl
      rw [this]
      exact nxt_zero p.2
    | succ j =>
      have e1 : curN (x :: l) h (j + 1) = curN l h j := rfl
      have e2 : curN (x :: l) h (j + 1 + 1) = curN l h (j + 1) := rfl
      rw [e1, e2]
      exact ih p.2 (by simpa using hj)
theorem idx_cur {l : List Nat} {h j : Nat} (nd : l.Nodup) (hh : h ∉ l) (hj : j ≤ l.length) : l.idxOf (curN l h j) = j := by
  by_cases e : j < l.length
  · rw [curN_lt e]; exact nd.idxOf_getElem j e
  · obtain rfl : j = l.length := by omega
    rw [curN_end]; exact List.idxOf_eq_length hh

/-- a node -/
abbrev Nd (n : Nat) : Type := { x : Nat // x < n }
def nat {n : Nat} (r : List (Nd n)) : List Nat := r.map (·.1)
theorem nat_len {n : Nat} (r : List (Nd n)) : (nat r).length = r.length := by simp [nat]

/-- what the iterator leans on -/
def WkOk (B1 B2 B3 : Nat) (o : Pl) (s : Sx) (k : Nat) (f : Value) (W : World) : Prop :=
  Boxed W B1 23 o.ptr ∧ Boxed W B2 3 (.int .i64 (k : Int)) ∧ Boxed W B3 43 f ∧ ∃ s' : Sx, Kx W o s' ∧ s'.n = s.n ∧ s'.m = s.m ∧ s'.ah = s.ah ∧ s'.bh = s.bh
def KeepsWk (B1 B2 B3 : Nat) (o : Pl) (s : Sx) (k : Nat) (f : Value) (W W' : World) : Prop := WkOk B1 B2 B3 o s k f W → WkOk B1 B2 B3 o s k f W'
theorem keepsWk_t {B1 B2 B3 : Nat} {o : Pl} {s : Sx} {k : Nat} {f : Value} {X Y Z : World} (h1 : KeepsWk B1 B2 B3 o s k f X Y) (h2 : KeepsWk B1 B2 B3 o s k f Y Z) : KeepsWk B1 B2 B3 o s k f X Z := fun h => h2 (h1 h)
theorem kx_cells {W : World} {o : Pl} {s : Sx} (h : Kx W o s) (hm : 0 < s.m) {l : Nat} {x : Obj} (hl : W.heap[l]? = some x) (hc : x.isCells = false) : ¬ o.has l := by
  have c : ∀ i v, W.cell? ⟨l, i, none⟩ = some v → False := by
    intro i v e
    cases x <;> simp [World.cell?, hl, Obj.isCells] at e hc
  rintro (rfl | rfl | rfl | rfl)
  · exact c _ _ h.c0
  · exact c _ _ (h.l0 0 (by omega))
  · exact c _ _ (h.f0 0 hm)
  · exact c _ _ (h.w0 0 (by omega))
theorem Boxed.put {W : World} {B : Nat} {t : TypeId} {v : Value} (h : Boxed W B t v) {l : Nat} {x : Obj} (x' : Obj) (hl : W.heap[l]? = some x) (hc : x.isCells = false) : Boxed (W.putObj l x') B t v :=
  h.kept (grownBy_putObj' W l x') (fun e => by
    obtain rfl : B = l := by simpa using e
    rw [show W.heap[B]? = _ from h] at hl; cases hl; cases hc)
theorem putObj_size (W : World) (l : Nat) (x : Obj) : (W.putObj l x).heap.size = W.heap.size := by simp [World.putObj]
theorem Kx.putObj {W : World} {o : Pl} {s : Sx} (h : Kx W o s) (hm : 0 < s.m) {l : Nat} {x : Obj} (x' : Obj) (hl : W.heap[l]? = some x) (hc : x.isCells = false) : Kx (W.putObj l x') o s :=
  h.same (by rw [putObj_size]; exact Nat.le_refl _) fun b ho => World.putObj_heap_other (by rintro rfl; exact kx_cells h hm hl hc ho)
theorem keepsWk_b {B1 B2 B3 : Nat} {o : Pl} {s : Sx} {k : Nat} {f : Value} (hk : k < s.m) (W : World) (l : Nat) (x x' : Obj) (hl : W.heap[l]? = some x) (hc : x.isCells = false) : KeepsWk B1 B2 B3 o s k f W (W.putObj l x') := by
  rintro ⟨h1, h2, h3, s', h4, e1, e2, e3, e4⟩
  exact ⟨Boxed.put h1 x' hl hc, Boxed.put h2 x' hl hc, Boxed.put h3 x' hl hc, s', h4.putObj (by omega) x' hl hc, e1, e2, e3, e4⟩

theorem curN_nat {n : Nat} {r : List (Nd n)} {h j : Nat} (hj : j < r.length) : curN (nat r) h j = (r[j]).1 := by
  rw [curN_lt (by rw [nat_len]; exact hj)]; simp [nat]
theorem take_next {n : Nat} {r : List (Nd n)} {j : Nat} (hj : j < r.length) : r.take (j + 1) = r.take j ++ [r[j]] := by
  rw [List.take_succ_eq_append_getElem hj]

set_option maxRecDepth 100000 in
set_option maxHeartbeats 4000000 in
theorem walkB1_in (q : Nat) (hq : 1 ≤ q) (l B1 B2 B3 : Nat) (o : Pl) (s : Sx) (k : Nat) (hk : k < s.m) (r : List (Nd s.n)) (hr : Nxt s.bh (s.n + k) (s.n + k) (nat r)) (nd : (nat r).Nodup) (J Jx : List (Nd s.n) → World → Prop)
    (hY : ∀ pre (x : Nd s.n) W, J pre W → pre.length < r.length → YieldAt Fence.wide (q - 1) Try.prog l #[.int .i64 (x.1 : Int)] W fun e W' =>
      (e = .returned (.bool true) ∧ J (pre ++ [x]) W' ∧ KeepsWk B1 B2 B3 o s k (.func (.func 40) #[o.ptr] #[]) W W') ∨ (e = .returned (.bool false) ∧ Jx (pre ++ [x]) W'))
    (W : World) (hW : WkOk B1 B2 B3 o s k (.func (.func 40) #[o.ptr] #[]) W) (h0 : J [] W) :
    CallsIn Fence.wide q Try.prog 61 #[.func (.yield l) #[] #[], .pointer (some ⟨B1, 0, none⟩), .pointer (some ⟨B2, 0, none⟩), .pointer (some ⟨B3, 0, none⟩)] W fun e W' => (∃ v, e = .returned v) ∧
      ((∃ ys, ys = r ∧ J ys W') ∨ (∃ pre, (∃ j, j ≤ r.length ∧ pre = r.take j) ∧ Jx pre W')) := by
  have hbd : s.m ≤ 65536 := by obtain ⟨_, _, _, s', h4, _, e2, _⟩ := hW; have := h4.bd.2; omega
  have hnh : s.n + k ∉ nat r := fun hm => by
    obtain ⟨x, _, e⟩ := List.mem_map.1 (show _ ∈ r.map (·.1) from hm)
    have := x.2; omega
  refine callsIn_of_wp Try.func61 rfl trivial ?_ rfl
  simp only [Try.ntmps61, List.size_toArray, List.length_cons, List.length_nil, Nat.reduceAdd, Nat.reduceSub, Array.replicate_succ, Array.replicate_zero, List.push_toArray, List.append_toArray, List.nil_append, List.cons_append]
  have HW : Hid (WkOk B1 B2 B3 o s k (.func (.func 40) #[o.ptr] #[]) W) := hW
  obtain ⟨b1, b2, b3, s', k4, e1, e2, e3, e4⟩ := hW
  have c1 := b1.cell
  have c2 := b2.cell
  have c3 := b3.cell
  have hhead := head_k o s' k W k4 (by omega)
  rw [e1] at hhead
  have hfirst := behind_k o s' (s.n + k) W k4 (by omega)
  rw [show s'.bh (s.n + k) = curN (nat r) (s.n + k) 0 by rw [e4]; exact nxt_zero hr] at hfirst
  clear b1 b2 b3 k4
  gi_wp2_with (first
    | (refine ⟨trivial, ?_⟩; gi_at_call 46; refine (callsIn_wide.2 hhead).mono ?_; rintro e w' ⟨rfl, rfl⟩)
    | (refine ⟨trivial, ?_⟩; gi_at_call 40; refine (callsIn_wide.2 hfirst).mono ?_; rintro e w' ⟨rfl, rfl⟩))
  have HD : Hid ((nat r).Nodup ∧ s.n + k ∉ nat r) := ⟨nd, hnh⟩
  have HR : Hid (Nxt s.bh (s.n + k) (s.n + k) (nat r)) := hr
  clear c1 c2 c3 hhead hfirst nd hnh e1 e2 e3 e4 hr
  gi_loopw [6] (fun v wr => ∃ j : Nat, j ≤ r.length ∧ v = .int .i64 (curN (nat r) (s.n + k) j : Int) ∧ J (r.take j) wr ∧ Hid (WkOk B1 B2 B3 o s k (.func (.func 40) #[o.ptr] #[]) wr))
    (fun v _ => r.length - (nat r).idxOf (intOf v).toNat)
  case atStart => exact ⟨0, Nat.zero_le _, rfl, h0, HW.out⟩
  case round =>
    obtain ⟨j, hj, rfl, hJ, hwk⟩ := hrel
    by_cases hlt : j < r.length
    · have hcx := curN_nat (h := s.n + k) hlt
      have hxn := r[j].2
      have HS : Hid (s.bh (r[j]).1 = curN (nat r) (s.n + k) (j + 1)) := by rw [← hcx]; exact nxt_step HR.out (by rw [nat_len]; exact hlt)
      have HT : Hid (r.take (j + 1) = r.take j ++ [r[j]]) := take_next hlt
      have HI : Hid ((nat r).idxOf (r[j]).1 = j ∧ (nat r).idxOf (curN (nat r) (s.n + k) (j + 1)) = j + 1) :=
        ⟨by rw [← hcx]; exact idx_cur HD.out.1 HD.out.2 (by rw [nat_len]; omega), idx_cur HD.out.1 HD.out.2 (by rw [nat_len]; omega)⟩
      obtain ⟨fn, tmps, assign, body, hy, hR⟩ := hY _ r[j] _ hJ (by rw [List.length_take]; omega)
      rw [hcx]
      have hne : ((r[j]).1 : Int) ≠ (s.n : Int) + (k : Int) := by omega
      clear hcx hJ
      generalize hx : r[j] = x at *
      gi_wp2
      refine hR.mono ?_
      rintro e W3 (⟨rfl, hJ3, hk3⟩ | ⟨rfl, hJx3⟩)
      · have hwk3 := hk3 hwk.out
        have HW3 : Hid (WkOk B1 B2 B3 o s k (.func (.func 40) #[o.ptr] #[]) W3) := hwk3
        obtain ⟨b1, b2, b3, s', k4, e1, e2, e3, e4⟩ := hwk3
        have c3 := b3.cell
        have hnext := behind_k o s' x.1 W3 k4 (by omega)
        rw [show s'.bh x.1 = curN (nat r) (s.n + k) (j + 1) by rw [e4]; exact HS.out] at hnext
        clear b1 b2 b3 k4 e1 e2 e3 e4
        gi_wp2_with (refine ⟨trivial, ?_⟩; gi_at_call 40; refine (callsIn_wide.2 hnext).mono ?_; rintro e w' ⟨rfl, rfl⟩)
        go_roundw
        case rel => exact ⟨j + 1, hlt, rfl, by rw [HT.out]; exact hJ3, HW3.out⟩
        case measure => simp only [intOf, Int.toNat_natCast]; have := HI.out; omega
      · gi_wp2
        go_end0
        exact ⟨⟨_, rfl⟩, .inr ⟨_, ⟨j + 1, hlt, HT.out.symm⟩, hJx3⟩⟩
    · obtain rfl : j = r.length := by omega
      have he : curN (nat r) (s.n + k) r.length = s.n + k := by rw [← nat_len]; exact curN_end _ _
      rw [he]
      gi_wp2
      refine ⟨fun _ h => (by cases h), ?_⟩
      gi_wp2
      go_end0
      exact ⟨⟨_, rfl⟩, .inl ⟨_, rfl, by simpa using hJ⟩⟩

set_option maxRecDepth 100000 in
set_option maxHeartbeats 4000000 in
theorem walkA1_in (q : Nat) (hq : 1 ≤ q) (l B1 B2 B3 : Nat) (o : Pl) (s : Sx) (k : Nat) (hk : k < s.m) (r : List (Nd s.n)) (hr : Nxt s.ah (s.n + k) (s.n + k) (nat r)) (nd : (nat r).Nodup) (J Jx : List (Nd s.n) → World → Prop)
    (hY : ∀ pre (x : Nd s.n) W, J pre W → pre.length < r.length → YieldAt Fence.wide (q - 1) Try.prog l #[.int .i64 (x.1 : Int)] W fun e W' =>
      (e = .returned (.bool true) ∧ J (pre ++ [x]) W' ∧ KeepsWk B1 B2 B3 o s k (.func (.func 48) #[o.ptr] #[]) W W') ∨ (e = .returned (.bool false) ∧ Jx (pre ++ [x]) W'))
    (W : World) (hW : WkOk B1 B2 B3 o s k (.func (.func 48) #[o.ptr] #[]) W) (h0 : J [] W) :
    CallsIn Fence.wide q Try.prog 61 #[.func (.yield l) #[] #[], .pointer (some ⟨B1, 0, none⟩), .pointer (some ⟨B2, 0, none⟩), .pointer (some ⟨B3, 0, none⟩)] W fun e W' => (∃ v, e = .returned v) ∧
      ((∃ ys, ys = r ∧ J ys W') ∨ (∃ pre, (∃ j, j ≤ r.length ∧ pre = r.take j) ∧ Jx pre W')) := by
  have hbd : s.m ≤ 65536 := by obtain ⟨_, _, _, s', h4, _, e2, _⟩ := hW; have := h4.bd.2; omega
  have hnh : s.n + k ∉ nat r := fun hm => by
    obtain ⟨x, _, e⟩ := List.mem_map.1 (show _ ∈ r.map (·.1) from hm)
    have := x.2; omega
  refine callsIn_of_wp Try.func61 rfl trivial ?_ rfl
  simp only [Try.ntmps61, List.size_toArray, List.length_cons, List.length_nil, Nat.reduceAdd, Nat.reduceSub, Array.replicate_succ, Array.replicate_zero, List.push_toArray, List.append_toArray, List.nil_append, List.cons_append]
  have HW : Hid (WkOk B1 B2 B3 o s k (.func (.func 48) #[o.ptr] #[]) W) := hW
  obtain ⟨b1, b2, b3, s', k4, e1, e2, e3, e4⟩ := hW
  have c1 := b1.cell
  have c2 := b2.cell
  have c3 := b3.cell
  have hhead := head_k o s' k W k4 (by omega)
  rw [e1] at hhead
  have hfirst := ahead_k o s' (s.n + k) W k4 (by omega)
  rw [show s'.ah (s.n + k) = curN (nat r) (s.n + k) 0 by rw [e3]; exact nxt_zero hr] at hfirst
  clear b1 b2 b3 k4
  gi_wp2_with (first
    | (refine ⟨trivial, ?_⟩; gi_at_call 46; refine (callsIn_wide.2 hhead).mono ?_; rintro e w' ⟨rfl, rfl⟩)
    | (refine ⟨trivial, ?_⟩; gi_at_call 48; refine (callsIn_wide.2 hfirst).mono ?_; rintro e w' ⟨rfl, rfl⟩))
  have HD : Hid ((nat r).Nodup ∧ s.n + k ∉ nat r) := ⟨nd, hnh⟩
  have HR : Hid (Nxt s.ah (s.n + k) (s.n + k) (nat r)) := hr
  clear c1 c2 c3 hhead hfirst nd hnh e1 e2 e3 e4 hr
  gi_loopw [6] (fun v wr => ∃ j : Nat, j ≤ r.length ∧ v = .int .i64 (curN (nat r) (s.n + k) j : Int) ∧ J (r.take j) wr ∧ Hid (WkOk B1 B2 B3 o s k (.func (.func 48) #[o.ptr] #[]) wr))
    (fun v _ => r.length - (nat r).idxOf (intOf v).toNat)
  case atStart => exact ⟨0, Nat.zero_le _, rfl, h0, HW.out⟩
  case round =>
    obtain ⟨j, hj, rfl, hJ, hwk⟩ := hrel
    by_cases hlt : j < r.length
    · have hcx := curN_nat (h := s.n + k) hlt
      have hxn := r[j].2
      have HS : Hid (s.ah (r[j]).1 = curN (nat r) (s.n + k) (j + 1)) := by rw [← hcx]; exact nxt_step HR.out (by rw [nat_len]; exact hlt)
      have HT : Hid (r.take (j + 1) = r.take j ++ [r[j]]) := take_next hlt
      have HI : Hid ((nat r).idxOf (r[j]).1 = j ∧ (nat r).idxOf (curN (nat r) (s.n + k) (j + 1)) = j + 1) :=
        ⟨by rw [← hcx]; exact idx_cur HD.out.1 HD.out.2 (by rw [nat_len]; omega), idx_cur HD.out.1 HD.out.2 (by rw [nat_len]; omega)⟩
      obtain ⟨fn, tmps, assign, body, hy, hR⟩ := hY _ r[j] _ hJ (by rw [List.length_take]; omega)
      rw [hcx]
      have hne : ((r[j]).1 : Int) ≠ (s.n : Int) + (k : Int) := by omega
      clear hcx hJ
      generalize hx : r[j] = x at *
      gi_wp2
      refine hR.mono ?_
      rintro e W3 (⟨rfl, hJ3, hk3⟩ | ⟨rfl, hJx3⟩)
      · have hwk3 := hk3 hwk.out
        have HW3 : Hid (WkOk B1 B2 B3 o s k (.func (.func 48) #[o.ptr] #[]) W3) := hwk3
        obtain ⟨b1, b2, b3, s', k4, e1, e2, e3, e4⟩ := hwk3
        have c3 := b3.cell
        have hnext := ahead_k o s' x.1 W3 k4 (by omega)
        rw [show s'.ah x.1 = curN (nat r) (s.n + k) (j + 1) by rw [e3]; exact HS.out] at hnext
        clear b1 b2 b3 k4 e1 e2 e3 e4
        gi_wp2_with (refine ⟨trivial, ?_⟩; gi_at_call 48; refine (callsIn_wide.2 hnext).mono ?_; rintro e w' ⟨rfl, rfl⟩)
        go_roundw
        case rel => exact ⟨j + 1, hlt, rfl, by rw [HT.out]; exact hJ3, HW3.out⟩
        case measure => simp only [intOf, Int.toNat_natCast]; have := HI.out; omega
      · gi_wp2
        go_end0
        exact ⟨⟨_, rfl⟩, .inr ⟨_, ⟨j + 1, hlt, HT.out.symm⟩, hJx3⟩⟩
    · obtain rfl : j = r.length := by omega
      have he : curN (nat r) (s.n + k) r.length = s.n + k := by rw [← nat_len]; exact curN_end _ _
      rw [he]
      gi_wp2
      refine ⟨fun _ h => (by cases h), ?_⟩
      gi_wp2
      go_end0
      exact ⟨⟨_, rfl⟩, .inl ⟨_, rfl, by simpa using hJ⟩⟩

set_option maxHeartbeats 1000000 in
theorem walk_any (l : Option Addr) (k : Int) (g : Fn) (xs ys : Array Value) (w : World) :
    Calls Try.prog 59 #[.pointer l, .int .i64 k, .func g xs ys] w fun e w' => e = .returned (.func (.func 61) #[] #[.pointer (some ⟨w.heap.size, 0, none⟩), .pointer (some ⟨w.heap.size + 1, 0, none⟩), .pointer (some ⟨w.heap.size + 1 + 1, 0, none⟩)]) ∧ w' = ((w.alloc (.cells #[.pointer l] 23)).alloc (.cells #[.int .i64 k] 3)).alloc (.cells #[.func g xs ys] 43) := by
  go_enter Try.func59, Try.ntmps59
  go_wp2_with fail
  go_ret
  exact ⟨rfl, rfl⟩

theorem WkOk.onto {B1 B2 B3 : Nat} {o : Pl} {s : Sx} {k : Nat} {f : Value} {W W' : World} (h : WkOk B1 B2 B3 o s k f W) (hb : Below W.heap.size W W') : WkOk B1 B2 B3 o s k f W' := by
  obtain ⟨h1, h2, h3, s', h4, e⟩ := h
  exact ⟨(hb.block _ h1.lt).trans h1, (hb.block _ h2.lt).trans h2, (hb.block _ h3.lt).trans h3, s', h4.below hb, e⟩
theorem walkB_stops (q : Nat) (hq : 1 ≤ q) (B1 B2 B3 : Nat) (o : Pl) (s : Sx) (k : Nat) (hk : k < s.m) (r : List (Nd s.n)) (hr : Nxt s.bh (s.n + k) (s.n + k) (nat r)) (nd : (nat r).Nodup) (w : World) (hw : WkOk B1 B2 B3 o s k (.func (.func 40) #[o.ptr] #[]) w) :
    SeqStopsK Fence.wide q Try.prog 61 #[.pointer (some ⟨B1, 0, none⟩), .pointer (some ⟨B2, 0, none⟩), .pointer (some ⟨B3, 0, none⟩)] (fun x : Nd s.n => #[Value.int .i64 (x.1 : Int)]) (KeepsWk B1 B2 B3 o s k (.func (.func 40) #[o.ptr] #[])) (fun ys => ys = r) (fun pre => ∃ j, j ≤ r.length ∧ pre = r.take j) r.length w :=
  fun l J Jx W hW _ _ hY h0 => walkB1_in q hq l B1 B2 B3 o s k hk r hr nd J Jx hY W (hw.onto hW) h0
theorem walkA_stops (q : Nat) (hq : 1 ≤ q) (B1 B2 B3 : Nat) (o : Pl) (s : Sx) (k : Nat) (hk : k < s.m) (r : List (Nd s.n)) (hr : Nxt s.ah (s.n + k) (s.n + k) (nat r)) (nd : (nat r).Nodup) (w : World) (hw : WkOk B1 B2 B3 o s k (.func (.func 48) #[o.ptr] #[]) w) :
    SeqStopsK Fence.wide q Try.prog 61 #[.pointer (some ⟨B1, 0, none⟩), .pointer (some ⟨B2, 0, none⟩), .pointer (some ⟨B3, 0, none⟩)] (fun x : Nd s.n => #[Value.int .i64 (x.1 : Int)]) (KeepsWk B1 B2 B3 o s k (.func (.func 48) #[o.ptr] #[])) (fun ys => ys = r) (fun pre => ∃ j, j ≤ r.length ∧ pre = r.take j) r.length w :=
  fun l J Jx W hW _ _ hY h0 => walkA1_in q hq l B1 B2 B3 o s k hk r hr nd J Jx hY W (hw.onto hW) h0

end Go.Proofs.Ytiaacjollcccaaa
