/- A row with one thing more, a row without its first. -/
import Derived.Test.YtkgehbonijpdnaaURow
import Derived.Deep.RegionLawGrows
import Derived.BigRegion
namespace Go.Proofs.Ytkgehbonijpdnaa
open Go.RowKit Go.Lib
open Go.Sort hiding Below
set_option maxRecDepth 100000

theorem sl_own {w : World} {base size n : Nat} {e : TypeId} {v : Value} {xs : List Value} {c : Nat → Nat → Value} (h : w.ownsRow base e size v n xs) (hx : ∀ j, j < n → ∀ f, f < size → xs[j * size + f]? = some (c j f)) : Sl w size n c v := by
  rcases h.2 with ⟨rfl, rfl⟩ | ⟨g, cap, cur, rfl, hb, hg, hc1, hc2, hc3, htk⟩
  · exact sl_nil _ _ _
  · refine ⟨_, cap, rfl, hc1, fun e => (by cases e), fun j hj => ⟨g, 0, rfl, fun f hf => ?_⟩⟩
    have := h.cells (g := g) rfl (j * size + f) _ (hx j hj f hf)
    rw [Go.WideShapes.add_plain] at this
    rwa [Nat.add_assoc]
theorem own_blk {w : World} {base size n : Nat} {e : TypeId} {v : Value} {xs : List Value} (h : w.ownsRow base e size v n xs) (b : Nat) (hb : v.ownBlock = some b) : base ≤ b := by
  rcases h.2 with ⟨rfl, rfl⟩ | ⟨g, cap, cur, rfl, hb', _⟩
  · cases hb
  · cases hb; exact hb'
/-- c, and behind its n elements one of d -/
def snocC (n : Nat) (c : Nat → Nat → Value) (d : Nat → Value) (j : Nat) : Nat → Value := if j < n then c j else d
theorem snoc_cells {n size : Nat} {c : Nat → Nat → Value} {d : Nat → Value} {ys : List Value} (hy : ∀ f, f < size → ys[f]? = some (d f)) : ∀ j, j < n + 1 → ∀ f, f < size → (cellsL n size c ++ ys)[j * size + f]? = some (snocC n c d j f) := by
  intro j hj f hf
  unfold snocC
  by_cases h : j < n
  · rw [if_pos h, List.getElem?_append_left (by rw [cellsL_len]; exact mul_lt_of h hf)]
    exact cellsL_at h hf
  · obtain rfl : j = n := by omega
    rw [if_neg h, List.getElem?_append_right (by rw [cellsL_len]; omega), cellsL_len, Nat.add_sub_cancel_left]
    exact hy f hf
theorem step_long {t e : TypeId} {size bytes : Nat} {z : Value} (E0 : Elt t e size bytes z) {ops : Array Oper} {o : Oper} {a : Act} {w : World} {K : Act → World → Prop} {Q : Exit → Act → World → Prop} {E : Prop} (hgd : o.guard = none) (s x : Operand)
    (hop : o.op = .call { callee := .builtin .append, args := #[s, x], argTypes := #[t, t] }) (ao : Option Addr) (n b : Nat) (c : Nat → Nat → Value) (d : Nat → Value) (ys : List Value)
    (hs : a.eval s = .slice ao n n) (hx : a.eval x = .slice (some ⟨b, 0, none⟩) 1 1) (hnone : ao = none → n = 0) (hr : Rd w ao n size c) (hy : Bx w b ys) (hyl : ys.length = size) (hyd : ∀ f, f < size → ys[f]? = some (d f)) (hy1 : ∀ u ∈ ys, u.oneCell' = true) (hn : n ≤ 10000)
    (hK : ∀ v' w', Sl w' size (n + 1) (snocC n c d) v' → Below w.heap.size w w' → (∀ g, v'.ownBlock = some g → w.heap.size ≤ g) → K (a.put o.dst v') w') :
    if Region.wanted o (yielded ops a.tmps) = true then Oper.wp Try.prog o a w K Q else E := by
  obtain ⟨i0, hi, hz0, hz1, hz2⟩ := info_parts E0.hi
  have h64 : (n + 1) * bytes ≤ 140737488355328 := by
    have := Nat.mul_le_mul (show n + 1 ≤ 10001 by omega) E0.hb
    omega
  refine step_append_grows hgd s x t hop e i0 z size bytes E0.ht hi hz0 hz1 hz2 E0.hz E0.hs ao n n (cellsL n size c) hs (fun h => ⟨hnone h, hnone h⟩) (cellsL_len _ _ _) (fun q hq j u hj => ?_) ⟨b, 0, none⟩ 1 1 ys hx (by omega) (fun j u hj => ?_) hy1 (by omega) (by unfold maxLen; omega) h64 fun v' w' h1 h2 => hK v' w' (sl_own h1 (snoc_cells hyd)) ?_ (own_blk h1)
  · have hl := (List.getElem?_eq_some_iff.1 hj).1
    rw [cellsL_len] at hl
    have h0 : 0 < n := by
      rcases Nat.eq_zero_or_pos n with h | h
      · subst h; simp at hl
      · exact h
    obtain ⟨b', off', e', _⟩ := hr 0 h0
    rw [hq] at e'
    cases e'
    rw [Go.WideShapes.add_plain]
    refine cellsL_src (fun j hj f hf => ?_) hj
    obtain ⟨b2, off2, e2, hc2⟩ := hr j hj
    rw [hq] at e2
    cases e2
    exact hc2 f hf
  · rw [Go.WideShapes.add_plain, Nat.zero_add]
    exact hy j u hj
  · exact ⟨h2.os, h2.tape, h2.output, h2.size, fun k hk => h2.block k hk (by simp)⟩
theorem wpList_long {t e : TypeId} {size bytes : Nat} {z : Value} (E0 : Elt t e size bytes z) {ops : Array Oper} {rest : List Oper} {o : Oper} {a : Act} {w : World} {Q : Exit → Act → World → Prop} (hgd : o.guard = none) (s x : Operand)
    (hop : o.op = .call { callee := .builtin .append, args := #[s, x], argTypes := #[t, t] }) (ao : Option Addr) (n b : Nat) (c : Nat → Nat → Value) (d : Nat → Value) (ys : List Value)
    (hs : a.eval s = .slice ao n n) (hx : a.eval x = .slice (some ⟨b, 0, none⟩) 1 1) (hnone : ao = none → n = 0) (hr : Rd w ao n size c) (hy : Bx w b ys) (hyl : ys.length = size) (hyd : ∀ f, f < size → ys[f]? = some (d f)) (hy1 : ∀ u ∈ ys, u.oneCell' = true) (hn : n ≤ 10000)
    (hK : ∀ v' w', Sl w' size (n + 1) (snocC n c d) v' → Below w.heap.size w w' → (∀ g, v'.ownBlock = some g → w.heap.size ≤ g) → wpList Try.prog ops Q rest (a.put o.dst v') w') :
    wpList Try.prog ops Q (o :: rest) a w := by
  refine wpList_plain hgd fun K hK' => ?_
  have := step_long (ops := ops) (Q := Q) (E := False) E0 hgd s x hop ao n b c d ys hs hx hnone hr hy hyl hyd hy1 hn (fun v' w' h1 h2 h3 => hK' _ _ (hK v' w' h1 h2 h3))
  rwa [if_pos (by simp [Region.wanted, hgd])] at this
set_option maxHeartbeats 1000000 in
theorem longerI_any (v : Value) (n : Nat) (c : Nat → Nat → Value) (x : Int) (w : World) (hn : n ≤ 1000) (hv : Sl w 1 n c v) :
    Calls Try.prog 19 #[v, .int .i64 x] w fun e w' => ∃ u, e = .returned u ∧ Sl w' 1 (n + 1) (snocC n c fun _ => .int .i64 x) u ∧ Below w.heap.size w w' ∧ ∀ g, u.ownBlock = some g → w.heap.size ≤ g := by
  obtain ⟨a, cap, rfl, hcap, hnil, hr⟩ := hv
  have HR : Hid (Rd w a n 1 c) := hr
  have HN : Hid (a = none → n = 0 ∧ cap = 0) := hnil
  have hx := bx_new w [.int .i64 x] 3
  have hB := below_new w (.cells #[.int .i64 x] 3)
  clear hr hnil
  have h1 : (n : Int) ≤ (cap : Int) := by omega
  cases a with
  | none =>
    obtain ⟨rfl, rfl⟩ := HN.out rfl
    go_enter Try.func19, Try.ntmps19
    go_wp2_with (at_builtin; refine wpList_long eltI rfl (.tmp 10) (.tmp 12) rfl none 0 w.heap.size c (fun _ => .int .i64 x) [.int .i64 x] rfl rfl (fun _ => rfl) (HR.out.below hB) hx rfl (fun f hf => by (obtain rfl : f = 0 := by omega); rfl) (by simp [Value.oneCell']) (by omega) ?_; intro v' w' h1 h2 h3)
    go_ret
    exact ⟨v', rfl, h1, Below.onto hB h2, fun g hg => Nat.le_trans hB.size (h3 g hg)⟩
  | some ad =>
    go_enter Try.func19, Try.ntmps19
    go_wp2_with (at_builtin; refine wpList_long eltI rfl (.tmp 10) (.tmp 12) rfl (some ad) n w.heap.size c (fun _ => .int .i64 x) [.int .i64 x] rfl rfl (fun h => by cases h) (HR.out.below hB) hx rfl (fun f hf => by (obtain rfl : f = 0 := by omega); rfl) (by simp [Value.oneCell']) (by omega) ?_; intro v' w' h1 h2 h3)
    go_ret
    exact ⟨v', rfl, h1, Below.onto hB h2, fun g hg => Nat.le_trans hB.size (h3 g hg)⟩

theorem enc4 {m : PMs} (f : Nat) (hf : f < 4) : [Value.int .i64 m.ln, .int .i64 m.ep, .int .i64 m.n, .int .u64 m.pay][f]? = some (encM m f) := by
  match f, hf with
  | 0, _ => rfl
  | 1, _ => rfl
  | 2, _ => rfl
  | 3, _ => rfl
theorem one4 {m : PMs} : ∀ u ∈ [Value.int .i64 m.ln, .int .i64 m.ep, .int .i64 m.n, .int .u64 m.pay], u.oneCell' = true := by simp [Value.oneCell']
set_option maxHeartbeats 1000000 in
theorem longerM_any (v : Value) (n : Nat) (c : Nat → Nat → Value) (m : PMs) (w : World) (hn : n ≤ 1000) (hv : Sl w 4 n c v) :
    Calls Try.prog 23 #[v, meV m] w fun e w' => ∃ u, e = .returned u ∧ Sl w' 4 (n + 1) (snocC n c (encM m)) u ∧ Below w.heap.size w w' ∧ ∀ g, u.ownBlock = some g → w.heap.size ≤ g := by
  obtain ⟨a, cap, rfl, hcap, hnil, hr⟩ := hv
  have HN : Hid (a = none → n = 0 ∧ cap = 0) := hnil
  have hB1 := below_new w (.cells #[.int .i64 m.ln, .int .i64 m.ep, .int .i64 m.n, .int .u64 m.pay] 44)
  have hB2 := below_new (w.alloc (.cells #[.int .i64 m.ln, .int .i64 m.ep, .int .i64 m.n, .int .u64 m.pay] 44)).drew (.cells #[.int .i64 m.ln, .int .i64 m.ep, .int .i64 m.n, .int .u64 m.pay] 44)
  have HB : Hid (Below _ _ _) := Below.onto hB1.drew hB2
  have HR3 : Hid (Rd _ a n 4 c) := hr.below HB.out
  have HX : Hid (Bx _ _ _) := bx_at (w.alloc (.cells #[.int .i64 m.ln, .int .i64 m.ep, .int .i64 m.n, .int .u64 m.pay] 44)).drew (w.heap.size + 1) (by simp) [.int .i64 m.ln, .int .i64 m.ep, .int .i64 m.n, .int .u64 m.pay] 44
  clear hr hnil hB1 hB2
  have h1 : (n : Int) ≤ (cap : Int) := by omega
  cases a with
  | none =>
    obtain ⟨rfl, rfl⟩ := HN.out rfl
    go_enter Try.func23, Try.ntmps23
    go_wp2_with fail
    go_region_law (refine step_long eltM rfl (.tmp 10) (.tmp 12) rfl none 0 (w.heap.size + 1) c (encM m) [.int .i64 m.ln, .int .i64 m.ep, .int .i64 m.n, .int .u64 m.pay] rfl rfl (fun _ => rfl) HR3.out HX.out rfl enc4 one4 (by omega) ?_; intro v' w' h1 h2 h3)
    go_wp2_with fail
    go_ret
    exact ⟨v', rfl, h1, Below.onto HB.out h2, fun g hg => Nat.le_trans HB.out.size (h3 g hg)⟩
  | some ad =>
    go_enter Try.func23, Try.ntmps23
    go_wp2_with fail
    go_region_law (refine step_long eltM rfl (.tmp 10) (.tmp 12) rfl (some ad) n (w.heap.size + 1) c (encM m) [.int .i64 m.ln, .int .i64 m.ep, .int .i64 m.n, .int .u64 m.pay] rfl rfl (fun h => by cases h) HR3.out HX.out rfl enc4 one4 (by omega) ?_; intro v' w' h1 h2 h3)
    go_wp2_with fail
    go_ret
    exact ⟨v', rfl, h1, Below.onto HB.out h2, fun g hg => Nat.le_trans HB.out.size (h3 g hg)⟩
theorem rd_tail {w : World} {b off n s : Nat} {c : Nat → Nat → Value} (h : Rd w (some ⟨b, off, none⟩) (n + 1) s c) : Rd w (some ⟨b, off + s, none⟩) n s (fun j => c (j + 1)) := fun j hj => by
  obtain ⟨b', off', e, hc⟩ := h (j + 1) (by omega)
  cases e
  refine ⟨b, off + s, rfl, fun f hf => ?_⟩
  have := hc f hf
  rwa [show off + (j + 1) * s + f = off + s + j * s + f by rw [Nat.add_mul]; omega] at this
set_option maxHeartbeats 1000000 in
theorem restI_any (v : Value) (n : Nat) (c : Nat → Nat → Value) (w : World) (hn : n ≤ 1000) (hv : Sl w 1 (n + 1) c v) :
    Calls Try.prog 22 #[v] w fun e w' => ∃ u, e = .returned u ∧ (∀ W c', Sl W 1 (n + 1) c' v → Sl W 1 n (fun j => c' (j + 1)) u) ∧ w' = w := by
  obtain ⟨a, cap, rfl, hcap, hnil, hr⟩ := hv
  obtain ⟨b, off, rfl, _⟩ := hr 0 (by omega)
  clear hr hnil
  have h1 : ((n + 1 : Nat) : Int) ≤ (cap : Int) := by omega
  have h2 : (1 : Int) ≤ ((n + 1 : Nat) : Int) := by omega
  go_enter Try.func22, Try.ntmps22
  go_wp2_with fail
  · go_ret
    exact ⟨_, rfl, fun W c' _ => ⟨_, _, rfl, Nat.le_refl _, (fun e => by cases e), fun j hj => absurd hj (by omega)⟩, rfl⟩
  · go_ret
    exact ⟨_, rfl, fun W c' ⟨_, _, e0, _, _, hR⟩ => ⟨_, _, rfl, Nat.le_refl _, (fun e => by cases e), by cases e0; exact rd_tail hR⟩, rfl⟩
set_option maxHeartbeats 1000000 in
theorem restM_any (v : Value) (n : Nat) (c : Nat → Nat → Value) (w : World) (hn : n ≤ 1000) (hv : Sl w 4 (n + 1) c v) :
    Calls Try.prog 27 #[v] w fun e w' => ∃ u, e = .returned u ∧ (∀ W c', Sl W 4 (n + 1) c' v → Sl W 4 n (fun j => c' (j + 1)) u) ∧ w' = w := by
  obtain ⟨a, cap, rfl, hcap, hnil, hr⟩ := hv
  obtain ⟨b, off, rfl, _⟩ := hr 0 (by omega)
  clear hr hnil
  have h1 : ((n + 1 : Nat) : Int) ≤ (cap : Int) := by omega
  have h2 : (1 : Int) ≤ ((n + 1 : Nat) : Int) := by omega
  go_enter Try.func27, Try.ntmps27
  go_wp2_with fail
  · go_ret
    exact ⟨_, rfl, fun W c' _ => ⟨_, _, rfl, Nat.le_refl _, (fun e => by cases e), fun j hj => absurd hj (by omega)⟩, rfl⟩
  · go_ret
    exact ⟨_, rfl, fun W c' ⟨_, _, e0, _, _, hR⟩ => ⟨_, _, rfl, Nat.le_refl _, (fun e => by cases e), by cases e0; exact rd_tail hR⟩, rfl⟩

end Go.Proofs.Ytkgehbonijpdnaa
