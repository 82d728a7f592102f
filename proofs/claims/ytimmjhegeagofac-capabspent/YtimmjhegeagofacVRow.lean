/- Rows of one's own: handles; the acts of a script. -/
import Derived.Test.YtimmjhegeagofacVAlive
import Derived.Test.YtimmjhegeagofacJSeq
namespace Go.Proofs.Ytimmjhegeagofac
open Go.RowKit Go.Sort
set_option maxRecDepth 100000

section
variable {w w' : World} {base size n : Nat} {e : TypeId} {v : Value} {xs : List Value}
theorem vown_same (h : w.ownsRow base e size v n xs) (hb : ∀ b, v.ownBlock = some b → w'.heap[b]? = w.heap[b]?) : w'.ownsRow base e size v n xs := by
  refine ⟨h.1, ?_⟩
  rcases h.2 with hn | ⟨g, cap, cur, rfl, h1, h2, rest⟩
  · exact .inl hn
  · exact .inr ⟨g, cap, cur, rfl, h1, (hb g rfl).trans h2, rest⟩
theorem vown_lt (h : w.ownsRow base e size v n xs) {b : Nat} (hb : v.ownBlock = some b) : b < w.heap.size := by
  rcases h.2 with ⟨rfl, _⟩ | ⟨g, cap, cur, rfl, _, h2, _⟩
  · cases hb
  · cases hb; exact (Array.getElem?_eq_some_iff.1 h2).1
theorem vown_base (h : w.ownsRow base e size v n xs) {b : Nat} (hb : v.ownBlock = some b) : base ≤ b := by
  rcases h.2 with ⟨rfl, _⟩ | ⟨g, cap, cur, rfl, h1, _⟩
  · cases hb
  · cases hb; exact h1
theorem vown_below (h : w.ownsRow base e size v n xs) (hb : Below w.heap.size w w') : w'.ownsRow base e size v n xs :=
  vown_same h fun b eb => hb.block b (vown_lt h eb)
theorem vown_but {S : Nat → Prop} (h : w.ownsRow base e size v n xs) (hb : But S w w') (hS : ∀ b, v.ownBlock = some b → ¬ S b) : w'.ownsRow base e size v n xs :=
  vown_same h fun b eb => hb.block b (vown_lt h eb) (hS b eb)
theorem vown_form (h : w.ownsRow base e size v n xs) : ∃ a cap, v = .slice a n cap := by
  rcases h.2 with ⟨rfl, rfl⟩ | ⟨g, cap, cur, rfl, _⟩
  · exact ⟨_, _, rfl⟩
  · exact ⟨_, _, rfl⟩
theorem vown_at {a : Option Addr} {cap : Nat} (h : w.ownsRow base e size (.slice a n cap) n xs) (hn : 0 < n) : ∃ g, a = some ⟨g, 0, none⟩ ∧ n ≤ cap ∧ ∀ j x, xs[j]? = some x → w.cell? ⟨g, j, none⟩ = some x := by
  rcases h.2 with ⟨_, h0⟩ | ⟨g, cap', cur, e1, _, _, h3, _⟩
  · omega
  · injection e1 with e1 _ e2
    subst e1 e2
    refine ⟨g, rfl, h3, fun j x hj => ?_⟩
    have := h.cells (g := g) rfl j x hj
    rwa [Go.WideShapes.add_plain, Nat.zero_add] at this
end
/-- one more -/
theorem vapp {t e ty : TypeId} {size bytes : Nat} {z : Value} (E0 : Elt t e size bytes z) {B : Nat} {W : World} {v : Value} {n : Nat} {xs : List Value} (cs : List Value) (hv : W.ownsRow B e size v n xs) (hcs : cs.length = size) (h1 : ∀ u ∈ cs, u.oneCell' = true) (hn : n ≤ 100000) (hB : B ≤ W.heap.size) :
    ∃ v' w3, (Builtin.append_ #[t, t] ty #[v, .slice (some ⟨W.heap.size, 0, none⟩) 1 1]).run Try.prog (W.alloc (.cells cs.toArray e)) = .ok v' w3 ∧ w3.ownsRow B e size v' (n + 1) (xs ++ cs) ∧ But (fun b => v.ownBlock = some b) W w3 ∧ (v'.ownBlock = v.ownBlock ∨ ∃ b, v'.ownBlock = some b ∧ W.heap.size ≤ b) := by
  obtain ⟨i0, hi, hz0, hz1, hz2⟩ := info_parts E0.hi
  have b12 : Below W.heap.size W (W.alloc (.cells cs.toArray e)) := below_new _ _
  have hnews : ∀ j u, cs[j]? = some u → (W.alloc (.cells cs.toArray e)).cell? ((⟨W.heap.size, 0, none⟩ : Addr).add j) = some u := fun j u hj => by
    rw [Go.WideShapes.add_plain, Nat.zero_add]
    exact bx_new W cs e j u hj
  have h64 : (n + 1) * bytes ≤ 140737488355328 := by
    have := Nat.mul_le_mul (show n + 1 ≤ 100001 by omega) E0.hb
    omega
  obtain ⟨v', w3, hrun, hown, hgrow, _, hloc⟩ := run_append_own_at (P := Try.prog) (w := W.alloc (.cells cs.toArray e)) B t ty e i0 z size bytes E0.ht hi hz0 hz1 hz2 E0.hz E0.hs v n xs (vown_below hv b12) ⟨W.heap.size, 0, none⟩ 1 1 cs (by omega) hnews h1 (by unfold maxLen; omega) h64 (Nat.le_trans hB b12.size)
  exact ⟨v', w3, hrun, hown, (But.of b12).trans ⟨hgrow.os, hgrow.tape, hgrow.output, hgrow.size, fun b hb hn => hgrow.block b hb fun e => hn e.symm⟩, hloc.imp id fun h => ⟨_, h, b12.size⟩⟩
/-- handles in a row -/
abbrev encH (l : List Int) : List Value := l.map (Value.int .u32)
def Hs (w : World) (B : Nat) (v : Value) (l : List Int) : Prop := w.ownsRow B 31 1 v l.length (encH l)
theorem eltH : Elt 28 31 1 4 (.int .u32 0) := ⟨Try.underlying28, by kernel_rfl, rfl, by decide, by decide⟩
theorem hs_nil (w : World) (B : Nat) : Hs w B (.slice none 0 0) [] := World.ownsRow_nil _ _ _ _
theorem Hs.at_ {w : World} {B : Nat} {a : Option Addr} {cap n : Nat} {l : List Int} (h : Hs w B (.slice a n cap) l) (hn : n = l.length) {j : Nat} (hj : j < n) : ∃ g, a = some ⟨g, 0, none⟩ ∧ n ≤ cap ∧ w.cell? ⟨g, j, none⟩ = some (.int .u32 (l.getD j 0)) := by
  subst hn
  obtain ⟨g, e1, h2, h3⟩ := vown_at h (by omega)
  exact ⟨g, e1, h2, h3 j _ (by simp [encH, hj])⟩
theorem hs_app {B : Nat} {W : World} {v : Value} {l : List Int} (x : Int) (hv : Hs W B v l) (hn : l.length ≤ 100000) (hB : B ≤ W.heap.size) :
    ∃ a cap w3, (Builtin.append_ #[28, 28] 28 #[v, .slice (some ⟨W.heap.size, 0, none⟩) 1 1]).run Try.prog (W.alloc (.cells #[.int .u32 x] 31)) = .ok (.slice a (l.length + 1) cap) w3 ∧ Hs w3 B (.slice a (l.length + 1) cap) (l ++ [x]) ∧ But (fun b => v.ownBlock = some b) W w3 ∧ ((Value.slice a (l.length + 1) cap).ownBlock = v.ownBlock ∨ ∃ b, (Value.slice a (l.length + 1) cap).ownBlock = some b ∧ W.heap.size ≤ b) := by
  obtain ⟨v', w3, hrun, hown, hbut, hloc⟩ := vapp (ty := 28) eltH [.int .u32 x] hv rfl (by simp [Value.oneCell']) hn hB
  obtain ⟨a, cap, rfl⟩ := vown_form hown
  refine ⟨a, cap, w3, hrun, ?_, hbut, hloc⟩
  unfold Hs
  rw [show encH (l ++ [x]) = encH l ++ [.int .u32 x] by simp [encH], show (l ++ [x]).length = l.length + 1 by simp]
  exact hown
/-- an act of a script -/
structure VOp where
  k : Int
  c : Int
  r : Int
  h : Int
  j : Int
def encV (o : VOp) : Nat → Value
  | 0 => .int .i64 o.k
  | 1 => .int .i64 o.c
  | 2 => .int .u8 o.r
  | 3 => .int .u32 o.h
  | _ => .int .i64 o.j
def VOp.Ok (o : VOp) : Prop := 0 ≤ o.r ∧ o.r < 256 ∧ 0 ≤ o.h ∧ o.h < 4294967296
theorem Rd.five {w : World} {a : Option Addr} {n : Nat} {g : Nat → VOp} (h : Rd w a n 5 (fun j => encV (g j))) {i : Nat} (hi : i < n) : ∃ b off, a = some ⟨b, off, none⟩ ∧ w.cell? ⟨b, off + i * 5, none⟩ = some (.int .i64 (g i).k) ∧ w.cell? ⟨b, off + i * 5 + 1, none⟩ = some (.int .i64 (g i).c) ∧ w.cell? ⟨b, off + i * 5 + 2, none⟩ = some (.int .u8 (g i).r) ∧ w.cell? ⟨b, off + i * 5 + 3, none⟩ = some (.int .u32 (g i).h) ∧ w.cell? ⟨b, off + i * 5 + 4, none⟩ = some (.int .i64 (g i).j) := by
  obtain ⟨b, off, e, hc⟩ := h i hi
  exact ⟨b, off, e, hc 0 (by omega), hc 1 (by omega), hc 2 (by omega), hc 3 (by omega), hc 4 (by omega)⟩
theorem Bx.five {W : World} {B : Nat} {a b c d e : Value} (h : Bx W B [a, b, c, d, e]) : W.cell? ⟨B, 0, none⟩ = some a ∧ W.cell? ⟨B, 1, none⟩ = some b ∧ W.cell? ⟨B, 2, none⟩ = some c ∧ W.cell? ⟨B, 3, none⟩ = some d ∧ W.cell? ⟨B, 4, none⟩ = some e :=
  ⟨h 0 _ rfl, h 1 _ rfl, h 2 _ rfl, h 3 _ rfl, h 4 _ rfl⟩

/-- what CapabNever keeps -/
structure NvI (w0 w : World) (p : Nat) (vt vd : Value) (T : Tb) (tl dl : List Int) : Prop where
  tx : Tx w p T
  ot : Hs w w0.heap.size vt tl
  od : Hs w w0.heap.size vd dl
  ne : ∀ b, vt.ownBlock = some b → vd.ownBlock ≠ some b
  nt : vt.ownBlock ≠ some p
  nd : vd.ownBlock ≠ some p
  told : ∀ h ∈ tl, Tld T h ∧ 0 ≤ h ∧ h < 4294967296
  dead : ∀ h ∈ dl, Ded T h ∧ 0 ≤ h ∧ h < 4294967296
  bel : Below w0.heap.size w0 w
  bp : w0.heap.size ≤ p
section
variable {w0 w w' : World} {p : Nat} {vt vd : Value} {T T' : Tb} {tl dl : List Int}
theorem NvI.grow (h : NvI w0 w p vt vd T tl dl) (hb : Below w.heap.size w w') : NvI w0 w' p vt vd T tl dl :=
  ⟨h.tx.below hb, vown_below h.ot hb, vown_below h.od hb, h.ne, h.nt, h.nd, h.told, h.dead, Below.onto h.bel hb, h.bp⟩
theorem NvI.act (h : NvI w0 w p vt vd T tl dl) (hx : Tx w' p T') (hb : Bt p w w') (h1 : ∀ k ∈ tl, Tld T k → Tld T' k) (h2 : ∀ k ∈ dl, Ded T k → Ded T' k) : NvI w0 w' p vt vd T' tl dl :=
  ⟨hx, vown_but h.ot hb (fun b e e' => h.nt (by rw [e, e'])), vown_but h.od hb (fun b e e' => h.nd (by rw [e, e'])), h.ne, h.nt, h.nd, fun k hk => ⟨h1 k hk (h.told k hk).1, (h.told k hk).2⟩, fun k hk => ⟨h2 k hk (h.dead k hk).1, (h.dead k hk).2⟩, h.bel.trans (hb.below h.bel.size h.bp), h.bp⟩
theorem NvI.tell (h : NvI w0 w p vt vd T tl dl) {v' : Value} {x : Int} (ho : Hs w' w0.heap.size v' (tl ++ [x])) (hb : But (fun b => vt.ownBlock = some b) w w') (hl : v'.ownBlock = vt.ownBlock ∨ ∃ b, v'.ownBlock = some b ∧ w.heap.size ≤ b) (hx : Tld T x ∧ 0 ≤ x ∧ x < 4294967296) : NvI w0 w' p v' vd T (tl ++ [x]) dl := by
  refine ⟨h.tx.same (hb.block p h.tx.lt h.nt), ho, vown_but h.od hb (fun b e e' => h.ne b e' e), ?_, ?_, h.nd, ?_, h.dead, h.bel.trans (hb.below h.bel.size fun k hk => vown_base h.ot hk), h.bp⟩
  · intro b e e'
    rcases hl with hl | ⟨g, hl, hg⟩
    · exact h.ne b (hl ▸ e) e'
    · rw [hl] at e; cases e; have := vown_lt h.od e'; omega
  · intro e
    rcases hl with hl | ⟨g, hl, hg⟩
    · exact h.nt (hl ▸ e)
    · rw [hl] at e; cases e; have := h.tx.lt; omega
  · intro k hk
    rcases List.mem_append.1 hk with hk | hk
    · exact h.told k hk
    · obtain rfl : k = x := by simpa using hk
      exact hx
theorem NvI.bury (h : NvI w0 w p vt vd T tl dl) {v' : Value} {x : Int} (ho : Hs w' w0.heap.size v' (dl ++ [x])) (hb : But (fun b => vd.ownBlock = some b) w w') (hl : v'.ownBlock = vd.ownBlock ∨ ∃ b, v'.ownBlock = some b ∧ w.heap.size ≤ b) (hx : Ded T x ∧ 0 ≤ x ∧ x < 4294967296) : NvI w0 w' p vt v' T tl (dl ++ [x]) := by
  refine ⟨h.tx.same (hb.block p h.tx.lt h.nd), vown_but h.ot hb (fun b e e' => h.ne b e e'), ho, ?_, h.nt, ?_, h.told, ?_, h.bel.trans (hb.below h.bel.size fun k hk => vown_base h.od hk), h.bp⟩
  · intro b e e'
    rcases hl with hl | ⟨g, hl, hg⟩
    · exact h.ne b e (hl ▸ e')
    · rw [hl] at e'; cases e'; have := vown_lt h.ot e; omega
  · intro e
    rcases hl with hl | ⟨g, hl, hg⟩
    · exact h.nd (hl ▸ e)
    · rw [hl] at e; cases e; have := h.tx.lt; omega
  · intro k hk
    rcases List.mem_append.1 hk with hk | hk
    · exact h.dead k hk
    · obtain rfl : k = x := by simpa using hk
      exact hx
end
end Go.Proofs.Ytimmjhegeagofac
