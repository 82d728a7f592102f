/- The document's forest in memory; is, find, Has. -/
import Derived.Test.YtlphombjejgbiaaDAsk
import Derived.Test.YtlphombjejgbiaaDCut
import Derived.Test.YtlphombjejgbiaaUMem
namespace Go.Proofs.Ytlphombjejgbiaa
open Go.RowKit Go.Sort
set_option maxRecDepth 100000

/-- an entry's cells -/
def cF (e : Fe) : List Value := [.int .i64 (e.n : Int), .int .i64 e.p]
def encF (l : List Fe) : List Value := l.flatMap cF
theorem encF_app (l k : List Fe) : encF (l ++ k) = encF l ++ encF k := by simp [encF]
theorem encF_len (l : List Fe) : (encF l).length = l.length * 2 := by
  induction l with
  | nil => rfl
  | cons m l ih => rw [show encF (m :: l) = cF m ++ encF l from rfl, List.length_append, ih]; simp [cF]; omega
theorem encF_one (l : List Fe) : ∀ y ∈ encF l, y.oneCell' = true := by
  intro y hy
  obtain ⟨e, _, he⟩ := List.mem_flatMap.1 hy
  simp [cF] at he
  rcases he with rfl | rfl <;> rfl
theorem encF_at : ∀ {l : List Fe} {i : Nat} {m : Fe}, l[i]? = some m → ∀ j, j < 2 → (encF l)[i * 2 + j]? = (cF m)[j]?
  | x :: l, 0, m, h, j, hj => by
    cases h
    rw [show encF (x :: l) = cF x ++ encF l from rfl, List.getElem?_append_left (by simp [cF]; omega)]
    congr 1
    omega
  | x :: l, i + 1, m, h, j, hj => by
    have := encF_at (l := l) (i := i) (m := m) h j hj
    rw [show encF (x :: l) = cF x ++ encF l from rfl, List.getElem?_append_right (by simp [cF]; omega), ← this]
    congr 1
    simp [cF]
    omega
theorem fown_same {w w' : World} {base : Nat} {e : TypeId} {size : Nat} {v : Value} {n : Nat} {xs : List Value} (h : w.ownsRow base e size v n xs) (hb : ∀ b, v.ownBlock = some b → w'.heap[b]? = w.heap[b]?) : w'.ownsRow base e size v n xs := by
  refine ⟨h.1, ?_⟩
  rcases h.2 with hn | ⟨g, cap, cur, rfl, h1, h2, rest⟩
  · exact .inl hn
  · exact .inr ⟨g, cap, cur, rfl, h1, (hb g rfl).trans h2, rest⟩
theorem fown_lt {w : World} {base : Nat} {e : TypeId} {size : Nat} {v : Value} {n : Nat} {xs : List Value} (h : w.ownsRow base e size v n xs) {b : Nat} (hb : v.ownBlock = some b) : base ≤ b ∧ b < w.heap.size := by
  rcases h.2 with ⟨rfl, _⟩ | ⟨g, cap, cur, rfl, h1, h2, _⟩
  · cases hb
  · cases hb; exact ⟨h1, (Array.getElem?_eq_some_iff.1 h2).1⟩
theorem fown_form {w : World} {base : Nat} {e : TypeId} {size : Nat} {v : Value} {n : Nat} {xs : List Value} (h : w.ownsRow base e size v n xs) : ∃ a cap, v = .slice a n cap ∧ n ≤ cap ∧ cap ≤ maxLen := by
  rcases h.2 with ⟨rfl, rfl⟩ | ⟨g, cap, cur, rfl, _, _, h3, h4, _⟩
  · exact ⟨_, _, rfl, Nat.le_refl _, by decide⟩
  · exact ⟨_, _, rfl, h3, h4⟩
theorem fown_at {w : World} {base : Nat} {e : TypeId} {size n cap : Nat} {a : Option Addr} {xs : List Value} (h : w.ownsRow base e size (.slice a n cap) n xs) (hn : 0 < n) : ∃ g, a = some ⟨g, 0, none⟩ ∧ ∀ j x, xs[j]? = some x → w.cell? ⟨g, j, none⟩ = some x := by
  rcases h.2 with ⟨_, h0⟩ | ⟨g, cap', cur, e1, _, _, h3, _⟩
  · omega
  · injection e1 with e1 _ e2
    subst e1 e2
    refine ⟨g, rfl, fun j x hj => ?_⟩
    have := h.cells (g := g) rfl j x hj
    rwa [Go.WideShapes.add_plain, Nat.zero_add] at this
theorem Fok.len {N : Nat} {L : List Fe} (h : Fok N L) : L.length ≤ N := by
  rw [← nds_len]
  exact len_le h.nod h.lt
/-- the document's forest: its block, its row -/
structure Rf (w : World) (r : Nat) (rv : Value) (N : Nat) (L : List Fe) : Prop where
  bl : w.heap[r]? = some (.cells #[.int .i64 (N : Int), rv] 72 (0, 0))
  ow : w.ownsRow 0 81 2 rv L.length (encF L)
  ne : ¬ rv.ownBlock = some r
  ok : Fok N L
  hN : N ≤ 1024
section
variable {w w' : World} {r : Nat} {rv : Value} {N : Nat} {L : List Fe}
theorem Rf.lt (x : Rf w r rv N L) : r < w.heap.size := (Array.getElem?_eq_some_iff.1 x.bl).1
theorem Rf.same (x : Rf w r rv N L) (h0 : w'.heap[r]? = w.heap[r]?) (hb : ∀ b, rv.ownBlock = some b → w'.heap[b]? = w.heap[b]?) : Rf w' r rv N L :=
  ⟨h0.trans x.bl, fown_same x.ow hb, x.ne, x.ok, x.hN⟩
theorem Rf.below (x : Rf w r rv N L) (h : Below w.heap.size w w') : Rf w' r rv N L := x.same (h.block r x.lt) fun b hb => h.block b (fown_lt x.ow hb).2
theorem Rf.but {S : Nat → Prop} (x : Rf w r rv N L) (h : But S w w') (h0 : ¬ S r) (hS : ∀ b, rv.ownBlock = some b → ¬ S b) : Rf w' r rv N L := x.same (h.block r x.lt h0) fun b hb => h.block b (fown_lt x.ow hb).2 (hS b hb)
theorem Rf.c0 (x : Rf w r rv N L) : w.cell? ⟨r, 0, none⟩ = some (.int .i64 (N : Int)) := by rw [cell_of_row _ _ 0 _ _ (0, 0) x.bl]; rfl
theorem Rf.c1 (x : Rf w r rv N L) : w.cell? ⟨r, 1, none⟩ = some rv := by rw [cell_of_row _ _ 1 _ _ (0, 0) x.bl]; rfl
theorem Rf.fz (x : Rf w r rv N L) (i : Nat) : w.frozen? ⟨r, i, none⟩ = false := by simp [World.frozen?, x.bl]
theorem Rf.form (x : Rf w r rv N L) : ∃ a cap, rv = .slice a L.length cap := by
  obtain ⟨a, cap, e, _⟩ := fown_form x.ow
  exact ⟨a, cap, e⟩
theorem Rf.at_ {a : Option Addr} {cap n : Nat} (x : Rf w r (.slice a n cap) N L) (hn : n = L.length) {i : Nat} {m : Fe} (h : L[i]? = some m) :
    ∃ g, a = some ⟨g, 0, none⟩ ∧ w.cell? ⟨g, i * 2, none⟩ = some (.int .i64 (m.n : Int)) ∧ w.cell? ⟨g, i * 2 + 1, none⟩ = some (.int .i64 m.p) := by
  subst hn
  have hl := (List.getElem?_eq_some_iff.1 h).1
  obtain ⟨g, e, hc⟩ := fown_at x.ow (by omega)
  exact ⟨g, e, hc _ _ (by rw [← Nat.add_zero (i * 2), encF_at h 0 (by omega)]; rfl), hc _ _ (by rw [encF_at h 1 (by omega)]; rfl)⟩
end
/-- where x is; below 0: nowhere -/
def pF (x : Int) (e : Fe) : Bool := decide ((e.n : Int) = x)
def fI (L : List Fe) (x : Int) : Int := if L.findIdx (pF x) < L.length then (L.findIdx (pF x) : Int) else -1
theorem ffind_more {p : Fe → Bool} {l : List Fe} {k : Nat} {m : Fe} (h : k ≤ l.findIdx p) (hm : l[k]? = some m) (hp : p m = false) : k + 1 ≤ l.findIdx p := by
  obtain ⟨hl, he⟩ := List.getElem?_eq_some_iff.1 hm
  rcases Nat.lt_or_ge k (l.findIdx p) with h1 | h1
  · exact h1
  · have e : k = l.findIdx p := by omega
    subst e
    have := List.findIdx_getElem (p := p) (w := hl)
    rw [he, hp] at this
    cases this
theorem ffind_here {p : Fe → Bool} {l : List Fe} {k : Nat} {m : Fe} (h : k ≤ l.findIdx p) (hm : l[k]? = some m) (hp : p m = true) : l.findIdx p = k := by
  obtain ⟨hl, he⟩ := List.getElem?_eq_some_iff.1 hm
  rcases Nat.lt_or_ge k (l.findIdx p) with h1 | h1
  · have := List.not_of_lt_findIdx h1
    rw [he, hp] at this
    simp at this
  · omega
theorem fI_has {N : Nat} {L : List Fe} (h : Fok N L) (x : Int) : decide (0 ≤ fI L x) = hasF N L x := by
  unfold fI hasF
  by_cases hf : L.findIdx (pF x) < L.length
  · rw [if_pos hf]
    have := List.findIdx_getElem (p := pF x) (w := hf)
    generalize hk : L.findIdx (pF x) = k at *
    have hm : (L[k]).n ∈ nds L := mem_nds.2 ⟨_, List.getElem_mem _, rfl⟩
    have hlt := h.lt _ hm
    simp [pF] at this
    subst this
    have h1 : inR N ((L[k]).n : Int) = true := inR_iff.2 ⟨by omega, by omega⟩
    rw [h1]
    simp [hm]
  · rw [if_neg hf]
    have hno : ∀ e ∈ L, ¬ (e.n : Int) = x := by
      intro e he hx
      exact hf (List.findIdx_lt_length_of_exists ⟨e, he, by simp [pF, hx]⟩)
    cases hin : inR N x
    · rfl
    · obtain ⟨h1, h2⟩ := inR_iff.1 hin
      have : x.toNat ∉ nds L := fun hm => by
        obtain ⟨e, he, hn⟩ := mem_nds.1 hm
        exact hno e he (by omega)
      simp [this]
theorem fI_at {N : Nat} {L : List Fe} (_ : Fok N L) (x : Int) (hh : 0 ≤ fI L x) : ∃ (k : Nat) (e : Fe), fI L x = (k : Int) ∧ L[k]? = some e ∧ (e.n : Int) = x := by
  unfold fI at hh ⊢
  by_cases hf : L.findIdx (pF x) < L.length
  · rw [if_pos hf]
    have := List.findIdx_getElem (p := pF x) (w := hf)
    exact ⟨_, _, rfl, List.getElem?_eq_getElem hf, by simpa [pF] using this⟩
  · rw [if_neg hf] at hh; omega
section
variable {w : World} {r : Nat} {rv : Value} {N : Nat} {L : List Fe}
set_option maxHeartbeats 1000000 in
theorem ris12 (x : Rf w r rv N L) (n : Int) : Calls Try.prog 62 #[.pointer (some ⟨r, 0, none⟩), .int .i64 n] w fun e w' => e = .returned (.bool (inR N n)) ∧ w' = w := by
  have c0 := x.c0
  clear x
  cases hin : inR N n
  · have hbad : n < 0 ∨ (N : Int) ≤ n := by simp [inR] at hin; omega
    rcases hbad with h1 | h1
    · go_enter Try.func62, Try.ntmps62
      go_wp2_with fail
      go_ret
      exact ⟨rfl, rfl⟩
    · have h2 : 0 ≤ n := by omega
      have h3 : ¬ n < (N : Int) := by omega
      go_enter Try.func62, Try.ntmps62
      go_wp2_with fail
      go_ret
      exact ⟨ret_bool (by simp [*]), rfl⟩
  · obtain ⟨h1, h2⟩ := inR_iff.1 hin
    go_enter Try.func62, Try.ntmps62
    go_wp2_with fail
    go_ret
    exact ⟨ret_bool (by simp [*]), rfl⟩
set_option maxHeartbeats 4000000 in
theorem rfind12 (x : Rf w r rv N L) (n : Int) : Calls Try.prog 66 #[.pointer (some ⟨r, 0, none⟩), .int .i64 n] w fun e w' => e = .returned (.int .i64 (fI L n)) ∧ w' = w := by
  have hlen : L.length ≤ 1024 := Nat.le_trans x.ok.len x.hN
  obtain ⟨a, cap, hv⟩ := x.form
  subst hv
  have HX : Hid (Rf w r (.slice a L.length cap) N L) := x
  have E : Hid (fI L n = if L.findIdx (pF n) < L.length then (L.findIdx (pF n) : Int) else -1) := rfl
  have c1 := x.c1
  clear x
  generalize hM : L.length = M at *
  go_enter Try.func66, Try.ntmps66
  go_wp2_with fail
  go_loopw [5] (fun vi wr => ∃ k : Nat, k ≤ M ∧ vi = .int .i64 k ∧ wr = w ∧ Hid (k ≤ L.findIdx (pF n))) (fun vi _ => M - (intOf vi).toNat)
  case atStart => exact ⟨0, Nat.zero_le _, rfl, rfl, Nat.zero_le _⟩
  case round =>
    obtain ⟨k, hk, rfl, rfl, HF⟩ := hrel
    by_cases hlt : k < M
    · obtain ⟨m, hm⟩ : ∃ m, L[k]? = some m := ⟨L[k]'(by omega), List.getElem?_eq_getElem (by omega)⟩
      obtain ⟨g, rfl, m0, m1⟩ := HX.out.at_ hM.symm hm
      clear m1
      by_cases he : (m.n : Int) = n
      · have hfi : Hid (L.findIdx (pF n) = k) := ffind_here HF.out hm (by simp [pF, he])
        rw [he] at m0
        clear hm
        go_wp2_with fail
        go_ret
        rw [E.out, hfi.out, if_pos hlt]
        exact ⟨rfl, rfl⟩
      · have hfi : Hid (k + 1 ≤ L.findIdx (pF n)) := ffind_more HF.out hm (by simp [pF, he])
        clear hm
        generalize (m.n : Int) = mn at *
        go_wp2_with fail
        go_roundw
        case rel => exact ⟨k + 1, by omega, by go_num, trivial, hfi⟩
        case measure => simp [intOf]; omega
    · obtain rfl : k = M := by omega
      have hno : Hid (¬ L.findIdx (pF n) < k) := by
        show ¬ _
        have := HF.out
        omega
      go_wp2_with fail
      go_ret
      rw [E.out, if_neg hno.out]
      exact ⟨rfl, rfl⟩
theorem rhas12 (x : Rf w r rv N L) (n : Int) : Calls Try.prog 33 #[.pointer (some ⟨r, 0, none⟩), .int .i64 n] w fun e w' => e = .returned (.bool (hasF N L n)) ∧ w' = w := by
  have hf := rfind12 x n
  rw [← fI_has x.ok n]
  clear x
  generalize fI L n = k at *
  go_enter Try.func33, Try.ntmps33
  go_wp2_with fail
  refine hf.mono ?_
  rintro e w1 ⟨rfl, rfl⟩
  go_wp2_with fail
  go_ret
  exact ⟨rfl, rfl⟩
end
end Go.Proofs.Ytlphombjejgbiaa
