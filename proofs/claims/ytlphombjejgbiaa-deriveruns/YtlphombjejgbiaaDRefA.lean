/- The document's New, Root, Derive. -/
import Derived.Test.YtlphombjejgbiaaDAsk
import Derived.Test.YtlphombjejgbiaaDCut
import Derived.Test.YtlphombjejgbiaaUMem
import Derived.Test.YtlphombjejgbiaaDAlive
import Derived.Test.YtlphombjejgbiaaJQuiet
import Derived.Test.YtlphombjejgbiaaGRows
import Derived.Test.YtlphombjejgbiaaDNew
import Derived.Test.YtlphombjejgbiaaJSeq
namespace Go.Proofs.Ytlphombjejgbiaa
open Go.RowKit Go.Sort
set_option maxRecDepth 100000

/-- an entry's cells -/
def cF (e : Fe) : List Value := [.int .i64 (e.n : Int), .int .i64 e.p]
def encF (l : List Fe) : List Value := l.flatMap cF
theorem encF_app (l k : List Fe) : encF (l ++ k) = encF l ++ encF k := by simp [encF]
theorem encF_len (l : List Fe) : (encF l).length = l.length * 2 := by
  induction l with
  | nil => rfl
  | cons m l ih => rw [show encF (m :: l) = cF m ++ encF l from rfl, List.length_append, ih]; simp [cF]; omega
theorem encF_one (l : List Fe) : ∀ y ∈ encF l, y.oneCell' = true := by
  intro y hy
  obtain ⟨e, _, he⟩ := List.mem_flatMap.1 hy
  simp [cF] at he
  rcases he with rfl | rfl <;> rfl
theorem encF_at : ∀ {l : List Fe} {i : Nat} {m : Fe}, l[i]? = some m → ∀ j, j < 2 → (encF l)[i * 2 + j]? = (cF m)[j]?
  | x :: l, 0, m, h, j, hj => by
    cases h
    rw [show encF (x :: l) = cF x ++ encF l from rfl, List.getElem?_append_left (by simp [cF]; omega)]
    congr 1
    omega
  | x :: l, i + 1, m, h, j, hj => by
    have := encF_at (l := l) (i := i) (m := m) h j hj
    rw [show encF (x :: l) = cF x ++ encF l from rfl, List.getElem?_append_right (by simp [cF]; omega), ← this]
    congr 1
    simp [cF]
    omega
theorem fown_same {w w' : World} {base : Nat} {e : TypeId} {size : Nat} {v : Value} {n : Nat} {xs : List Value} (h : w.ownsRow base e size v n xs) (hb : ∀ b, v.ownBlock = some b → w'.heap[b]? = w.heap[b]?) : w'.ownsRow base e size v n xs := by
  refine ⟨h.1, ?_⟩
  rcases h.2 with hn | ⟨g, cap, cur, rfl, h1, h2, rest⟩
  · exact .inl hn
  · exact .inr ⟨g, cap, cur, rfl, h1, (hb g rfl).trans h2, rest⟩
theorem fown_lt {w : World} {base : Nat} {e : TypeId} {size : Nat} {v : Value} {n : Nat} {xs : List Value} (h : w.ownsRow base e size v n xs) {b : Nat} (hb : v.ownBlock = some b) : base ≤ b ∧ b < w.heap.size := by
  rcases h.2 with ⟨rfl, _⟩ | ⟨g, cap, cur, rfl, h1, h2, _⟩
  · cases hb
  · cases hb; exact ⟨h1, (Array.getElem?_eq_some_iff.1 h2).1⟩
theorem fown_form {w : World} {base : Nat} {e : TypeId} {size : Nat} {v : Value} {n : Nat} {xs : List Value} (h : w.ownsRow base e size v n xs) : ∃ a cap, v = .slice a n cap ∧ n ≤ cap ∧ cap ≤ maxLen := by
  rcases h.2 with ⟨rfl, rfl⟩ | ⟨g, cap, cur, rfl, _, _, h3, h4, _⟩
  · exact ⟨_, _, rfl, Nat.le_refl _, by decide⟩
  · exact ⟨_, _, rfl, h3, h4⟩
theorem fown_at {w : World} {base : Nat} {e : TypeId} {size n cap : Nat} {a : Option Addr} {xs : List Value} (h : w.ownsRow base e size (.slice a n cap) n xs) (hn : 0 < n) : ∃ g, a = some ⟨g, 0, none⟩ ∧ ∀ j x, xs[j]? = some x → w.cell? ⟨g, j, none⟩ = some x := by
  rcases h.2 with ⟨_, h0⟩ | ⟨g, cap', cur, e1, _, _, h3, _⟩
  · omega
  · injection e1 with e1 _ e2
    subst e1 e2
    refine ⟨g, rfl, fun j x hj => ?_⟩
    have := h.cells (g := g) rfl j x hj
    rwa [Go.WideShapes.add_plain, Nat.zero_add] at this
theorem Fok.len {N : Nat} {L : List Fe} (h : Fok N L) : L.length ≤ N := by
  rw [← nds_len]
  exact len_le h.nod h.lt
/-- the document's forest: its block, its row -/
structure Rf (w : World) (r : Nat) (rv : Value) (N : Nat) (L : List Fe) : Prop where
  bl : w.heap[r]? = some (.cells #[.int .i64 (N : Int), rv] 72 (0, 0))
  ow : w.ownsRow 0 81 2 rv L.length (encF L)
  ne : ¬ rv.ownBlock = some r
  ok : Fok N L
  hN : N ≤ 1024
section
variable {w w' : World} {r : Nat} {rv : Value} {N : Nat} {L : List Fe}
theorem Rf.lt (x : Rf w r rv N L) : r < w.heap.size := (Array.getElem?_eq_some_iff.1 x.bl).1
theorem Rf.same (x : Rf w r rv N L) (h0 : w'.heap[r]? = w.heap[r]?) (hb : ∀ b, rv.ownBlock = some b → w'.heap[b]? = w.heap[b]?) : Rf w' r rv N L :=
  ⟨h0.trans x.bl, fown_same x.ow hb, x.ne, x.ok, x.hN⟩
theorem Rf.below (x : Rf w r rv N L) (h : Below w.heap.size w w') : Rf w' r rv N L := x.same (h.block r x.lt) fun b hb => h.block b (fown_lt x.ow hb).2
theorem Rf.but {S : Nat → Prop} (x : Rf w r rv N L) (h : But S w w') (h0 : ¬ S r) (hS : ∀ b, rv.ownBlock = some b → ¬ S b) : Rf w' r rv N L := x.same (h.block r x.lt h0) fun b hb => h.block b (fown_lt x.ow hb).2 (hS b hb)
theorem Rf.c0 (x : Rf w r rv N L) : w.cell? ⟨r, 0, none⟩ = some (.int .i64 (N : Int)) := by rw [cell_of_row _ _ 0 _ _ (0, 0) x.bl]; rfl
theorem Rf.c1 (x : Rf w r rv N L) : w.cell? ⟨r, 1, none⟩ = some rv := by rw [cell_of_row _ _ 1 _ _ (0, 0) x.bl]; rfl
theorem Rf.fz (x : Rf w r rv N L) (i : Nat) : w.frozen? ⟨r, i, none⟩ = false := by simp [World.frozen?, x.bl]
theorem Rf.form (x : Rf w r rv N L) : ∃ a cap, rv = .slice a L.length cap := by
  obtain ⟨a, cap, e, _⟩ := fown_form x.ow
  exact ⟨a, cap, e⟩
theorem Rf.at_ {a : Option Addr} {cap n : Nat} (x : Rf w r (.slice a n cap) N L) (hn : n = L.length) {i : Nat} {m : Fe} (h : L[i]? = some m) :
    ∃ g, a = some ⟨g, 0, none⟩ ∧ w.cell? ⟨g, i * 2, none⟩ = some (.int .i64 (m.n : Int)) ∧ w.cell? ⟨g, i * 2 + 1, none⟩ = some (.int .i64 m.p) := by
  subst hn
  have hl := (List.getElem?_eq_some_iff.1 h).1
  obtain ⟨g, e, hc⟩ := fown_at x.ow (by omega)
  exact ⟨g, e, hc _ _ (by rw [← Nat.add_zero (i * 2), encF_at h 0 (by omega)]; rfl), hc _ _ (by rw [encF_at h 1 (by omega)]; rfl)⟩
end
/-- where x is; below 0: nowhere -/
def pF (x : Int) (e : Fe) : Bool := decide ((e.n : Int) = x)
def fI (L : List Fe) (x : Int) : Int := if L.findIdx (pF x) < L.length then (L.findIdx (pF x) : Int) else -1
theorem ffind_more {p : Fe → Bool} {l : List Fe} {k : Nat} {m : Fe} (h : k ≤ l.findIdx p) (hm : l[k]? = some m) (hp : p m = false) : k + 1 ≤ l.findIdx p := by
  obtain ⟨hl, he⟩ := List.getElem?_eq_some_iff.1 hm
  rcases Nat.lt_or_ge k (l.findIdx p) with h1 | h1
  · exact h1
  · have e : k = l.findIdx p := by omega
    subst e
    have := List.findIdx_getElem (p := p) (w := hl)
    rw [he, hp] at this
    cases this
theorem ffind_here {p : Fe → Bool} {l : List Fe} {k : Nat} {m : Fe} (h : k ≤ l.findIdx p) (hm : l[k]? = some m) (hp : p m = true) : l.findIdx p = k := by
  obtain ⟨hl, he⟩ := List.getElem?_eq_some_iff.1 hm
  rcases Nat.lt_or_ge k (l.findIdx p) with h1 | h1
  · have := List.not_of_lt_findIdx h1
    rw [he, hp] at this
    simp at this
  · omega
theorem fI_has {N : Nat} {L : List Fe} (h : Fok N L) (x : Int) : decide (0 ≤ fI L x) = hasF N L x := by
  unfold fI hasF
  by_cases hf : L.findIdx (pF x) < L.length
  · rw [if_pos hf]
    have := List.findIdx_getElem (p := pF x) (w := hf)
    generalize hk : L.findIdx (pF x) = k at *
    have hm : (L[k]).n ∈ nds L := mem_nds.2 ⟨_, List.getElem_mem _, rfl⟩
    have hlt := h.lt _ hm
    simp [pF] at this
    subst this
    have h1 : inR N ((L[k]).n : Int) = true := inR_iff.2 ⟨by omega, by omega⟩
    rw [h1]
    simp [hm]
  · rw [if_neg hf]
    have hno : ∀ e ∈ L, ¬ (e.n : Int) = x := by
      intro e he hx
      exact hf (List.findIdx_lt_length_of_exists ⟨e, he, by simp [pF, hx]⟩)
    cases hin : inR N x
    · rfl
    · obtain ⟨h1, h2⟩ := inR_iff.1 hin
      have : x.toNat ∉ nds L := fun hm => by
        obtain ⟨e, he, hn⟩ := mem_nds.1 hm
        exact hno e he (by omega)
      simp [this]
theorem fI_at {N : Nat} {L : List Fe} (_ : Fok N L) (x : Int) (hh : 0 ≤ fI L x) : ∃ (k : Nat) (e : Fe), fI L x = (k : Int) ∧ L[k]? = some e ∧ (e.n : Int) = x := by
  unfold fI at hh ⊢
  by_cases hf : L.findIdx (pF x) < L.length
  · rw [if_pos hf]
    have := List.findIdx_getElem (p := pF x) (w := hf)
    exact ⟨_, _, rfl, List.getElem?_eq_getElem hf, by simpa [pF] using this⟩
  · rw [if_neg hf] at hh; omega
section
variable {w : World} {r : Nat} {rv : Value} {N : Nat} {L : List Fe}
set_option maxHeartbeats 1000000 in
theorem ris12 (x : Rf w r rv N L) (n : Int) : Calls Try.prog 62 #[.pointer (some ⟨r, 0, none⟩), .int .i64 n] w fun e w' => e = .returned (.bool (inR N n)) ∧ w' = w := by
  have c0 := x.c0
  clear x
  cases hin : inR N n
  · have hbad : n < 0 ∨ (N : Int) ≤ n := by simp [inR] at hin; omega
    rcases hbad with h1 | h1
    · go_enter Try.func62, Try.ntmps62
      go_wp2_with fail
      go_ret
      exact ⟨rfl, rfl⟩
    · have h2 : 0 ≤ n := by omega
      have h3 : ¬ n < (N : Int) := by omega
      go_enter Try.func62, Try.ntmps62
      go_wp2_with fail
      go_ret
      exact ⟨ret_bool (by simp [*]), rfl⟩
  · obtain ⟨h1, h2⟩ := inR_iff.1 hin
    go_enter Try.func62, Try.ntmps62
    go_wp2_with fail
    go_ret
    exact ⟨ret_bool (by simp [*]), rfl⟩
set_option maxHeartbeats 4000000 in
theorem rfind12 (x : Rf w r rv N L) (n : Int) : Calls Try.prog 66 #[.pointer (some ⟨r, 0, none⟩), .int .i64 n] w fun e w' => e = .returned (.int .i64 (fI L n)) ∧ w' = w := by
  have hlen : L.length ≤ 1024 := Nat.le_trans x.ok.len x.hN
  obtain ⟨a, cap, hv⟩ := x.form
  subst hv
  have HX : Hid (Rf w r (.slice a L.length cap) N L) := x
  have E : Hid (fI L n = if L.findIdx (pF n) < L.length then (L.findIdx (pF n) : Int) else -1) := rfl
  have c1 := x.c1
  clear x
  generalize hM : L.length = M at *
  go_enter Try.func66, Try.ntmps66
  go_wp2_with fail
  go_loopw [5] (fun vi wr => ∃ k : Nat, k ≤ M ∧ vi = .int .i64 k ∧ wr = w ∧ Hid (k ≤ L.findIdx (pF n))) (fun vi _ => M - (intOf vi).toNat)
  case atStart => exact ⟨0, Nat.zero_le _, rfl, rfl, Nat.zero_le _⟩
  case round =>
    obtain ⟨k, hk, rfl, rfl, HF⟩ := hrel
    by_cases hlt : k < M
    · obtain ⟨m, hm⟩ : ∃ m, L[k]? = some m := ⟨L[k]'(by omega), List.getElem?_eq_getElem (by omega)⟩
      obtain ⟨g, rfl, m0, m1⟩ := HX.out.at_ hM.symm hm
      clear m1
      by_cases he : (m.n : Int) = n
      · have hfi : Hid (L.findIdx (pF n) = k) := ffind_here HF.out hm (by simp [pF, he])
        rw [he] at m0
        clear hm
        go_wp2_with fail
        go_ret
        rw [E.out, hfi.out, if_pos hlt]
        exact ⟨rfl, rfl⟩
      · have hfi : Hid (k + 1 ≤ L.findIdx (pF n)) := ffind_more HF.out hm (by simp [pF, he])
        clear hm
        generalize (m.n : Int) = mn at *
        go_wp2_with fail
        go_roundw
        case rel => exact ⟨k + 1, by omega, by go_num, trivial, hfi⟩
        case measure => simp [intOf]; omega
    · obtain rfl : k = M := by omega
      have hno : Hid (¬ L.findIdx (pF n) < k) := by
        show ¬ _
        have := HF.out
        omega
      go_wp2_with fail
      go_ret
      rw [E.out, if_neg hno.out]
      exact ⟨rfl, rfl⟩
theorem rhas12 (x : Rf w r rv N L) (n : Int) : Calls Try.prog 33 #[.pointer (some ⟨r, 0, none⟩), .int .i64 n] w fun e w' => e = .returned (.bool (hasF N L n)) ∧ w' = w := by
  have hf := rfind12 x n
  rw [← fI_has x.ok n]
  clear x
  generalize fI L n = k at *
  go_enter Try.func33, Try.ntmps33
  go_wp2_with fail
  refine hf.mono ?_
  rintro e w1 ⟨rfl, rfl⟩
  go_wp2_with fail
  go_ret
  exact ⟨rfl, rfl⟩
end
end Go.Proofs.Ytlphombjejgbiaa
namespace Go.Proofs.Ytlphombjejgbiaa
open Go.RowKit Go.Sort
set_option maxRecDepth 100000

/-- an entry's parent is whom it was derived from -/
theorem par_whr {N : Nat} {L : List Fe} (h : Fok N L) {e : Fe} (he : e ∈ L) : (e.p < 0 ∧ whr (kids L) N e.n = none) ∨ (∃ q : Nat, e.p = (q : Int) ∧ whr (kids L) N e.n = some q) := by
  by_cases hp : e.p < 0
  · refine .inl ⟨hp, whr_none_of fun k _ hm => ?_⟩
    obtain ⟨e', he', hp', hn'⟩ := mem_kids.1 hm
    have : e' ∈ L := he'
    -- one entry a node
    obtain ⟨l1, l2, rfl⟩ := List.append_of_mem he
    have nd := h.nod
    rw [nds_app, nds_cons] at nd
    have hee : e' = e := by
      rcases List.mem_append.1 he' with h1 | h1
      · exact absurd ((List.nodup_append.1 nd).2.2 e'.n (mem_nds.2 ⟨e', h1, rfl⟩) e.n (by simp)) (by omega)
      · rcases List.mem_cons.1 h1 with h1 | h1
        · exact h1
        · have h2 := (List.nodup_cons.1 (List.nodup_append.1 nd).2.1).1
          exact absurd (mem_nds.2 ⟨e', h1, by omega⟩) h2
    subst hee
    omega
  · have : e.n ∈ kids L e.p.toNat := mem_kids.2 ⟨e, he, by omega, rfl⟩
    exact .inr ⟨e.p.toNat, by omega, whr_of h this⟩
theorem par_none {N : Nat} {L : List Fe} {x : Int} (h : hasF N L x = false) : parI N L x = 0 ∧ parB N L x = false := by
  simp [parI, parB, h]
theorem par_at {N : Nat} {L : List Fe} (h : Fok N L) {e : Fe} (he : e ∈ L) : hasF N L (e.n : Int) = true ∧ ((e.p < 0 ∧ parI N L (e.n : Int) = 0 ∧ parB N L (e.n : Int) = false) ∨ (0 ≤ e.p ∧ parI N L (e.n : Int) = e.p ∧ parB N L (e.n : Int) = true)) := by
  have hm : e.n ∈ nds L := mem_nds.2 ⟨e, he, rfl⟩
  have hlt := h.lt _ hm
  have h1 : inR N (e.n : Int) = true := inR_iff.2 ⟨by omega, by omega⟩
  have h2 : hasF N L (e.n : Int) = true := by simp [hasF, h1, hm]
  refine ⟨h2, ?_⟩
  rcases par_whr h he with ⟨hp, hw⟩ | ⟨q, hp, hw⟩
  · exact .inl ⟨hp, by simp [parI, h2, ofI, h1, hw], by simp [parB, h2, ofB, h1, hw]⟩
  · exact .inr ⟨by omega, by simp [parI, h2, ofI, h1, hw, hp], by simp [parB, h2, ofB, h1, hw]⟩
theorem dpt_idx {N : Nat} {L : List Fe} (h : Fok N L) : ∀ n x, (nds L).idxOf x ≤ n → dpt N L x ≤ (nds L).idxOf x := by
  intro n
  induction n with
  | zero =>
    intro x hx
    cases hw : whr (kids L) N x with
    | none => rw [dpt_root hw]; omega
    | some p => have := (h.behind (whr_kid h hw)).2; omega
  | succ n ih =>
    intro x hx
    cases hw : whr (kids L) N x with
    | none => rw [dpt_root hw]; omega
    | some p =>
      have h1 := (h.behind (whr_kid h hw)).2
      have h2 := ih p (by omega)
      rw [dpt_up h hw]; omega
theorem dpt_lt {N : Nat} {L : List Fe} (h : Fok N L) {y : Nat} (hy : y ∈ nds L) : dpt N L y < L.length := by
  have h1 := dpt_idx h _ y (Nat.le_refl _)
  have h2 := List.idxOf_lt_length_of_mem hy
  rw [nds_len] at h2
  omega
theorem par_step {N : Nat} {L : List Fe} (h : Fok N L) {y : Nat} (hy : y ∈ nds L) : (parI N L (y : Int) = 0 ∧ parB N L (y : Int) = false ∧ dpt N L y = 0) ∨ (∃ p, p ∈ nds L ∧ parI N L (y : Int) = (p : Int) ∧ parB N L (y : Int) = true ∧ dpt N L y = dpt N L p + 1) := by
  obtain ⟨e, he, rfl⟩ := mem_nds.1 hy
  obtain ⟨_, hp⟩ := par_at h he
  rcases par_whr h he with ⟨h1, hw⟩ | ⟨q, h1, hw⟩
  · rcases hp with ⟨_, h2, h3⟩ | ⟨h2, _⟩
    · exact .inl ⟨h2, h3, dpt_root hw⟩
    · omega
  · rcases hp with ⟨h2, _⟩ | ⟨_, h2, h3⟩
    · omega
    · exact .inr ⟨q, (h.behind (whr_kid h hw)).1, by rw [h2, h1], h3, dpt_up h hw⟩
section
variable {w : World} {r : Nat} {rv : Value} {N : Nat} {L : List Fe}
set_option maxHeartbeats 2000000 in
theorem rparent12 (x : Rf w r rv N L) (n : Int) : Calls Try.prog 31 #[.pointer (some ⟨r, 0, none⟩), .int .i64 n] w fun e w' => e = .returned (.tuple #[.int .i64 (parI N L n), .bool (parB N L n)]) ∧ w' = w := by
  have hf := rfind12 x n
  have hlen : L.length ≤ 1024 := Nat.le_trans x.ok.len x.hN
  obtain ⟨a, cap, hv⟩ := x.form
  subst hv
  have c1 := x.c1
  by_cases hh : 0 ≤ fI L n
  · obtain ⟨k, e, hk, he, hn⟩ := fI_at x.ok n hh
    obtain ⟨_, hp⟩ := par_at x.ok (List.mem_of_getElem? he)
    rw [hn] at hp
    obtain ⟨g, rfl, m0, m1⟩ := x.at_ rfl he
    have hkl := (List.getElem?_eq_some_iff.1 he).1
    rw [hk] at hf
    have k0 : ¬ (k : Int) < 0 := by omega
    have k1 : decide ((k : Int) < 0) = false := by simp
    clear x hh hk he m0 hn
    generalize hM : L.length = M at *
    obtain ⟨p, hpe⟩ : ∃ p, e.p = p := ⟨_, rfl⟩
    rw [hpe] at hp m1
    clear hpe
    rcases hp with ⟨h1, h2, h3⟩ | ⟨h1, h2, h3⟩
    · rw [h2, h3]
      clear h2 h3
      go_enter Try.func31, Try.ntmps31
      go_wp2_with fail
      refine hf.mono ?_
      rintro e w1 ⟨rfl, rfl⟩
      go_wp2_with fail
      go_ret2
      exact ⟨rfl, rfl⟩
    · rw [h2, h3]
      have h4 : ¬ p < 0 := by omega
      clear h2 h3
      go_enter Try.func31, Try.ntmps31
      go_wp2_with fail
      refine hf.mono ?_
      rintro e w1 ⟨rfl, rfl⟩
      go_wp2_with fail
      go_ret2
      exact ⟨rfl, rfl⟩
  · have hno : hasF N L n = false := by rw [← fI_has x.ok n]; simp; omega
    rw [(par_none hno).1, (par_none hno).2]
    clear x hno c1
    generalize fI L n = k at *
    have k1 : k < 0 := by omega
    clear hh
    go_enter Try.func31, Try.ntmps31
    go_wp2_with fail
    refine hf.mono ?_
    rintro e w1 ⟨rfl, rfl⟩
    go_wp2_with fail
    go_ret2
    exact ⟨rfl, rfl⟩
set_option maxHeartbeats 1000000 in
theorem rasked12 (x : Rf w r rv N L) (n : Int) : Calls Try.prog 63 #[.pointer (some ⟨r, 0, none⟩), .int .i64 n] w fun e w' => e = .returned (.int .i64 (askE N L n)) ∧ w' = w := by
  have hi := ris12 x n
  have hh := rhas12 x n
  unfold askE
  unfold hasF at hh
  clear x
  generalize inR N n = bi at *
  generalize decide (n.toNat ∈ nds L) = bd at *
  cases bi
  · show Calls _ _ _ _ (fun e w' => e = .returned (.int .i64 120) ∧ w' = w)
    go_enter Try.func63, Try.ntmps63
    go_wp2_with fail
    refine hi.mono ?_
    rintro e w1 ⟨rfl, rfl⟩
    go_wp2_with fail
    go_ret
    exact ⟨rfl, rfl⟩
  · rw [Bool.true_and] at hh
    cases bd
    · show Calls _ _ _ _ (fun e w' => e = .returned (.int .i64 122) ∧ w' = w)
      go_enter Try.func63, Try.ntmps63
      go_wp2_with fail
      refine hi.mono ?_
      rintro e w1 ⟨rfl, rfl⟩
      go_wp2_with fail
      refine hh.mono ?_
      rintro e w1 ⟨rfl, rfl⟩
      go_wp2_with fail
      go_ret
      exact ⟨rfl, rfl⟩
    · show Calls _ _ _ _ (fun e w' => e = .returned (.int .i64 0) ∧ w' = w)
      go_enter Try.func63, Try.ntmps63
      go_wp2_with fail
      refine hi.mono ?_
      rintro e w1 ⟨rfl, rfl⟩
      go_wp2_with fail
      refine hh.mono ?_
      rintro e w1 ⟨rfl, rfl⟩
      go_wp2_with fail
      go_ret
      exact ⟨rfl, rfl⟩
set_option maxHeartbeats 2000000 in
theorem rdepth12 (x : Rf w r rv N L) (n : Int) : Calls Try.prog 35 #[.pointer (some ⟨r, 0, none⟩), .int .i64 n] w fun e w' => e = .returned (.int .i64 (dptI N L n)) ∧ w' = w := by
  have hh := rhas12 x n
  have hpar := fun y => rparent12 x y
  have hlen : L.length ≤ 1024 := Nat.le_trans x.ok.len x.hN
  obtain ⟨a, cap, hv⟩ := x.form
  subst hv
  have c1 := x.c1
  unfold dptI
  cases hb : hasF N L n
  · rw [hb] at hh
    show Calls _ _ _ _ (fun e w' => e = .returned (.int .i64 (-1)) ∧ w' = w)
    clear x hpar c1
    go_enter Try.func35, Try.ntmps35
    go_wp2_with fail
    refine hh.mono ?_
    rintro e w1 ⟨rfl, rfl⟩
    go_wp2_with fail
    go_ret
    exact ⟨rfl, rfl⟩
  · rw [hb] at hh
    have HD : Hid (∃ y : Nat, (y : Int) = n ∧ y ∈ nds L ∧ dpt N L n.toNat = dpt N L y) := by
      unfold hasF at hb
      rw [Bool.and_eq_true] at hb
      obtain ⟨h1, h2⟩ := inR_iff.1 hb.1
      exact ⟨n.toNat, by omega, by simpa using hb.2, rfl⟩
    have HOK : Hid (Fok N L) := x.ok
    rw [if_pos rfl]
    obtain ⟨D, hD⟩ : ∃ D, dpt N L n.toNat = D := ⟨_, rfl⟩
    rw [hD] at HD ⊢
    -- how far it goes is bounded by the number of entries
    have HLE : Hid (∀ y, y ∈ nds L → dpt N L y < L.length) := fun y hy => dpt_lt HOK.out hy
    clear x hD hb
    generalize hM : L.length = M at *
    obtain ⟨y0, hy0, hym, hyd⟩ := HD.out
    have HY : Hid (y0 ∈ nds L ∧ D = dpt N L y0) := ⟨hym, hyd⟩
    subst hy0
    clear hym hyd HD
    have HP : Hid (∀ y, Calls Try.prog 31 #[.pointer (some ⟨r, 0, none⟩), .int .i64 y] w fun e w' => e = .returned (.tuple #[.int .i64 (parI N L y), .bool (parB N L y)]) ∧ w' = w) := hpar
    go_enter Try.func35, Try.ntmps35
    go_wp2_with fail
    refine hh.mono ?_
    rintro e w1 ⟨rfl, rfl⟩
    have hp0 := hpar (y0 : Int)
    clear hpar
    obtain ⟨q, hq⟩ : ∃ q, parI N L (y0 : Int) = q := ⟨_, rfl⟩
    obtain ⟨b, hbq⟩ : ∃ b, parB N L (y0 : Int) = b := ⟨_, rfl⟩
    rw [hq, hbq] at hp0
    have HI : Hid (∃ y : Nat, y ∈ nds L ∧ parI N L (y : Int) = q ∧ parB N L (y : Int) = b ∧ D = 0 + dpt N L y) := ⟨y0, HY.out.1, hq, hbq, by rw [HY.out.2]; omega⟩
    clear hq hbq
    go_wp2_with fail
    refine hp0.mono ?_
    rintro e w1 ⟨rfl, rfl⟩
    clear hp0
    go_wp2_with fail
    go_loopw [5, 6, 7] (fun vd vp vb wr => wr = w1 ∧ ∃ (d : Nat) (q : Int) (b : Bool), vd = .int .i64 d ∧ vp = .int .i64 q ∧ vb = .bool b ∧ Hid (∃ y : Nat, y ∈ nds L ∧ parI N L (y : Int) = q ∧ parB N L (y : Int) = b ∧ D = d + dpt N L y)) (fun vd _ _ _ => M - (intOf vd).toNat)
    case atStart => exact ⟨rfl, 0, q, b, rfl, rfl, rfl, HI.out⟩
    case round =>
      obtain ⟨rfl, d, q, b, rfl, rfl, rfl, HI2⟩ := hrel
      obtain ⟨y, hy, h1, h2, h3⟩ := HI2.out
      have hdM : d < M := by have := HLE.out y0 HY.out.1; have := HY.out.2; omega
      have hle1 : (d : Int) ≤ (M : Int) := by omega
      rcases par_step HOK.out hy with ⟨p1, p2, p3⟩ | ⟨p, hp, p1, p2, p3⟩
      · obtain rfl : b = false := by rw [← h2, p2]
        have hE : Hid (D = d) := by show _ = _; omega
        clear HI2 h1 h2 h3 p1 p2 p3
        go_wp2_with fail
        go_ret
        rw [hE.out]
        exact ⟨rfl, rfl⟩
      · obtain rfl : b = true := by rw [← h2, p2]
        obtain rfl : q = (p : Int) := by rw [← h1, p1]
        have hc := HP.out (p : Int)
        obtain ⟨q2, hq⟩ : ∃ q, parI N L (p : Int) = q := ⟨_, rfl⟩
        obtain ⟨b2, hbq⟩ : ∃ b, parB N L (p : Int) = b := ⟨_, rfl⟩
        rw [hq, hbq] at hc
        have HI3 : Hid (∃ y : Nat, y ∈ nds L ∧ parI N L (y : Int) = q2 ∧ parB N L (y : Int) = b2 ∧ D = (d + 1 : Nat) + dpt N L y) := ⟨p, hp, hq, hbq, by omega⟩
        clear HI2 h1 h2 h3 p1 p2 p3 hq hbq
        go_wp2_with fail
        refine hc.mono ?_
        rintro e w1 ⟨rfl, rfl⟩
        clear hc
        go_wp2_with fail
        go_roundw
        case rel => exact ⟨trivial, d + 1, q2, b2, by go_num, rfl, rfl, HI3.out⟩
        case measure => simp [intOf]; omega
end
end Go.Proofs.Ytlphombjejgbiaa
namespace Go.Proofs.Ytlphombjejgbiaa
open Go.RowKit
set_option maxRecDepth 100000

theorem eltBe : Elt 35 3 1 8 (.int .i64 0) := ⟨Try.underlying35, by kernel_rfl, rfl, by decide, by decide⟩
theorem run_b1 {o : Oper} {t : Nat} {y : Int} (hop : o.op = .buildSlice 35 1 #[(0, .tmp t)]) (a : Act) (W : World) (hx : a.tmps[t]? = some (.int .i64 y)) : (execOp a.eval o).run Try.prog W = .ok (.value (.slice (some ⟨W.heap.size, 0, none⟩) 1 1)) (W.alloc (.cells [.int .i64 y].toArray 3)) := by
  obtain ⟨d, op, ty, pos, aft, gd⟩ := o
  simp only at hop
  subst hop
  go_simp
theorem run_bc {o : Oper} {r c : Nat} (hop : o.op = .call { callee := .value (.func 11), args := #[.tmp 41, .tmp 49], argTypes := #[28, 3] }) (a : Act) (W : World) (h1 : a.tmps[41]? = some (.pointer (some ⟨r, 0, none⟩))) (h2 : a.tmps[49]? = some (.int .i64 (c : Int))) : (execOp a.eval o).run Try.prog W = .ok (.enter 11 #[.pointer (some ⟨r, 0, none⟩), .int .i64 (c : Int)]) W := by
  obtain ⟨d, op, ty, pos, aft, gd⟩ := o
  simp only at hop
  subst hop
  go_simp
theorem encL_one (T : List Nat) : ∀ y ∈ encL T, y.oneCell' = true := by
  intro y hy
  obtain ⟨x, _, rfl⟩ := List.mem_map.1 hy
  rfl
/-- the last ones wait for all before them, one behind the other -/
theorem wp_region_tail {P : Program} {id : Nat} {Q : Exit → Act → World → Prop} {a : Act} {w : World} {l1 : List Oper} (n : Nat) (S : World → Prop) (hm : P.follows .mixedOrders = true) (hok : tailOk (l1.take n) (l1.drop n) = true)
    (h : wpAnyH P .any (l1.take n).toArray (tailQ P Q (l1.drop n)) S (l1.take n).length (Array.replicate (l1.take n).length false) a w.drew) : (Code.region id l1.toArray true).wp P Q a w := by
  refine wp_region_any hm ?_
  have h1 := split_tail (l1.drop n) (l1.take n) a w.drew hok (wpAny_of_held _ _ _ _ h)
  rw [List.take_append_drop] at h1
  simpa using h1
set_option maxHeartbeats 2000000 in
theorem bel_region {id : Nat} {Q : Exit → Act → World → Prop} {a : Act} {w : World} {l1 : List Oper} {o0 o1 o2 o3 o4 o5 o6 o7 o8 o9 o10 o11 o12 o13 o14 o15 o16 o17 o18 o19 o20 o21 o22 : Oper} {w0 : World} {r g N cv i c : Nat} {V1 : Value} {T1 T2 : List Nat} (hl1 : l1.take 23 = [o0, o1, o2, o3, o4, o5, o6, o7, o8, o9, o10, o11, o12, o13, o14, o15, o16, o17, o18, o19, o20, o21, o22]) (hlast : l1.drop 23 = [])
    (hok : tailOk (l1.take 23) (l1.drop 23) = true) (hns : Region.noSelect [o0, o1, o2, o3, o4, o5, o6, o7, o8, o9, o10, o11, o12, o13, o14, o15, o16, o17, o18, o19, o20, o21, o22].toArray = true) (htk : takesOk [o0, o1, o2, o3, o4, o5, o6, o7, o8, o9, o10, o11, o12, o13, o14, o15, o16, o17, o18, o19, o20, o21, o22].toArray [0, 1, 2, 3, 4, 5, 6, 7, 8, 11, 12, 13, 14, 15, 16, 17, 18, 19] (Array.replicate 23 false) = true)
    (p0 : o0.op = .move (.tmp 5)) (p1 : o1.op = .move (.tmp 0)) (p2 : o2.op = .nilCheck (.tmp 31)) (p3 : o3.op = .fieldAddr 72 (.tmp 32) 1) (p4 : o4.op = .load 70 (.tmp 33)) (p5 : o5.op = .move (.tmp 6)) (p6 : o6.op = .indexAddr 70 (.tmp 34) (.tmp 35)) (p7 : o7.op = .fieldAddr 81 (.tmp 36) 0) (p8 : o8.op = .load 3 (.tmp 37)) (p9 : o9.op = .buildSlice 35 1 #[(0, .tmp 38)]) (p10 : o10.op = .call { callee := .builtin .append, args := #[.tmp 30, .tmp 39], argTypes := #[35, 35] }) (p11 : o11.op = .move (.tmp 0)) (p12 : o12.op = .move (.tmp 0)) (p13 : o13.op = .nilCheck (.tmp 42)) (p14 : o14.op = .fieldAddr 72 (.tmp 43) 1) (p15 : o15.op = .load 70 (.tmp 44)) (p16 : o16.op = .move (.tmp 6)) (p17 : o17.op = .indexAddr 70 (.tmp 45) (.tmp 46)) (p18 : o18.op = .fieldAddr 81 (.tmp 47) 0) (p19 : o19.op = .load 3 (.tmp 48)) (p20 : o20.op = .call { callee := .value (.func 11), args := #[.tmp 41, .tmp 49], argTypes := #[28, 3] }) (p21 : o21.op = .call { callee := .builtin .append, args := #[.tmp 40, .tmp 50], argTypes := #[35, 35] }) (p22 : o22.op = .assign (.tmp 51)) 
    (g9 : o9.guard = none) (g10 : o10.guard = none) (g20 : o20.guard = none) (g21 : o21.guard = none) (g22 : o22.guard = none)
    (t0 : o0.dst = some 30) (t1 : o1.dst = some 31) (t2 : o2.dst = some 32) (t3 : o3.dst = some 33) (t4 : o4.dst = some 34) (t5 : o5.dst = some 35) (t6 : o6.dst = some 36) (t7 : o7.dst = some 37) (t8 : o8.dst = some 38) (t9 : o9.dst = some 39) (t10 : o10.dst = some 40) (t11 : o11.dst = some 41) (t12 : o12.dst = some 42) (t13 : o13.dst = some 43) (t14 : o14.dst = some 44) (t15 : o15.dst = some 45) (t16 : o16.dst = some 46) (t17 : o17.dst = some 47) (t18 : o18.dst = some 48) (t19 : o19.dst = some 49) (t20 : o20.dst = some 50) (t21 : o21.dst = some 51) (t22 : o22.dst = some 5) 
    (hsz : a.tmps.size = 53)
    (h0 : a.tmps[0]? = some (.pointer (some ⟨r, 0, none⟩))) (h5 : a.tmps[5]? = some V1) (h6 : a.tmps[6]? = some (.int .i64 (i : Int))) (hi : i < N) (c1 : w0.cell? ⟨r, 1, none⟩ = some (.slice (some ⟨g, 0, none⟩) N cv)) (cy : w0.cell? ⟨g, i * 2, none⟩ = some (.int .i64 (c : Int)))
    (ow1 : w.ownsRow w0.heap.size 3 1 V1 T1.length (encL T1)) (hbd : T1.length + 1 + T2.length ≤ 100000) (hbw : Below w0.heap.size w0 w)
    (hcall : ∀ W, Below w0.heap.size w0 W → Calls Try.prog 11 #[.pointer (some ⟨r, 0, none⟩), .int .i64 (c : Int)] W fun e w' => ∃ v, e = .returned v ∧ w'.ownsRow W.heap.size 3 1 v T2.length (encL T2) ∧ Below W.heap.size W w')
    (r0 : Region.ready .any [o0, o1, o2, o3, o4, o5, o6, o7, o8, o9, o10, o11, o12, o13, o14, o15, o16, o17, o18, o19, o20, o21, o22].toArray (#[true, true, true, true, true, true, true, true, true, false, false, true, true, true, true, true, true, true, true, true, false, false, false] : Array Bool) = [9]) (r1 : Region.ready .any [o0, o1, o2, o3, o4, o5, o6, o7, o8, o9, o10, o11, o12, o13, o14, o15, o16, o17, o18, o19, o20, o21, o22].toArray ((#[true, true, true, true, true, true, true, true, true, false, false, true, true, true, true, true, true, true, true, true, false, false, false] : Array Bool).setIfInBounds 9 true) = [10]) (r2 : Region.ready .any [o0, o1, o2, o3, o4, o5, o6, o7, o8, o9, o10, o11, o12, o13, o14, o15, o16, o17, o18, o19, o20, o21, o22].toArray (((#[true, true, true, true, true, true, true, true, true, false, false, true, true, true, true, true, true, true, true, true, false, false, false] : Array Bool).setIfInBounds 9 true).setIfInBounds 10 true) = [20]) (r3 : Region.ready .any [o0, o1, o2, o3, o4, o5, o6, o7, o8, o9, o10, o11, o12, o13, o14, o15, o16, o17, o18, o19, o20, o21, o22].toArray ((((#[true, true, true, true, true, true, true, true, true, false, false, true, true, true, true, true, true, true, true, true, false, false, false] : Array Bool).setIfInBounds 9 true).setIfInBounds 10 true).setIfInBounds 20 true) = [21]) (r4 : Region.ready .any [o0, o1, o2, o3, o4, o5, o6, o7, o8, o9, o10, o11, o12, o13, o14, o15, o16, o17, o18, o19, o20, o21, o22].toArray (((((#[true, true, true, true, true, true, true, true, true, false, false, true, true, true, true, true, true, true, true, true, false, false, false] : Array Bool).setIfInBounds 9 true).setIfInBounds 10 true).setIfInBounds 20 true).setIfInBounds 21 true) = [22]) (r5 : Region.ready .any [o0, o1, o2, o3, o4, o5, o6, o7, o8, o9, o10, o11, o12, o13, o14, o15, o16, o17, o18, o19, o20, o21, o22].toArray ((((((#[true, true, true, true, true, true, true, true, true, false, false, true, true, true, true, true, true, true, true, true, false, false, false] : Array Bool).setIfInBounds 9 true).setIfInBounds 10 true).setIfInBounds 20 true).setIfInBounds 21 true).setIfInBounds 22 true) = [])
    (hQ : ∀ c a d v w, Q (.panic c) (Act.put a d v) w → Q (.panic c) a w)
    (fin : ∀ vA vB vC vD W', W'.ownsRow w0.heap.size 3 1 vD (T1.length + 1 + T2.length) (encL (T1 ++ c :: T2)) → Below w0.heap.size w0 W' → Q .normal ((((((((((((((((((((((((a.put (some 30) (V1)).put (some 31) (.pointer (some ⟨r, 0, none⟩))).put (some 32) (.pointer (some ⟨r, 0, none⟩))).put (some 33) (.pointer (some ⟨r, 1, none⟩))).put (some 34) (.slice (some ⟨g, 0, none⟩) N cv)).put (some 35) (.int .i64 (i : Int))).put (some 36) (.pointer (some ⟨g, i * 2, none⟩))).put (some 37) (.pointer (some ⟨g, i * 2, none⟩))).put (some 38) (.int .i64 (c : Int))).put (some 41) (.pointer (some ⟨r, 0, none⟩))).put (some 42) (.pointer (some ⟨r, 0, none⟩))).put (some 43) (.pointer (some ⟨r, 0, none⟩))).put (some 44) (.pointer (some ⟨r, 1, none⟩))).put (some 45) (.slice (some ⟨g, 0, none⟩) N cv)).put (some 46) (.int .i64 (i : Int))).put (some 47) (.pointer (some ⟨g, i * 2, none⟩))).put (some 48) (.pointer (some ⟨g, i * 2, none⟩))).put (some 49) (.int .i64 (c : Int))).put (some 39) vA).put (some 40) vB).put (some 50) vC).put (some 51) vD)).put (some 5) vD) W') :
    (Code.region id l1.toArray true).wp Try.prog Q a w := by
  obtain ⟨af, haf⟩ : ∃ af, af = ((((((((((((((((((a.put (some 30) (V1)).put (some 31) (.pointer (some ⟨r, 0, none⟩))).put (some 32) (.pointer (some ⟨r, 0, none⟩))).put (some 33) (.pointer (some ⟨r, 1, none⟩))).put (some 34) (.slice (some ⟨g, 0, none⟩) N cv)).put (some 35) (.int .i64 (i : Int))).put (some 36) (.pointer (some ⟨g, i * 2, none⟩))).put (some 37) (.pointer (some ⟨g, i * 2, none⟩))).put (some 38) (.int .i64 (c : Int))).put (some 41) (.pointer (some ⟨r, 0, none⟩))).put (some 42) (.pointer (some ⟨r, 0, none⟩))).put (some 43) (.pointer (some ⟨r, 0, none⟩))).put (some 44) (.pointer (some ⟨r, 1, none⟩))).put (some 45) (.slice (some ⟨g, 0, none⟩) N cv)).put (some 46) (.int .i64 (i : Int))).put (some 47) (.pointer (some ⟨g, i * 2, none⟩))).put (some 48) (.pointer (some ⟨g, i * 2, none⟩))).put (some 49) (.int .i64 (c : Int))) := ⟨_, rfl⟩
  rw [← haf] at fin
  have fsz : af.tmps.size = 53 := by rw [haf]; simp only [gput_sz]; exact hsz
  have f5 : af.tmps[5]? = some (V1) := by rw [haf]; rw [gput_ne (by decide), gput_ne (by decide), gput_ne (by decide), gput_ne (by decide), gput_ne (by decide), gput_ne (by decide), gput_ne (by decide), gput_ne (by decide), gput_ne (by decide), gput_ne (by decide), gput_ne (by decide), gput_ne (by decide), gput_ne (by decide), gput_ne (by decide), gput_ne (by decide), gput_ne (by decide), gput_ne (by decide), gput_ne (by decide)]; exact h5
  have f6 : af.tmps[6]? = some (.int .i64 (i : Int)) := by rw [haf]; rw [gput_ne (by decide), gput_ne (by decide), gput_ne (by decide), gput_ne (by decide), gput_ne (by decide), gput_ne (by decide), gput_ne (by decide), gput_ne (by decide), gput_ne (by decide), gput_ne (by decide), gput_ne (by decide), gput_ne (by decide), gput_ne (by decide), gput_ne (by decide), gput_ne (by decide), gput_ne (by decide), gput_ne (by decide), gput_ne (by decide)]; exact h6
  have f0 : af.tmps[0]? = some (.pointer (some ⟨r, 0, none⟩)) := by rw [haf]; rw [gput_ne (by decide), gput_ne (by decide), gput_ne (by decide), gput_ne (by decide), gput_ne (by decide), gput_ne (by decide), gput_ne (by decide), gput_ne (by decide), gput_ne (by decide), gput_ne (by decide), gput_ne (by decide), gput_ne (by decide), gput_ne (by decide), gput_ne (by decide), gput_ne (by decide), gput_ne (by decide), gput_ne (by decide), gput_ne (by decide)]; exact h0
  have f30 : af.tmps[30]? = some (V1) := by rw [haf]; rw [gput_ne (by decide), gput_ne (by decide), gput_ne (by decide), gput_ne (by decide), gput_ne (by decide), gput_ne (by decide), gput_ne (by decide), gput_ne (by decide), gput_ne (by decide), gput_ne (by decide), gput_ne (by decide), gput_ne (by decide), gput_ne (by decide), gput_ne (by decide), gput_ne (by decide), gput_ne (by decide), gput_ne (by decide), gput_at (by first | (rw [hsz]; decide) | (simp only [gput_sz]; rw [hsz]; decide))]
  have f31 : af.tmps[31]? = some (.pointer (some ⟨r, 0, none⟩)) := by rw [haf]; rw [gput_ne (by decide), gput_ne (by decide), gput_ne (by decide), gput_ne (by decide), gput_ne (by decide), gput_ne (by decide), gput_ne (by decide), gput_ne (by decide), gput_ne (by decide), gput_ne (by decide), gput_ne (by decide), gput_ne (by decide), gput_ne (by decide), gput_ne (by decide), gput_ne (by decide), gput_ne (by decide), gput_at (by first | (rw [hsz]; decide) | (simp only [gput_sz]; rw [hsz]; decide))]
  have f32 : af.tmps[32]? = some (.pointer (some ⟨r, 0, none⟩)) := by rw [haf]; rw [gput_ne (by decide), gput_ne (by decide), gput_ne (by decide), gput_ne (by decide), gput_ne (by decide), gput_ne (by decide), gput_ne (by decide), gput_ne (by decide), gput_ne (by decide), gput_ne (by decide), gput_ne (by decide), gput_ne (by decide), gput_ne (by decide), gput_ne (by decide), gput_ne (by decide), gput_at (by first | (rw [hsz]; decide) | (simp only [gput_sz]; rw [hsz]; decide))]
  have f33 : af.tmps[33]? = some (.pointer (some ⟨r, 1, none⟩)) := by rw [haf]; rw [gput_ne (by decide), gput_ne (by decide), gput_ne (by decide), gput_ne (by decide), gput_ne (by decide), gput_ne (by decide), gput_ne (by decide), gput_ne (by decide), gput_ne (by decide), gput_ne (by decide), gput_ne (by decide), gput_ne (by decide), gput_ne (by decide), gput_ne (by decide), gput_at (by first | (rw [hsz]; decide) | (simp only [gput_sz]; rw [hsz]; decide))]
  have f34 : af.tmps[34]? = some (.slice (some ⟨g, 0, none⟩) N cv) := by rw [haf]; rw [gput_ne (by decide), gput_ne (by decide), gput_ne (by decide), gput_ne (by decide), gput_ne (by decide), gput_ne (by decide), gput_ne (by decide), gput_ne (by decide), gput_ne (by decide), gput_ne (by decide), gput_ne (by decide), gput_ne (by decide), gput_ne (by decide), gput_at (by first | (rw [hsz]; decide) | (simp only [gput_sz]; rw [hsz]; decide))]
  have f35 : af.tmps[35]? = some (.int .i64 (i : Int)) := by rw [haf]; rw [gput_ne (by decide), gput_ne (by decide), gput_ne (by decide), gput_ne (by decide), gput_ne (by decide), gput_ne (by decide), gput_ne (by decide), gput_ne (by decide), gput_ne (by decide), gput_ne (by decide), gput_ne (by decide), gput_ne (by decide), gput_at (by first | (rw [hsz]; decide) | (simp only [gput_sz]; rw [hsz]; decide))]
  have f36 : af.tmps[36]? = some (.pointer (some ⟨g, i * 2, none⟩)) := by rw [haf]; rw [gput_ne (by decide), gput_ne (by decide), gput_ne (by decide), gput_ne (by decide), gput_ne (by decide), gput_ne (by decide), gput_ne (by decide), gput_ne (by decide), gput_ne (by decide), gput_ne (by decide), gput_ne (by decide), gput_at (by first | (rw [hsz]; decide) | (simp only [gput_sz]; rw [hsz]; decide))]
  have f37 : af.tmps[37]? = some (.pointer (some ⟨g, i * 2, none⟩)) := by rw [haf]; rw [gput_ne (by decide), gput_ne (by decide), gput_ne (by decide), gput_ne (by decide), gput_ne (by decide), gput_ne (by decide), gput_ne (by decide), gput_ne (by decide), gput_ne (by decide), gput_ne (by decide), gput_at (by first | (rw [hsz]; decide) | (simp only [gput_sz]; rw [hsz]; decide))]
  have f38 : af.tmps[38]? = some (.int .i64 (c : Int)) := by rw [haf]; rw [gput_ne (by decide), gput_ne (by decide), gput_ne (by decide), gput_ne (by decide), gput_ne (by decide), gput_ne (by decide), gput_ne (by decide), gput_ne (by decide), gput_ne (by decide), gput_at (by first | (rw [hsz]; decide) | (simp only [gput_sz]; rw [hsz]; decide))]
  have f41 : af.tmps[41]? = some (.pointer (some ⟨r, 0, none⟩)) := by rw [haf]; rw [gput_ne (by decide), gput_ne (by decide), gput_ne (by decide), gput_ne (by decide), gput_ne (by decide), gput_ne (by decide), gput_ne (by decide), gput_ne (by decide), gput_at (by first | (rw [hsz]; decide) | (simp only [gput_sz]; rw [hsz]; decide))]
  have f42 : af.tmps[42]? = some (.pointer (some ⟨r, 0, none⟩)) := by rw [haf]; rw [gput_ne (by decide), gput_ne (by decide), gput_ne (by decide), gput_ne (by decide), gput_ne (by decide), gput_ne (by decide), gput_ne (by decide), gput_at (by first | (rw [hsz]; decide) | (simp only [gput_sz]; rw [hsz]; decide))]
  have f43 : af.tmps[43]? = some (.pointer (some ⟨r, 0, none⟩)) := by rw [haf]; rw [gput_ne (by decide), gput_ne (by decide), gput_ne (by decide), gput_ne (by decide), gput_ne (by decide), gput_ne (by decide), gput_at (by first | (rw [hsz]; decide) | (simp only [gput_sz]; rw [hsz]; decide))]
  have f44 : af.tmps[44]? = some (.pointer (some ⟨r, 1, none⟩)) := by rw [haf]; rw [gput_ne (by decide), gput_ne (by decide), gput_ne (by decide), gput_ne (by decide), gput_ne (by decide), gput_at (by first | (rw [hsz]; decide) | (simp only [gput_sz]; rw [hsz]; decide))]
  have f45 : af.tmps[45]? = some (.slice (some ⟨g, 0, none⟩) N cv) := by rw [haf]; rw [gput_ne (by decide), gput_ne (by decide), gput_ne (by decide), gput_ne (by decide), gput_at (by first | (rw [hsz]; decide) | (simp only [gput_sz]; rw [hsz]; decide))]
  have f46 : af.tmps[46]? = some (.int .i64 (i : Int)) := by rw [haf]; rw [gput_ne (by decide), gput_ne (by decide), gput_ne (by decide), gput_at (by first | (rw [hsz]; decide) | (simp only [gput_sz]; rw [hsz]; decide))]
  have f47 : af.tmps[47]? = some (.pointer (some ⟨g, i * 2, none⟩)) := by rw [haf]; rw [gput_ne (by decide), gput_ne (by decide), gput_at (by first | (rw [hsz]; decide) | (simp only [gput_sz]; rw [hsz]; decide))]
  have f48 : af.tmps[48]? = some (.pointer (some ⟨g, i * 2, none⟩)) := by rw [haf]; rw [gput_ne (by decide), gput_at (by first | (rw [hsz]; decide) | (simp only [gput_sz]; rw [hsz]; decide))]
  have f49 : af.tmps[49]? = some (.int .i64 (c : Int)) := by rw [haf]; rw [gput_at (by first | (rw [hsz]; decide) | (simp only [gput_sz]; rw [hsz]; decide))]
  have HS : Below w0.heap.size w0 w.drew := hbw.drew
  refine wp_region_tail 23 (fun W => Below w0.heap.size w0 W) (by kernel_rfl) hok ?_
  rw [hl1, hlast]
  have hput : putIdx af [o0, o1, o2, o3, o4, o5, o6, o7, o8, o9, o10, o11, o12, o13, o14, o15, o16, o17, o18, o19, o20, o21, o22].toArray [0, 1, 2, 3, 4, 5, 6, 7, 8, 11, 12, 13, 14, 15, 16, 17, 18, 19] a = af := by
    have e : putIdx af [o0, o1, o2, o3, o4, o5, o6, o7, o8, o9, o10, o11, o12, o13, o14, o15, o16, o17, o18, o19, o20, o21, o22].toArray [0, 1, 2, 3, 4, 5, 6, 7, 8, 11, 12, 13, 14, 15, 16, 17, 18, 19] a = ((((((((((((((((((a.put (some 30) (V1)).put (some 31) (.pointer (some ⟨r, 0, none⟩))).put (some 32) (.pointer (some ⟨r, 0, none⟩))).put (some 33) (.pointer (some ⟨r, 1, none⟩))).put (some 34) (.slice (some ⟨g, 0, none⟩) N cv)).put (some 35) (.int .i64 (i : Int))).put (some 36) (.pointer (some ⟨g, i * 2, none⟩))).put (some 37) (.pointer (some ⟨g, i * 2, none⟩))).put (some 38) (.int .i64 (c : Int))).put (some 41) (.pointer (some ⟨r, 0, none⟩))).put (some 42) (.pointer (some ⟨r, 0, none⟩))).put (some 43) (.pointer (some ⟨r, 0, none⟩))).put (some 44) (.pointer (some ⟨r, 1, none⟩))).put (some 45) (.slice (some ⟨g, 0, none⟩) N cv)).put (some 46) (.int .i64 (i : Int))).put (some 47) (.pointer (some ⟨g, i * 2, none⟩))).put (some 48) (.pointer (some ⟨g, i * 2, none⟩))).put (some 49) (.int .i64 (c : Int))) := by
      simp only [putIdx, List.getElem?_toArray, List.getElem?_cons_succ, List.getElem?_cons_zero, Option.bind_some, t0, t1, t2, t3, t4, t5, t6, t7, t8, t11, t12, t13, t14, t15, t16, t17, t18, t19, ggetD f30, ggetD f31, ggetD f32, ggetD f33, ggetD f34, ggetD f35, ggetD f36, ggetD f37, ggetD f38, ggetD f41, ggetD f42, ggetD f43, ggetD f44, ggetD f45, ggetD f46, ggetD f47, ggetD f48, ggetD f49]
    rw [e, haf]
  refine takes (P := Try.prog) (Q := tailQ Try.prog Q []) (S := fun W => Below w0.heap.size w0 W) (idx := [0, 1, 2, 3, 4, 5, 6, 7, 8, 11, 12, 13, 14, 15, 16, 17, 18, 19]) (af := af) (fuel := 5) hns (fun c a d v w h => hQ c a d v w h) HS _ _ htk hput ?_ ?_
  · refine ⟨⟨o0, 30, _, rfl, t0, f30, ?_⟩, ⟨o1, 31, _, rfl, t1, f31, ?_⟩, ⟨o2, 32, _, rfl, t2, f32, ?_⟩, ⟨o3, 33, _, rfl, t3, f33, ?_⟩, ⟨o4, 34, _, rfl, t4, f34, ?_⟩, ⟨o5, 35, _, rfl, t5, f35, ?_⟩, ⟨o6, 36, _, rfl, t6, f36, ?_⟩, ⟨o7, 37, _, rfl, t7, f37, ?_⟩, ⟨o8, 38, _, rfl, t8, f38, ?_⟩, ⟨o11, 41, _, rfl, t11, f41, ?_⟩, ⟨o12, 42, _, rfl, t12, f42, ?_⟩, ⟨o13, 43, _, rfl, t13, f43, ?_⟩, ⟨o14, 44, _, rfl, t14, f44, ?_⟩, ⟨o15, 45, _, rfl, t15, f45, ?_⟩, ⟨o16, 46, _, rfl, t16, f46, ?_⟩, ⟨o17, 47, _, rfl, t17, f47, ?_⟩, ⟨o18, 48, _, rfl, t18, f48, ?_⟩, ⟨o19, 49, _, rfl, t19, f49, ?_⟩, trivial⟩
    · intro W hW
      have i3 : (0 : Int) ≤ (i : Int) := by omega
      have i4 : (i : Int) < (N : Int) := by omega
      have k1 := (hW.cell (p := ⟨r, 1, none⟩) (gcell_lt c1)).trans c1
      have kF := (hW.cell (p := ⟨g, i * 2, none⟩) (gcell_lt cy)).trans cy
      clear fin haf hput htk hns hok fsz hsz hQ r0 r1 r2 r3 r4 r5 h5 h6 h0 c1 cy HS ow1 hbw hcall
      obtain ⟨d, op, ty, pos, aft, gd⟩ := o0
      simp only at p0
      subst p0
      go_simp
    · intro W hW
      have i3 : (0 : Int) ≤ (i : Int) := by omega
      have i4 : (i : Int) < (N : Int) := by omega
      have k1 := (hW.cell (p := ⟨r, 1, none⟩) (gcell_lt c1)).trans c1
      have kF := (hW.cell (p := ⟨g, i * 2, none⟩) (gcell_lt cy)).trans cy
      clear fin haf hput htk hns hok fsz hsz hQ r0 r1 r2 r3 r4 r5 h5 h6 h0 c1 cy HS ow1 hbw hcall
      obtain ⟨d, op, ty, pos, aft, gd⟩ := o1
      simp only at p1
      subst p1
      go_simp
    · intro W hW
      have i3 : (0 : Int) ≤ (i : Int) := by omega
      have i4 : (i : Int) < (N : Int) := by omega
      have k1 := (hW.cell (p := ⟨r, 1, none⟩) (gcell_lt c1)).trans c1
      have kF := (hW.cell (p := ⟨g, i * 2, none⟩) (gcell_lt cy)).trans cy
      clear fin haf hput htk hns hok fsz hsz hQ r0 r1 r2 r3 r4 r5 h5 h6 h0 c1 cy HS ow1 hbw hcall
      obtain ⟨d, op, ty, pos, aft, gd⟩ := o2
      simp only at p2
      subst p2
      go_simp
    · intro W hW
      have i3 : (0 : Int) ≤ (i : Int) := by omega
      have i4 : (i : Int) < (N : Int) := by omega
      have k1 := (hW.cell (p := ⟨r, 1, none⟩) (gcell_lt c1)).trans c1
      have kF := (hW.cell (p := ⟨g, i * 2, none⟩) (gcell_lt cy)).trans cy
      clear fin haf hput htk hns hok fsz hsz hQ r0 r1 r2 r3 r4 r5 h5 h6 h0 c1 cy HS ow1 hbw hcall
      obtain ⟨d, op, ty, pos, aft, gd⟩ := o3
      simp only at p3
      subst p3
      go_simp
    · intro W hW
      have i3 : (0 : Int) ≤ (i : Int) := by omega
      have i4 : (i : Int) < (N : Int) := by omega
      have k1 := (hW.cell (p := ⟨r, 1, none⟩) (gcell_lt c1)).trans c1
      have kF := (hW.cell (p := ⟨g, i * 2, none⟩) (gcell_lt cy)).trans cy
      clear fin haf hput htk hns hok fsz hsz hQ r0 r1 r2 r3 r4 r5 h5 h6 h0 c1 cy HS ow1 hbw hcall
      obtain ⟨d, op, ty, pos, aft, gd⟩ := o4
      simp only at p4
      subst p4
      go_simp
    · intro W hW
      have i3 : (0 : Int) ≤ (i : Int) := by omega
      have i4 : (i : Int) < (N : Int) := by omega
      have k1 := (hW.cell (p := ⟨r, 1, none⟩) (gcell_lt c1)).trans c1
      have kF := (hW.cell (p := ⟨g, i * 2, none⟩) (gcell_lt cy)).trans cy
      clear fin haf hput htk hns hok fsz hsz hQ r0 r1 r2 r3 r4 r5 h5 h6 h0 c1 cy HS ow1 hbw hcall
      obtain ⟨d, op, ty, pos, aft, gd⟩ := o5
      simp only at p5
      subst p5
      go_simp
    · intro W hW
      have i3 : (0 : Int) ≤ (i : Int) := by omega
      have i4 : (i : Int) < (N : Int) := by omega
      have k1 := (hW.cell (p := ⟨r, 1, none⟩) (gcell_lt c1)).trans c1
      have kF := (hW.cell (p := ⟨g, i * 2, none⟩) (gcell_lt cy)).trans cy
      clear fin haf hput htk hns hok fsz hsz hQ r0 r1 r2 r3 r4 r5 h5 h6 h0 c1 cy HS ow1 hbw hcall
      obtain ⟨d, op, ty, pos, aft, gd⟩ := o6
      simp only at p6
      subst p6
      go_simp
    · intro W hW
      have i3 : (0 : Int) ≤ (i : Int) := by omega
      have i4 : (i : Int) < (N : Int) := by omega
      have k1 := (hW.cell (p := ⟨r, 1, none⟩) (gcell_lt c1)).trans c1
      have kF := (hW.cell (p := ⟨g, i * 2, none⟩) (gcell_lt cy)).trans cy
      clear fin haf hput htk hns hok fsz hsz hQ r0 r1 r2 r3 r4 r5 h5 h6 h0 c1 cy HS ow1 hbw hcall
      obtain ⟨d, op, ty, pos, aft, gd⟩ := o7
      simp only at p7
      subst p7
      go_simp
    · intro W hW
      have i3 : (0 : Int) ≤ (i : Int) := by omega
      have i4 : (i : Int) < (N : Int) := by omega
      have k1 := (hW.cell (p := ⟨r, 1, none⟩) (gcell_lt c1)).trans c1
      have kF := (hW.cell (p := ⟨g, i * 2, none⟩) (gcell_lt cy)).trans cy
      clear fin haf hput htk hns hok fsz hsz hQ r0 r1 r2 r3 r4 r5 h5 h6 h0 c1 cy HS ow1 hbw hcall
      obtain ⟨d, op, ty, pos, aft, gd⟩ := o8
      simp only at p8
      subst p8
      go_simp
    · intro W hW
      have i3 : (0 : Int) ≤ (i : Int) := by omega
      have i4 : (i : Int) < (N : Int) := by omega
      have k1 := (hW.cell (p := ⟨r, 1, none⟩) (gcell_lt c1)).trans c1
      have kF := (hW.cell (p := ⟨g, i * 2, none⟩) (gcell_lt cy)).trans cy
      clear fin haf hput htk hns hok fsz hsz hQ r0 r1 r2 r3 r4 r5 h5 h6 h0 c1 cy HS ow1 hbw hcall
      obtain ⟨d, op, ty, pos, aft, gd⟩ := o11
      simp only at p11
      subst p11
      go_simp
    · intro W hW
      have i3 : (0 : Int) ≤ (i : Int) := by omega
      have i4 : (i : Int) < (N : Int) := by omega
      have k1 := (hW.cell (p := ⟨r, 1, none⟩) (gcell_lt c1)).trans c1
      have kF := (hW.cell (p := ⟨g, i * 2, none⟩) (gcell_lt cy)).trans cy
      clear fin haf hput htk hns hok fsz hsz hQ r0 r1 r2 r3 r4 r5 h5 h6 h0 c1 cy HS ow1 hbw hcall
      obtain ⟨d, op, ty, pos, aft, gd⟩ := o12
      simp only at p12
      subst p12
      go_simp
    · intro W hW
      have i3 : (0 : Int) ≤ (i : Int) := by omega
      have i4 : (i : Int) < (N : Int) := by omega
      have k1 := (hW.cell (p := ⟨r, 1, none⟩) (gcell_lt c1)).trans c1
      have kF := (hW.cell (p := ⟨g, i * 2, none⟩) (gcell_lt cy)).trans cy
      clear fin haf hput htk hns hok fsz hsz hQ r0 r1 r2 r3 r4 r5 h5 h6 h0 c1 cy HS ow1 hbw hcall
      obtain ⟨d, op, ty, pos, aft, gd⟩ := o13
      simp only at p13
      subst p13
      go_simp
    · intro W hW
      have i3 : (0 : Int) ≤ (i : Int) := by omega
      have i4 : (i : Int) < (N : Int) := by omega
      have k1 := (hW.cell (p := ⟨r, 1, none⟩) (gcell_lt c1)).trans c1
      have kF := (hW.cell (p := ⟨g, i * 2, none⟩) (gcell_lt cy)).trans cy
      clear fin haf hput htk hns hok fsz hsz hQ r0 r1 r2 r3 r4 r5 h5 h6 h0 c1 cy HS ow1 hbw hcall
      obtain ⟨d, op, ty, pos, aft, gd⟩ := o14
      simp only at p14
      subst p14
      go_simp
    · intro W hW
      have i3 : (0 : Int) ≤ (i : Int) := by omega
      have i4 : (i : Int) < (N : Int) := by omega
      have k1 := (hW.cell (p := ⟨r, 1, none⟩) (gcell_lt c1)).trans c1
      have kF := (hW.cell (p := ⟨g, i * 2, none⟩) (gcell_lt cy)).trans cy
      clear fin haf hput htk hns hok fsz hsz hQ r0 r1 r2 r3 r4 r5 h5 h6 h0 c1 cy HS ow1 hbw hcall
      obtain ⟨d, op, ty, pos, aft, gd⟩ := o15
      simp only at p15
      subst p15
      go_simp
    · intro W hW
      have i3 : (0 : Int) ≤ (i : Int) := by omega
      have i4 : (i : Int) < (N : Int) := by omega
      have k1 := (hW.cell (p := ⟨r, 1, none⟩) (gcell_lt c1)).trans c1
      have kF := (hW.cell (p := ⟨g, i * 2, none⟩) (gcell_lt cy)).trans cy
      clear fin haf hput htk hns hok fsz hsz hQ r0 r1 r2 r3 r4 r5 h5 h6 h0 c1 cy HS ow1 hbw hcall
      obtain ⟨d, op, ty, pos, aft, gd⟩ := o16
      simp only at p16
      subst p16
      go_simp
    · intro W hW
      have i3 : (0 : Int) ≤ (i : Int) := by omega
      have i4 : (i : Int) < (N : Int) := by omega
      have k1 := (hW.cell (p := ⟨r, 1, none⟩) (gcell_lt c1)).trans c1
      have kF := (hW.cell (p := ⟨g, i * 2, none⟩) (gcell_lt cy)).trans cy
      clear fin haf hput htk hns hok fsz hsz hQ r0 r1 r2 r3 r4 r5 h5 h6 h0 c1 cy HS ow1 hbw hcall
      obtain ⟨d, op, ty, pos, aft, gd⟩ := o17
      simp only at p17
      subst p17
      go_simp
    · intro W hW
      have i3 : (0 : Int) ≤ (i : Int) := by omega
      have i4 : (i : Int) < (N : Int) := by omega
      have k1 := (hW.cell (p := ⟨r, 1, none⟩) (gcell_lt c1)).trans c1
      have kF := (hW.cell (p := ⟨g, i * 2, none⟩) (gcell_lt cy)).trans cy
      clear fin haf hput htk hns hok fsz hsz hQ r0 r1 r2 r3 r4 r5 h5 h6 h0 c1 cy HS ow1 hbw hcall
      obtain ⟨d, op, ty, pos, aft, gd⟩ := o18
      simp only at p18
      subst p18
      go_simp
    · intro W hW
      have i3 : (0 : Int) ≤ (i : Int) := by omega
      have i4 : (i : Int) < (N : Int) := by omega
      have k1 := (hW.cell (p := ⟨r, 1, none⟩) (gcell_lt c1)).trans c1
      have kF := (hW.cell (p := ⟨g, i * 2, none⟩) (gcell_lt cy)).trans cy
      clear fin haf hput htk hns hok fsz hsz hQ r0 r1 r2 r3 r4 r5 h5 h6 h0 c1 cy HS ow1 hbw hcall
      obtain ⟨d, op, ty, pos, aft, gd⟩ := o19
      simp only at p19
      subst p19
      go_simp
  have em : markIdx [0, 1, 2, 3, 4, 5, 6, 7, 8, 11, 12, 13, 14, 15, 16, 17, 18, 19] (Array.replicate [o0, o1, o2, o3, o4, o5, o6, o7, o8, o9, o10, o11, o12, o13, o14, o15, o16, o17, o18, o19, o20, o21, o22].length false) = #[true, true, true, true, true, true, true, true, true, false, false, true, true, true, true, true, true, true, true, true, false, false, false] := by kernel_rfl
  rw [em]
  -- the slice of one
  refine wpAnyH_ready r0 (by simp) (AllReadyH.cons (o := o9) rfl (fun K hK => ?_) AllReadyH.nil)
  refine gstep_run g9 (run_b1 p9 af w.drew f38) ?_
  have hA : Below w0.heap.size w0 (w.drew.alloc (.cells [.int .i64 (c : Int)].toArray 3)) := HS.alloc HS.size _
  refine hK.out _ _ hA fun _ => ?_
  rw [t9]
  have own1 : (w.drew.alloc (.cells [.int .i64 (c : Int)].toArray 3)).ownsRow w0.heap.size 3 1 V1 T1.length (encL T1) := down_stay (down_stay ow1 (Below.refl _ _).drew) ((Below.refl _ _).alloc (Nat.le_refl _) _)
  have src1 : Src (w.drew.alloc (.cells [.int .i64 (c : Int)].toArray 3)) (.slice (some ⟨w.drew.heap.size, 0, none⟩) 1 1) 1 [.int .i64 (c : Int)] := gsrc_own (gown_1 w.drew 0 3 1 [.int .i64 (c : Int)] rfl (Nat.zero_le _))
  generalize Value.slice (some ⟨w.drew.heap.size, 0, none⟩) 1 1 = vA at *
  generalize w.drew.alloc (.cells [.int .i64 (c : Int)].toArray 3) = W1 at *
  have x30 : (af.put (some 39) vA).tmps[30]? = some V1 := by rw [gput_ne (by decide)]; exact f30
  have x39 : (af.put (some 39) vA).tmps[39]? = some vA := gput_at (by rw [fsz]; decide)
  have x41 : (af.put (some 39) vA).tmps[41]? = some (.pointer (some ⟨r, 0, none⟩)) := by rw [gput_ne (by decide)]; exact f41
  have x49 : (af.put (some 39) vA).tmps[49]? = some (.int .i64 (c : Int)) := by rw [gput_ne (by decide)]; exact f49
  have xsz : (af.put (some 39) vA).tmps.size = 53 := by rw [gput_sz, fsz]
  have fin1 := fin vA
  generalize af.put (some 39) vA = b1 at *
  -- one more
  refine wpAnyH_ready r1 (by simp) (AllReadyH.cons (o := o10) rfl (fun K hK => ?_) AllReadyH.nil)
  refine gstep_append eltBe g10 (.tmp 30) (.tmp 39) p10 w0.heap.size V1 vA T1.length 1 (encL T1) [.int .i64 (c : Int)] (geval x30) (geval x39) own1 src1 rfl (by simp [Value.oneCell']) (by omega) hA.size fun vB W2 ow2 gr2 => ?_
  have hB := gown_below hA hA.size own1 gr2
  refine hK.out _ _ hB fun _ => ?_
  rw [t10]
  have y40 : (b1.put (some 40) vB).tmps[40]? = some vB := gput_at (by rw [xsz]; decide)
  have y41 : (b1.put (some 40) vB).tmps[41]? = some (.pointer (some ⟨r, 0, none⟩)) := by rw [gput_ne (by decide)]; exact x41
  have y49 : (b1.put (some 40) vB).tmps[49]? = some (.int .i64 (c : Int)) := by rw [gput_ne (by decide)]; exact x49
  have ysz : (b1.put (some 40) vB).tmps.size = 53 := by rw [gput_sz, xsz]
  have fin2 := fin1 vB
  generalize b1.put (some 40) vB = b2 at *
  -- what is below
  refine wpAnyH_ready r2 (by simp) (AllReadyH.cons (o := o20) rfl (fun K hK => ?_) AllReadyH.nil)
  rw [if_pos (by simp [Region.wanted, g20])]
  unfold Oper.wp
  rw [run_bc p20 b2 W2 y41 y49, Oper.upon_enter]
  refine (hcall W2 hB).mono ?_
  rintro e W3 ⟨vC, rfl, ow3, hC0⟩
  have hC : Below w0.heap.size w0 W3 := Below.onto hB hC0
  have ow2' := down_stay ow2 hC0
  have sr3 : Src W3 vC T2.length (encL T2) := gsrc_own ow3
  refine hK.out _ _ hC fun _ => ?_
  rw [t20]
  have z40 : (b2.put (some 50) vC).tmps[40]? = some vB := by rw [gput_ne (by decide)]; exact y40
  have z50 : (b2.put (some 50) vC).tmps[50]? = some vC := gput_at (by rw [ysz]; decide)
  have zsz : (b2.put (some 50) vC).tmps.size = 53 := by rw [gput_sz, ysz]
  have fin3 := fin2 vC
  generalize b2.put (some 50) vC = b3 at *
  clear hcall ow1 own1 src1 gr2 ow2 ow3 hK
  refine wpAnyH_ready r3 (by simp) (AllReadyH.cons (o := o21) rfl (fun K hK => ?_) AllReadyH.nil)
  refine gstep_append eltBe g21 (.tmp 40) (.tmp 50) p21 w0.heap.size vB vC (T1.length + 1) T2.length (encL T1 ++ [.int .i64 (c : Int)]) (encL T2) (geval z40) (geval z50) ow2' sr3 (by simp [encL]) (encL_one T2) (by omega) hC.size fun vD W4 ow4 gr4 => ?_
  have hD := gown_below hC hC.size ow2' gr4
  refine hK.out _ _ hD fun _ => ?_
  rw [t21]
  have u51 : (b3.put (some 51) vD).tmps[51]? = some vD := gput_at (by rw [zsz]; decide)
  have fin4 := fin3 vD W4 (by rw [show encL (T1 ++ c :: T2) = encL T1 ++ [.int .i64 (c : Int)] ++ encL T2 by simp [encL]]; exact ow4) hD
  generalize b3.put (some 51) vD = b4 at *
  refine wpAnyH_ready r4 (by simp) (AllReadyH.cons (o := o22) rfl (fun K hK => ?_) AllReadyH.nil)
  refine gstep_run g22 (by simp [execOp, p22, geval u51] : (execOp b4.eval o22).run Try.prog W4 = .ok (.value vD) W4) ?_
  refine hK.out _ _ hD fun _ => ?_
  rw [t22]
  refine wpAnyH_done r5 ?_ _
  refine tailQ_of _ _ _ ?_
  unfold tailWp
  exact fin4

theorem eltEn : Elt 70 81 2 16 (.agg #[.int .i64 0, .int .i64 0]) := ⟨Try.underlying70, by kernel_rfl, rfl, by decide, by decide⟩

end Go.Proofs.Ytlphombjejgbiaa
namespace Go.Proofs.Ytlphombjejgbiaa
open Go.RowKit Go.Sort
set_option maxRecDepth 100000

theorem rnew12_ok (n : Nat) (hn : n ≤ 1024) (w : World) :
    Calls Try.prog 7 #[.int .i64 (n : Int)] w fun e w' => e = .returned (.tuple #[.pointer (some ⟨w.heap.size, 0, none⟩), .int .i64 0]) ∧ Rf w' w.heap.size (.slice none 0 0) n [] ∧ Below w.heap.size w w' := by
  have h1 : (n : Int) ≤ 1024 := by omega
  have h2 : ¬ (1024 : Int) < (n : Int) := by omega
  have h3 : (0 : Int) ≤ (n : Int) := by omega
  go_enter Try.func7, Try.ntmps7
  go_wp2_with fail
  go_ret2
  exact ⟨rfl, ⟨World.alloc_heap_new w _, World.ownsRow_nil _ _ _ _, by rintro ⟨⟩, fok_nil n, hn⟩, (Below.refl _ w).alloc (Nat.le_refl _) _⟩
theorem rnew12_bad (x : Int) (h : x < 0 ∨ 1024 < x) (w : World) :
    Calls Try.prog 7 #[.int .i64 x] w fun e w' => e = .returned (.tuple #[.pointer none, .int .i64 1]) ∧ w' = w := by
  rcases h with h1 | h1
  · go_enter Try.func7, Try.ntmps7
    go_wp2_with fail
    go_ret2
    exact ⟨rfl, rfl⟩
  · have h2 : ¬ x < 0 := by omega
    go_enter Try.func7, Try.ntmps7
    go_wp2_with fail
    go_ret2
    exact ⟨rfl, rfl⟩
/-- what a call makes of it -/
def RfGo (w : World) (r : Nat) (rv : Value) (w' : World) (N : Nat) (L' : List Fe) : Prop := ∃ rv', Rf w' r rv' N L' ∧ But (fun b => b = r) w w' ∧ ∀ b, rv'.ownBlock = some b → rv.ownBlock = some b ∨ w.heap.size ≤ b
section
variable {w : World} {r : Nat} {rv : Value} {N : Nat} {L : List Fe}
theorem Rf.stay (x : Rf w r rv N L) : RfGo w r rv w N L := ⟨rv, x, But.refl _ w, fun _ h => .inl h⟩
/-- a row that was made anew is stored -/
theorem Rf.store {W W' : World} {vD : Value} {L' : List Fe} (x : Rf w r rv N L) (hW : Below w.heap.size w W) (ho : W.ownsRow w.heap.size 81 2 vD L'.length (encF L')) (hk : Fok N L') (e : W' = W.setCell ⟨r, 1, none⟩ vD) : RfGo w r rv W' N L' := by
  subst e
  have x9 := x.below hW
  have hr := x.lt
  have hne : ¬ vD.ownBlock = some r := fun h => by have := (fown_lt ho h).1; omega
  refine ⟨vD, ⟨?_, ?_, hne, hk, x.hN⟩, (But.of hW).setCell (S := fun b => b = r) (p := ⟨r, 1, none⟩) rfl _, fun b hb => .inr (fown_lt ho hb).1⟩
  · exact heap_setCell_same W r 1 _ _ vD x9.bl
  · exact own_mono (fown_same ho fun b hb => Below.heap_setCell _ _ _ _ (by rintro rfl; exact hne hb)) (Nat.zero_le _)
theorem fappend_src {t e : TypeId} {size bytes : Nat} {z : Value} (E0 : Elt t e size bytes z) {w : World} (ty : TypeId) (base : Nat) (v u : Value) (n m : Nat) (xs ys : List Value)
    (hown : w.ownsRow base e size v n xs) (hu : Src w u m ys) (hl2 : ys.length = m * size) (h1 : ∀ y ∈ ys, y.oneCell' = true) (hl : n + m ≤ 1000000) (hbase : base ≤ w.heap.size) :
    ∃ v' w', (Builtin.append_ #[t, t] ty #[v, u]).run Try.prog w = .ok v' w' ∧ w'.ownsRow base e size v' (n + m) (xs ++ ys) ∧ w.grownBy w' v.ownBlock := by
  obtain ⟨i0, hi, hz0, hz1, hz2⟩ := info_parts E0.hi
  rcases hu with ⟨rfl, rfl⟩ | ⟨g, off, c, rfl, hc⟩
  · have hys : ys = [] := List.length_eq_zero_iff.1 (by rw [hl2, Nat.zero_mul])
    subst hys
    exact ⟨v, w, run_append_owned_none (P := Try.prog) (w := w) base t ty e i0 size E0.ht hi v n xs hown, by simpa using hown, World.grownBy.refl w _⟩
  · have h64 : (n + m) * bytes ≤ 140737488355328 := by
      have := Nat.mul_le_mul hl E0.hb
      omega
    obtain ⟨v', w', h2, h3, h4, _⟩ := run_append_own_at (P := Try.prog) w base t ty e i0 z size bytes E0.ht hi hz0 hz1 hz2 E0.hz E0.hs v n xs hown ⟨g, off, none⟩ m c ys hl2 (fun j y hj => by rw [Go.WideShapes.add_plain]; exact hc j y hj) h1 (by unfold maxLen; omega) h64 hbase
    exact ⟨v', w', h2, h3, h4⟩
/-- the row made anew, with one more -/
theorem Rf.snoc (x : Rf w r rv N L) (e : Fe) : ∃ v1 w3 v2 w4, (Builtin.append_ #[70, 70] 70 #[.slice (some ⟨w.heap.size, 0, none⟩) 0 0, rv]).run Try.prog (w.alloc (.cells #[] 81)) = .ok v1 w3 ∧
    (Builtin.append_ #[70, 70] 70 #[v1, .slice (some ⟨w3.heap.size, 0, none⟩) 1 1]).run Try.prog (w3.alloc (.cells #[.int .i64 (e.n : Int), .int .i64 e.p] 81)) = .ok v2 w4 ∧
    w4.ownsRow w.heap.size 81 2 v2 (L ++ [e]).length (encF (L ++ [e])) ∧ Below w.heap.size w w4 := by
  have hlen : L.length ≤ 1024 := Nat.le_trans x.ok.len x.hN
  have hb1 : Below w.heap.size w (w.alloc (.cells #[] 81)) := (Below.refl _ w).alloc (Nat.le_refl _) _
  obtain ⟨v1, w3, hr1, ow1, gr1⟩ := fappend_src eltEn 70 w.heap.size _ rv 0 L.length [] (encF L) (gown_0 w w.heap.size 81 2 (Nat.le_refl _)) ((gsrc_own x.ow).below hb1) (encF_len L) (encF_one L) (by omega) hb1.size
  have hb3 := gown_below hb1 hb1.size (gown_0 w w.heap.size 81 2 (Nat.le_refl _)) gr1
  rw [List.nil_append, Nat.zero_add] at ow1
  have hb4 : Below w3.heap.size w3 (w3.alloc (.cells #[.int .i64 (e.n : Int), .int .i64 e.p] 81)) := (Below.refl _ w3).alloc (Nat.le_refl _) _
  have sr : Src (w3.alloc (.cells #[.int .i64 (e.n : Int), .int .i64 e.p] 81)) (.slice (some ⟨w3.heap.size, 0, none⟩) 1 1) 1 [.int .i64 (e.n : Int), .int .i64 e.p] := gsrc_own (gown_1 w3 0 81 2 [.int .i64 (e.n : Int), .int .i64 e.p] rfl (Nat.zero_le _))
  have hbb := Below.onto hb3 hb4
  obtain ⟨v2, w4, hr2, ow2, gr2⟩ := fappend_src eltEn 70 w.heap.size v1 _ L.length 1 (encF L) [.int .i64 (e.n : Int), .int .i64 e.p] (down_stay ow1 hb4) sr rfl (by simp [Value.oneCell']) (by omega) hbb.size
  exact ⟨v1, w3, v2, w4, hr1, hr2, by rw [List.length_append, encF_app]; exact ow2, gown_below hbb hbb.size (down_stay ow1 hb4) gr2⟩
set_option maxHeartbeats 4000000 in
theorem rroot12 (x : Rf w r rv N L) (n : Int) : Calls Try.prog 26 #[.pointer (some ⟨r, 0, none⟩), .int .i64 n] w fun e w' => e = .returned (.int .i64 (rootE N L n)) ∧ RfGo w r rv w' N (rootL N L n) := by
  have hi := ris12 x n
  have hh := rhas12 x n
  cases hin : inR N n
  · rw [hin] at hi
    have e1 : rootE N L n = 120 := by simp [rootE, hin]
    have e2 : rootL N L n = L := by simp [rootL, e1]
    rw [e1, e2]
    have HX : Hid (RfGo w r rv w N L) := x.stay
    clear x hh e1 e2
    go_enter Try.func26, Try.ntmps26
    go_wp2_with fail
    refine hi.mono ?_
    rintro e w1 ⟨rfl, rfl⟩
    go_wp2_with fail
    go_ret
    exact ⟨rfl, HX.out⟩
  · rw [hin] at hi
    have hhe : hasF N L n = decide (n.toNat ∈ nds L) := by simp [hasF, hin]
    cases hm : decide (n.toNat ∈ nds L)
    · rw [hhe, hm] at hh
      have e1 : rootE N L n = 0 := by unfold rootE; rw [hin, hm]; rfl
      have e2 : rootL N L n = L ++ [⟨n.toNat, -1⟩] := by simp [rootL, e1]
      rw [e1, e2]
      obtain ⟨k, rfl⟩ : ∃ k : Nat, n = (k : Int) := ⟨n.toNat, by have := (inR_iff.1 hin).1; omega⟩
      have hk : Fok N (L ++ [⟨k, -1⟩]) := by
        have := x.ok.root (k : Int)
        rwa [e2] at this
      rw [Int.toNat_natCast] at *
      obtain ⟨av, cv, hv⟩ := x.form
      subst hv
      obtain ⟨v1, w3, v2, w4, hr1, hr2, ho, hB⟩ := x.snoc ⟨k, -1⟩
      obtain ⟨a2, cc2, rfl, hx1, hx2⟩ := fown_form ho
      clear hx1 hx2
      dsimp only at hr2
      have HR : Hid (RfGo w r (.slice av L.length cv) (w4.setCell ⟨r, 1, none⟩ (.slice a2 (L ++ [(⟨k, -1⟩ : Fe)]).length cc2)) N (L ++ [⟨k, -1⟩])) := x.store hB ho hk rfl
      have c1 := (x.below ((Below.refl _ w).alloc (Nat.le_refl _) (.cells #[] 81))).c1
      have c4 := (x.below hB).c1
      have f4 := (x.below hB).fz 1
      clear x hhe e1 e2 hm hin hk ho hB
      generalize L.length = M at *
      generalize (L ++ [(⟨k, -1⟩ : Fe)]).length = M2 at *
      go_enter Try.func26, Try.ntmps26
      go_wp2_with fail
      refine hi.mono ?_
      rintro e w1 ⟨rfl, rfl⟩
      go_wp2_with fail
      refine hh.mono ?_
      rintro e w1 ⟨rfl, rfl⟩
      go_wp2_with (at_builtin; first | refine wpList_append_run rfl _ _ _ rfl _ _ _ rfl rfl hr1 ?_ | refine wpList_append_run rfl _ _ _ rfl _ _ _ rfl rfl hr2 ?_)
      go_ret
      exact ⟨rfl, HR.out⟩
    · rw [hhe, hm] at hh
      have e1 : rootE N L n = 121 := by unfold rootE; rw [hin, hm]; rfl
      have e2 : rootL N L n = L := by simp [rootL, e1]
      rw [e1, e2]
      have HX : Hid (RfGo w r rv w N L) := x.stay
      clear x e1 e2 hhe hm hin
      go_enter Try.func26, Try.ntmps26
      go_wp2_with fail
      refine hi.mono ?_
      rintro e w1 ⟨rfl, rfl⟩
      go_wp2_with fail
      refine hh.mono ?_
      rintro e w1 ⟨rfl, rfl⟩
      go_wp2_with fail
      go_ret
      exact ⟨rfl, HX.out⟩
set_option maxHeartbeats 4000000 in
theorem rder12 (x : Rf w r rv N L) (p n : Int) : Calls Try.prog 27 #[.pointer (some ⟨r, 0, none⟩), .int .i64 p, .int .i64 n] w fun e w' => e = .returned (.int .i64 (derE N L p n)) ∧ RfGo w r rv w' N (derL N L p n) := by
  have hip := ris12 x p
  have hin := ris12 x n
  have hhn := rhas12 x n
  have hhp := rhas12 x p
  cases ep : inR N p
  · rw [ep] at hip
    have e1 : derE N L p n = 120 := by simp [derE, ep]
    have e2 : derL N L p n = L := by simp [derL, e1]
    rw [e1, e2]
    have HX : Hid (RfGo w r rv w N L) := x.stay
    clear x hhn hhp hin e1 e2
    go_enter Try.func27, Try.ntmps27
    go_wp2_with fail
    refine hip.mono ?_
    rintro e w1 ⟨rfl, rfl⟩
    go_wp2_with fail
    go_ret
    exact ⟨rfl, HX.out⟩
  · rw [ep] at hip
    cases en : inR N n
    · rw [en] at hin
      have e1 : derE N L p n = 120 := by simp [derE, ep, en]
      have e2 : derL N L p n = L := by simp [derL, e1]
      rw [e1, e2]
      have HX : Hid (RfGo w r rv w N L) := x.stay
      clear x hhn hhp e1 e2
      go_enter Try.func27, Try.ntmps27
      go_wp2_with fail
      refine hip.mono ?_
      rintro e w1 ⟨rfl, rfl⟩
      go_wp2_with fail
      refine hin.mono ?_
      rintro e w1 ⟨rfl, rfl⟩
      go_wp2_with fail
      go_ret
      exact ⟨rfl, HX.out⟩
    · rw [en] at hin
      have hhe : hasF N L n = decide (n.toNat ∈ nds L) := by simp [hasF, en]
      have hpe : hasF N L p = decide (p.toNat ∈ nds L) := by simp [hasF, ep]
      cases hm : decide (n.toNat ∈ nds L)
      · rw [hhe, hm] at hhn
        cases hm2 : decide (p.toNat ∈ nds L)
        · rw [hpe, hm2] at hhp
          have e1 : derE N L p n = 122 := by unfold derE; rw [ep, en, hm, hm2]; rfl
          have e2 : derL N L p n = L := by simp [derL, e1]
          rw [e1, e2]
          have HX : Hid (RfGo w r rv w N L) := x.stay
          clear x e1 e2 hhe hpe hm hm2
          go_enter Try.func27, Try.ntmps27
          go_wp2_with fail
          refine hip.mono ?_
          rintro e w1 ⟨rfl, rfl⟩
          go_wp2_with fail
          refine hin.mono ?_
          rintro e w1 ⟨rfl, rfl⟩
          go_wp2_with fail
          refine hhn.mono ?_
          rintro e w1 ⟨rfl, rfl⟩
          go_wp2_with fail
          refine hhp.mono ?_
          rintro e w1 ⟨rfl, rfl⟩
          go_wp2_with fail
          go_ret
          exact ⟨rfl, HX.out⟩
        · rw [hpe, hm2] at hhp
          have e1 : derE N L p n = 0 := by unfold derE; rw [ep, en, hm, hm2]; rfl
          have e2 : derL N L p n = L ++ [⟨n.toNat, p⟩] := by simp [derL, e1]
          rw [e1, e2]
          obtain ⟨k, rfl⟩ : ∃ k : Nat, n = (k : Int) := ⟨n.toNat, by have := (inR_iff.1 en).1; omega⟩
          have hk : Fok N (L ++ [⟨k, p⟩]) := by
            have := x.ok.der p (k : Int)
            rwa [e2] at this
          rw [Int.toNat_natCast] at *
          obtain ⟨av, cv, hv⟩ := x.form
          subst hv
          obtain ⟨v1, w3, v2, w4, hr1, hr2, ho, hB⟩ := x.snoc ⟨k, p⟩
          obtain ⟨a2, cc2, rfl, hx1, hx2⟩ := fown_form ho
          clear hx1 hx2
          dsimp only at hr2
          have HR : Hid (RfGo w r (.slice av L.length cv) (w4.setCell ⟨r, 1, none⟩ (.slice a2 (L ++ [(⟨k, p⟩ : Fe)]).length cc2)) N (L ++ [⟨k, p⟩])) := x.store hB ho hk rfl
          have c1 := (x.below ((Below.refl _ w).alloc (Nat.le_refl _) (.cells #[] 81))).c1
          have c4 := (x.below hB).c1
          have f4 := (x.below hB).fz 1
          clear x hhe hpe e1 e2 hm hm2 ep en hk ho hB
          generalize L.length = M at *
          generalize (L ++ [(⟨k, p⟩ : Fe)]).length = M2 at *
          go_enter Try.func27, Try.ntmps27
          go_wp2_with fail
          refine hip.mono ?_
          rintro e w1 ⟨rfl, rfl⟩
          go_wp2_with fail
          refine hin.mono ?_
          rintro e w1 ⟨rfl, rfl⟩
          go_wp2_with fail
          refine hhn.mono ?_
          rintro e w1 ⟨rfl, rfl⟩
          go_wp2_with fail
          refine hhp.mono ?_
          rintro e w1 ⟨rfl, rfl⟩
          go_wp2_with (at_builtin; first | refine wpList_append_run rfl _ _ _ rfl _ _ _ rfl rfl hr1 ?_ | refine wpList_append_run rfl _ _ _ rfl _ _ _ rfl rfl hr2 ?_)
          go_ret
          exact ⟨rfl, HR.out⟩
      · rw [hhe, hm] at hhn
        have e1 : derE N L p n = 121 := by unfold derE; rw [ep, en, hm]; rfl
        have e2 : derL N L p n = L := by simp [derL, e1]
        rw [e1, e2]
        have HX : Hid (RfGo w r rv w N L) := x.stay
        clear x e1 e2 hhe hpe hm
        go_enter Try.func27, Try.ntmps27
        go_wp2_with fail
        refine hip.mono ?_
        rintro e w1 ⟨rfl, rfl⟩
        go_wp2_with fail
        refine hin.mono ?_
        rintro e w1 ⟨rfl, rfl⟩
        go_wp2_with fail
        refine hhn.mono ?_
        rintro e w1 ⟨rfl, rfl⟩
        go_wp2_with fail
        go_ret
        exact ⟨rfl, HX.out⟩
end
end Go.Proofs.Ytlphombjejgbiaa
