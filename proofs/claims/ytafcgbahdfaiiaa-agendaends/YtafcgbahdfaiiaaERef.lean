/- The document's agenda in memory; at, first. -/
import Derived.Test.YtafcgbahdfaiiaaEReg
import Derived.Test.YtafcgbahdfaiiaaEAct2
namespace Go.Proofs.Ytafcgbahdfaiiaa
open Go.RowKit Go.Sort
set_option maxRecDepth 100000

def encE (D : List En) : List Value := D.flatMap fun e => [.int .i8 e.k, .int .i64 e.m, .int .i64 (e.n : Int)]
theorem encE_len (D : List En) : (encE D).length = D.length * 3 := by
  induction D with
  | nil => rfl
  | cons m l ih => simp [encE] at ih ⊢; omega
theorem encE_app (D E : List En) : encE (D ++ E) = encE D ++ encE E := by simp [encE]
theorem encE_one (D : List En) : ∀ y ∈ encE D, y.oneCell' = true := by
  intro y hy
  simp only [encE, List.mem_flatMap] at hy
  obtain ⟨e, _, hy⟩ := hy
  simp at hy
  rcases hy with rfl | rfl | rfl <;> rfl
theorem encE_at {D : List En} {j : Nat} {e : En} (h : D[j]? = some e) : (encE D)[j * 3]? = some (.int .i8 e.k) ∧ (encE D)[j * 3 + 1]? = some (.int .i64 e.m) ∧ (encE D)[j * 3 + 2]? = some (.int .i64 (e.n : Int)) := by
  have hj := (List.getElem?_eq_some_iff.1 h).1
  have hl : (encE (D.take j)).length = j * 3 := by rw [encE_len, List.length_take]; congr 1; omega
  have hd : D = D.take j ++ e :: D.drop (j + 1) := by
    rw [← (List.getElem?_eq_some_iff.1 h).2]
    simp
  have key : encE D = encE (D.take j) ++ ([.int .i8 e.k, .int .i64 e.m, .int .i64 (e.n : Int)] ++ encE (D.drop (j + 1))) := by
    conv => lhs; rw [hd]
    rw [encE_app]
    simp [encE]
  rw [key]
  refine ⟨?_, ?_, ?_⟩ <;> rw [List.getElem?_append_right (by omega)] <;> simp [hl]
/-- behind r lies the document's agenda: the entries D, the last number -/
structure Rd (w : World) (r : Nat) (rv : Value) (D : List En) (last : Nat) : Prop where
  bl : Blk w r 32 [rv, .int .i64 (last : Int)]
  ow : w.ownsRow 0 50 3 rv D.length (encE D)
  bd : D.length ≤ 50000 ∧ last ≤ 50000
def rhas (r : Nat) (rv : Value) (b : Nat) : Prop := b = r ∨ rv.ownBlock = some b
section
variable {w w' : World} {r : Nat} {rv : Value} {D : List En} {last : Nat}
theorem Rd.lt (x : Rd w r rv D last) {b : Nat} (h : rhas r rv b) : b < w.heap.size := by
  rcases h with rfl | h
  · exact x.bl.lt
  · exact (x.ow.lt b h).2
theorem Rd.same (x : Rd w r rv D last) (hb : ∀ b, rhas r rv b → w'.heap[b]? = w.heap[b]?) : Rd w' r rv D last := ⟨x.bl.same (hb _ (.inl rfl)), eown_block x.ow fun b h => hb b (.inr h), x.bd⟩
theorem Rd.but {S : Nat → Prop} (x : Rd w r rv D last) (hb : But S w w') (hS : ∀ b, rhas r rv b → ¬ S b) : Rd w' r rv D last := x.same fun b h => hb.block b (x.lt h) (hS b h)
theorem Rd.below (x : Rd w r rv D last) (hb : Below w.heap.size w w') : Rd w' r rv D last := x.same fun b h => hb.block b (x.lt h)
theorem Rd.form (x : Rd w r rv D last) : ∃ a cap, rv = .slice a D.length cap ∧ D.length ≤ cap ∧ cap ≤ maxLen := by
  rcases x.ow.2 with ⟨h, hn⟩ | ⟨g, cap, cur, h, _, _, h1, h2, _⟩
  · exact ⟨none, 0, by rw [h, hn], by omega, by unfold maxLen; omega⟩
  · exact ⟨_, cap, h, h1, h2⟩
theorem Rd.form1 (x : Rd w r rv D last) (h0 : 0 < D.length) : ∃ g cap, rv = .slice (some ⟨g, 0, none⟩) D.length cap ∧ D.length ≤ cap ∧ cap ≤ maxLen := by
  rcases x.ow.2 with ⟨h, hn⟩ | ⟨g, cap, cur, h, _, _, h1, h2, _⟩
  · omega
  · exact ⟨g, cap, h, h1, h2⟩
theorem Rd.cells (x : Rd w r rv D last) {g cap : Nat} (hv : rv = .slice (some ⟨g, 0, none⟩) D.length cap) {j : Nat} {e : En} (h : D[j]? = some e) :
    w.cell? ⟨g, j * 3, none⟩ = some (.int .i8 e.k) ∧ w.cell? ⟨g, j * 3 + 1, none⟩ = some (.int .i64 e.m) ∧ w.cell? ⟨g, j * 3 + 2, none⟩ = some (.int .i64 (e.n : Int)) := by
  obtain ⟨h1, h2, h3⟩ := encE_at h
  have hc := fun i u hu => x.ow.cells (g := g) (by rw [hv]; rfl) i u hu
  refine ⟨?_, ?_, ?_⟩
  · have := hc _ _ h1; rwa [Go.WideShapes.add_plain, Nat.zero_add] at this
  · have := hc _ _ h2; rwa [Go.WideShapes.add_plain, Nat.zero_add] at this
  · have := hc _ _ h3; rwa [Go.WideShapes.add_plain, Nat.zero_add] at this
theorem Rd.ne (x : Rd w r rv D last) : rv.ownBlock ≠ some r := fun e => by
  have hr : w.heap[r]? = _ := x.bl
  rcases x.ow.2 with ⟨h, hn⟩ | ⟨g, cap, cur, h, _, hg, _⟩
  · rw [h] at e; cases e
  · rw [h] at e; simp [Value.ownBlock] at e; subst e; rw [hg] at hr; injection hr with hr; injection hr with _ hr; cases hr
end

set_option maxHeartbeats 1000000 in
theorem rat_ok (w : World) (r : Nat) (rv : Value) (D : List En) (last : Nat) (x : Rd w r rv D last) (id : Int) (q : Nat) (hq : q ≤ D.length) (hno : ∀ j e, j < q → D[j]? = some e → (e.n : Int) ≠ id) (hat : ∀ e, D[q]? = some e → (e.n : Int) = id) :
    Calls Try.prog 37 #[ptr r, .int .i64 id] w fun v w' => v = .returned (.int .i64 (if q < D.length then (q : Int) else -1)) ∧ w' = w := by
  have c0 := x.bl.cell (i := 0) rfl
  have hbd := x.bd.1
  obtain ⟨a0, cap, hv, _⟩ := x.form
  have HX : Hid (Rd w r rv D last) := x
  have HN : Hid (∀ j e, j < q → D[j]? = some e → (e.n : Int) ≠ id) := hno
  have HA : Hid (∀ e, D[q]? = some e → (e.n : Int) = id) := hat
  rw [hv] at c0
  clear x hno hat
  obtain ⟨ans, hans⟩ : ∃ ans : Int, ans = if q < D.length then (q : Int) else -1 := ⟨_, rfl⟩
  rw [← hans]
  have HANS : Hid (ans = if q < D.length then (q : Int) else -1) := hans
  clear hans
  generalize hN : D.length = N at *
  go_enter Try.func37, Try.ntmps37
  go_wp2_with fail
  go_loopw [5] (fun v wr => ∃ i : Nat, v = .int .i64 (i : Int) ∧ i ≤ q ∧ wr = w) (fun v _ => N - (intOf v).toNat)
  case atStart => exact ⟨0, rfl, Nat.zero_le _, rfl⟩
  case round =>
    obtain ⟨i, rfl, hi, rfl⟩ := hrel
    by_cases hiN : i < N
    · obtain ⟨g, cap', hv', _⟩ := HX.out.form1 (by omega)
      obtain ⟨e, he⟩ : ∃ e, D[i]? = some e := ⟨D[i]'(by omega), List.getElem?_eq_getElem _⟩
      obtain ⟨_, _, k2⟩ := HX.out.cells hv' he
      rw [hv, hN] at hv'
      injection hv' with ha _ hcap
      subst ha hcap
      by_cases hiq : i < q
      · have hne := HN.out i e hiq he
        go_wp2_with fail
        go_roundw
        case rel => exact ⟨i + 1, by go_num, by omega, trivial⟩
        case measure => simp [intOf]; omega
      · obtain rfl : i = q := by omega
        have heq := HA.out e he
        have ea : ans = (i : Int) := by rw [HANS.out, if_pos hiN]
        subst ea
        subst heq
        go_wp2_with fail
        go_ret
        exact ⟨rfl, rfl⟩
    · have ea : ans = -1 := by rw [HANS.out, if_neg (by omega)]
      subst ea
      go_wp2_with fail
      go_ret
      exact ⟨rfl, rfl⟩
end Go.Proofs.Ytafcgbahdfaiiaa
