/- Rows of a law's own that are cut in front (out[1:]), appended to and written: windows. -/
import Derived.Test.YtmdoiokgfdolpaaJEls
import Derived.ArgAppend
import Derived.Maps.AppendAt
import Derived.Deep.Onto
import Derived.Deep.MidRow
namespace Go.Proofs.Ytmdoiokgfdolpaa
open Go.RowKit Go.Sort
set_option maxRecDepth 100000

theorem tape_setCells (b : Nat) : ∀ (vs : List Value) (o : Nat) (w : World), (w.setCells b o vs).tape = w.tape
  | [], _, _ => rfl
  | _ :: r, o, w => by rw [World.setCells, tape_setCells b r (o + 1) _, World.tape_setCell]
/-- n elements in a row, somewhere in a block of one's own, with room behind -/
def Win (base : Nat) (w : World) (size : Nat) (v : Value) (n : Nat) (xs : List Value) : Prop :=
  xs.length = n * size ∧ ∃ ao cap, v = .slice ao n cap ∧ n ≤ cap ∧ cap ≤ maxLen ∧ (∀ b, v.ownBlock = some b → base ≤ b ∧ b < w.heap.size) ∧
    (0 < cap → ∃ b off, ao = some ⟨b, off, none⟩ ∧ (∀ j u, xs[j]? = some u → w.cell? ⟨b, off + j, none⟩ = some u) ∧ ∀ j, j < cap * size → (w.cell? ⟨b, off + j, none⟩).isSome = true ∧ w.frozen? ⟨b, off + j, none⟩ = false)
section
variable {base size n : Nat} {w w' : World} {v : Value} {xs : List Value}
theorem win_nil : Win base w size (.slice none 0 0) 0 [] :=
  ⟨by simp, none, 0, rfl, Nat.le_refl _, Nat.zero_le _, fun b hb => by simp [Value.ownBlock] at hb, fun h => absurd h (by omega)⟩
theorem Win.blk (h : Win base w size v n xs) {b : Nat} (hb : v.ownBlock = some b) : base ≤ b ∧ b < w.heap.size := by
  obtain ⟨_, ao, cap, rfl, _, _, h1, _⟩ := h
  exact h1 b hb
theorem Win.form (h : Win base w size v n xs) : ∃ ao cap, v = .slice ao n cap ∧ n ≤ cap ∧ cap ≤ maxLen := by
  obtain ⟨_, ao, cap, hv, h1, h2, _⟩ := h
  exact ⟨ao, cap, hv, h1, h2⟩
theorem Win.same (h : Win base w size v n xs) (hs : w.heap.size ≤ w'.heap.size) (hb : ∀ b, v.ownBlock = some b → w'.heap[b]? = w.heap[b]?) : Win base w' size v n xs := by
  obtain ⟨h0, ao, cap, rfl, h1, h2, h3, h4⟩ := h
  refine ⟨h0, ao, cap, rfl, h1, h2, fun b e => ⟨(h3 b e).1, Nat.lt_of_lt_of_le (h3 b e).2 hs⟩, fun hc => ?_⟩
  obtain ⟨b, off, rfl, h5, h6⟩ := h4 hc
  have e := hb b rfl
  exact ⟨b, off, rfl, fun j u hu => (World.cell?_of_block (w := w) (a := ⟨b, off + j, none⟩) e).trans (h5 j u hu), fun j hj => ⟨by rw [World.cell?_of_block (w := w) (a := ⟨b, off + j, none⟩) e]; exact (h6 j hj).1, by rw [World.frozen?_of_block (w := w) (a := ⟨b, off + j, none⟩) e]; exact (h6 j hj).2⟩⟩
theorem Win.but {S : Nat → Prop} (h : Win base w size v n xs) (hb : But S w w') (hS : ∀ b, v.ownBlock = some b → ¬ S b) : Win base w' size v n xs :=
  h.same hb.size fun b e => hb.block b (h.blk e).2 (hS b e)
theorem Win.below (h : Win base w size v n xs) (hb : Below w.heap.size w w') : Win base w' size v n xs :=
  h.same hb.size fun b e => hb.block b (h.blk e).2
theorem win_own {e : TypeId} (h : w.ownsRow base e size v n xs) : Win base w size v n xs := by
  refine ⟨h.1, ?_⟩
  rcases h.2 with ⟨rfl, rfl⟩ | ⟨g, cap, cur, rfl, hb, hg, hc1, hc2, hc3, htk⟩
  · exact ⟨none, 0, rfl, Nat.le_refl _, Nat.zero_le _, fun b hb => by simp [Value.ownBlock] at hb, fun h => absurd h (by omega)⟩
  · refine ⟨_, cap, rfl, hc1, hc2, fun b e => ?_, fun _ => ⟨g, 0, rfl, fun j u hu => ?_, fun j hj => ⟨?_, ?_⟩⟩⟩
    · simp [Value.ownBlock] at e
      subst e
      exact ⟨hb, (Array.getElem?_eq_some_iff.1 hg).1⟩
    · have := h.cells (g := g) rfl j u hu
      rwa [Go.WideShapes.add_plain] at this
    · rw [cell_of_row _ _ _ _ _ (0, 0) hg, Nat.zero_add]
      simp [hc3, hj]
    · simp [World.frozen?, hg]
end
section
variable {P : Program} {w : World}
/-- one element more -/
theorem run_append_win (base : Nat) (t ty e : TypeId) (i : TypeInfo) (z : Value) (size bytes : Nat) (ht : P.underlying t = some (.slice e)) (hi : P.info? e = some i) (hz : i.zero = some z)
    (hsize : i.size = size) (hby : i.bytes = bytes) (hzs : z.cells.size = size) (hsz : 0 < size)
    (v : Value) (n : Nat) (xs : List Value) (hown : Win base w size v n xs)
    (a : Addr) (c : Nat) (news : List Value) (hl : news.length = 1 * size) (hnews : ∀ j u, news[j]? = some u → w.cell? (a.add j) = some u) (h1 : ∀ u ∈ news, u.oneCell' = true)
    (h63 : n + 1 ≤ maxLen) (hbytes : (n + 1) * bytes ≤ 140737488355328) (hbase : base ≤ w.heap.size) :
    ∃ v' w', (Builtin.append_ #[t, t] ty #[v, .slice (some a) 1 c]).run P w = .ok v' w' ∧ Win base w' size v' (n + 1) (xs ++ news) ∧ w.grownBy w' v.ownBlock ∧
      (v'.ownBlock = v.ownBlock ∨ ∀ b, v'.ownBlock = some b → w.heap.size ≤ b) := by
  subst hsize
  have hN := hown
  obtain ⟨h0, ao, cap, rfl, hc1, hc2, hb, hcell⟩ := hown
  have hxl : (xs ++ news).length = (n + 1) * i.size := by rw [List.length_append, h0, hl, Nat.add_mul]
  have fresh : ∀ {w' : World} {v' : Value}, w'.ownsRow w.heap.size e i.size v' (n + 1) (xs ++ news) → w.grownBy w' none → Win base w' i.size v' (n + 1) (xs ++ news) ∧ w.grownBy w' (Value.slice ao n cap).ownBlock ∧ (v'.ownBlock = (Value.slice ao n cap).ownBlock ∨ ∀ b, v'.ownBlock = some b → w.heap.size ≤ b) := fun ho hg =>
    ⟨win_own (ho.mono hbase), ⟨hg.os, hg.tape, hg.output, hg.size, fun k hk _ => hg.block k hk (by simp)⟩, .inr fun b e => (win_own ho).blk e |>.1⟩
  by_cases hr : n + 1 ≤ cap
  · obtain ⟨b, off, rfl, hx, hsp⟩ := hcell (by omega)
    have hrc : (n + 1) * i.size ≤ cap * i.size := Nat.mul_le_mul_right _ hr
    rw [Nat.add_mul] at hrc
    have hsome : ∀ j, j < news.length → (w.cell? ⟨b, off + n * i.size + j, none⟩).isSome = true := fun j hj => by
      have := (hsp (n * i.size + j) (by omega)).1
      rwa [← Nat.add_assoc] at this
    have hfr : ∀ j, j < news.length → w.frozen? ⟨b, off + n * i.size + j, none⟩ = false := fun j hj => by
      have := (hsp (n * i.size + j) (by omega)).2
      rwa [← Nat.add_assoc] at this
    have hrun := run_append_room_cells (P := P) w t ty e i ht hi b off n cap a 1 c news hl hnews h1 hr hsome hfr
    have hkb := World.keptBut_setCells b (may := fun p => p.block = b) news (off + n * i.size) w (fun _ _ => rfl)
    have hgr : w.grownBy (w.setCells b (off + n * i.size) news) (some b) :=
      ⟨hkb.1, tape_setCells _ _ _ _, hkb.2.1, hkb.size, fun k hk hne => hkb.block hk (fun _ hp e => hne (by rw [← e, hp]))⟩
    refine ⟨_, _, hrun, ⟨hxl, _, cap, rfl, hr, hc2, fun b' e => ⟨(hb b' e).1, Nat.lt_of_lt_of_le (hb b' e).2 hgr.size⟩, fun _ => ⟨b, off, rfl, fun j u hu => ?_, fun j hj => ⟨?_, ?_⟩⟩⟩, hgr, .inl rfl⟩
    · by_cases hj : j < xs.length
      · rw [World.cell?_setCells_out b _ _ _ _ (fun _ _ => Or.inl (by show off + j < off + n * i.size; omega))]
        rw [List.getElem?_append_left hj] at hu
        exact hx j u hu
      · rw [List.getElem?_append_right (by omega)] at hu
        have hlt := (List.getElem?_eq_some_iff.1 hu).1
        have := World.cell?_setCells_in b news (off + n * i.size) w hsome (j - xs.length) hlt
        rw [show off + n * i.size + (j - xs.length) = off + j by omega] at this
        rw [this, ← hu, List.getElem?_eq_getElem hlt]
    · exact World.isSome_setCells b _ _ _ _ (hsp j hj).1
    · rw [World.frozen?_setCells]
      exact (hsp j hj).2
  · rcases Nat.eq_zero_or_pos cap with h0' | hcap
    · subst h0'
      obtain rfl : n = 0 := by omega
      obtain rfl : xs = [] := List.eq_nil_of_length_eq_zero (by simpa using h0)
      cases ao with
      | none =>
        obtain ⟨v', w', hrun, r1, r2, _⟩ := run_append_own_at (P := P) w w.heap.size t ty e i z i.size bytes ht hi hz rfl hby hzs hsz (.slice none 0 0) 0 [] (World.ownsRow_nil w _ e i.size) a 1 c news hl hnews h1 (by simpa using h63) (by simpa using hbytes) (Nat.le_refl _)
        exact ⟨v', w', hrun, fresh (by simpa using r1) ⟨r2.os, r2.tape, r2.output, r2.size, fun k hk _ => r2.block k hk (by simp [Value.ownBlock])⟩⟩
      | some a' =>
        obtain ⟨v', w', hrun, r1, r2⟩ := run_append_arg_grows (P := P) w t ty e i z i.size bytes ht hi hz rfl hby hzs hsz a' 0 0 [] (by simp) (by intro _ _ h'; simp at h') a 1 c news hl hnews (by omega) (by simpa using h63) (by simpa using hbytes)
        exact ⟨v', w', hrun, fresh (by simpa using r1) r2⟩
    · obtain ⟨b, off, rfl, hx, hsp⟩ := hcell hcap
      obtain ⟨v', w', hrun, r1, r2⟩ := run_append_arg_grows (P := P) w t ty e i z i.size bytes ht hi hz rfl hby hzs hsz ⟨b, off, none⟩ n cap xs h0 (fun j u hu => by rw [Addr.add_lit]; exact hx j u hu) a 1 c news hl hnews (by omega) h63 hbytes
      exact ⟨v', w', hrun, fresh r1 r2⟩
end
section
variable {base size n : Nat} {w w' : World} {xs : List Value}
/-- the row without its first -/
theorem Win.tail {ao : Option Addr} {cap : Nat} {x : List Value} (h : Win base w size (.slice ao (n + 1) cap) (n + 1) (x ++ xs)) (hx : x.length = size) :
    Win base w size (.slice (if cap = 1 then ao else ao.map (·.add size)) n (cap - 1)) n xs := by
  obtain ⟨h0, ao', cap', e, hc1, hc2, hb, hcell⟩ := h
  injection e with e1 _ e2
  subst e1 e2
  refine ⟨by rw [List.length_append, hx, Nat.add_mul] at h0; omega, _, _, rfl, by omega, by omega, fun b e => ?_, fun hc => ?_⟩
  · refine hb b ?_
    rw [← e]
    split
    · cases ao <;> rfl
    · cases ao with
      | none => rfl
      | some a => simp [Value.ownBlock, Addr.add]; split <;> rfl
  · obtain ⟨b, off, rfl, h5, h6⟩ := hcell (by omega)
    rw [if_neg (by omega)]
    refine ⟨b, off + size, by simp [Addr.add_lit], fun j u hu => ?_, fun j hj => ?_⟩
    · have := h5 (size + j) u (by rw [List.getElem?_append_right (by omega), hx]; simpa using hu)
      rwa [← Nat.add_assoc] at this
    · have hm : (cap - 1) * size + 1 * size = cap * size := by rw [← Nat.add_mul]; congr 1; omega
      have := h6 (size + j) (by omega)
      rwa [← Nat.add_assoc] at this
theorem tail_block {ao : Option Addr} {cap size : Nat} {m k : Nat} : (Value.slice (if cap = 1 then ao else ao.map (·.add size)) m (cap - 1)).ownBlock = (Value.slice ao k cap).ownBlock := by
  split
  · cases ao <;> rfl
  · cases ao with
    | none => rfl
    | some a => simp [Value.ownBlock, Addr.add]; split <;> rfl
end
end Go.Proofs.Ytmdoiokgfdolpaa
