/- The document's Same, at rows that are the same; a thing more in a row. -/
import Derived.Test.YtimmjhegeagofaaEDo2
namespace Go.Proofs.Ytimmjhegeagofaa
open Go.RowKit Go.Sort
set_option maxRecDepth 100000

theorem encT_len (T : List En) : (encT T).length = T.length * 2 := by
  induction T with
  | nil => rfl
  | cons m l ih => simp [encT] at ih ⊢; omega
theorem encT_at {D : List En} {j : Nat} {e : En} (h : D[j]? = some e) : (encT D)[j * 2]? = some (.int .i8 e.k) ∧ (encT D)[j * 2 + 1]? = some (.int .i64 e.m) := by
  have hj := (List.getElem?_eq_some_iff.1 h).1
  have hl : (encT (D.take j)).length = j * 2 := by rw [encT_len, List.length_take]; congr 1; omega
  have hd : D = D.take j ++ e :: D.drop (j + 1) := by
    rw [← (List.getElem?_eq_some_iff.1 h).2]
    simp
  have key : encT D = encT (D.take j) ++ ([.int .i8 e.k, .int .i64 e.m] ++ encT (D.drop (j + 1))) := by
    conv => lhs; rw [hd]
    rw [encT_app]
    simp [encT]
  rw [key]
  refine ⟨?_, ?_⟩ <;> rw [List.getElem?_append_right (by omega)] <;> simp [hl]
/-- a row of things that is read -/
structure Tr (W : World) (a : Option Addr) (n : Nat) (T : List En) : Prop where
  len : T.length = n
  at_ : ∀ j e, T[j]? = some e → ∃ b off, a = some ⟨b, off, none⟩ ∧ W.cell? ⟨b, off + j * 2, none⟩ = some (.int .i8 e.k) ∧ W.cell? ⟨b, off + j * 2 + 1, none⟩ = some (.int .i64 e.m)
theorem tr_own {W : World} {a : Option Addr} {n cap : Nat} {T : List En} (h : W.ownsRow 0 27 2 (.slice a n cap) n (encT T)) (hn : T.length = n) : Tr W a n T := by
  refine ⟨hn, fun j e hj => ?_⟩
  have hjl := (List.getElem?_eq_some_iff.1 hj).1
  obtain ⟨h1, h2⟩ := encT_at hj
  rcases h.2 with ⟨h', h0⟩ | ⟨g, cap', cur, h', _⟩
  · omega
  · injection h' with h' _ _
    subst h'
    refine ⟨g, 0, rfl, ?_, ?_⟩
    · have := h.cells (g := g) rfl _ _ h1
      rwa [Go.WideShapes.add_plain] at this
    · have := h.cells (g := g) rfl _ _ h2
      rwa [Go.WideShapes.add_plain, ← Nat.add_assoc] at this
theorem Tr.below {W W' : World} {a : Option Addr} {n : Nat} {T : List En} (t : Tr W a n T) (h : Below W.heap.size W W') : Tr W' a n T :=
  ⟨t.len, fun j e hj => by
    obtain ⟨b, off, ha, h1, h2⟩ := t.at_ j e hj
    exact ⟨b, off, ha, (h.cell (p := ⟨b, off + j * 2, none⟩) (cell_lt h1)).trans h1, (h.cell (p := ⟨b, off + j * 2 + 1, none⟩) (cell_lt h2)).trans h2⟩⟩

set_option maxHeartbeats 2000000 in
theorem esame (W : World) (a a2 : Option Addr) (n cap cap2 : Nat) (T : List En) (t1 : Tr W a n T) (t2 : Tr W a2 n T) (hn : n ≤ 100000) :
    Calls Try.prog 19 #[.slice a n cap, .slice a2 n cap2] W fun v W' => v = .returned (.bool true) ∧ Below W.heap.size W W' := by
  have H1 : Hid (Tr W a n T) := t1
  have H2 : Hid (Tr W a2 n T) := t2
  clear t1 t2
  go_enter Try.func19, Try.ntmps19
  go_wp2_with fail
  go_loopw [5] (fun v wr => ∃ i : Nat, v = .int .i64 (i : Int) ∧ i ≤ n ∧ Hid (Below W.heap.size W wr)) (fun v _ => n - (intOf v).toNat)
  case atStart => exact ⟨0, rfl, Nat.zero_le _, Below.refl _ _⟩
  case round =>
    obtain ⟨i, rfl, hi, HB⟩ := hrel
    by_cases hin : i < n
    · obtain ⟨e, he⟩ : ∃ e, T[i]? = some e := ⟨T[i]'(by rw [H1.out.len]; exact hin), List.getElem?_eq_getElem _⟩
      obtain ⟨b, off, ha, h1, h2⟩ := (H1.out.below HB.out).at_ i e he
      obtain ⟨b2, off2, ha2, h3, h4⟩ := (H2.out.below HB.out).at_ i e he
      subst ha ha2
      have HB2 : Hid (Below W.heap.size W wr.drew) := HB.out.drew
      go_wp2_with fail
      go_region
      go_wp2_with fail
      go_roundw
      case rel => exact ⟨i + 1, by go_num, by omega, HB2⟩
      case measure => simp [intOf]; omega
    · obtain rfl : i = n := by omega
      go_wp2_with fail
      go_ret
      exact ⟨rfl, HB.out⟩
/-- a thing more in a row of one's own -/
theorem eapp (v : Value) (n : Nat) (xs : List Value) (k m : Int) (W : World) (hn : n ≤ 100000) (hv : W.ownsRow 0 27 2 v n xs) :
    ∃ v' w3, (Builtin.append_ #[43, 43] 43 #[v, .slice (some ⟨W.heap.size, 0, none⟩) 1 1]).run Try.prog (bxV W k m) = .ok v' w3 ∧ w3.ownsRow 0 27 2 v' (n + 1) (xs ++ [.int .i8 k, .int .i64 m]) ∧ But (fun b => v.ownBlock = some b) W w3 ∧ (v'.ownBlock = v.ownBlock ∨ ∃ b, v'.ownBlock = some b ∧ W.heap.size ≤ b) := by
  obtain ⟨i0, hi, hz0, hz1, hz2⟩ := info_parts infoTh
  have b12 : Below W.heap.size W (bxV W k m) := (Below.refl _ W).alloc (Nat.le_refl _) _
  have hnews : ∀ j u, [Value.int .i8 k, .int .i64 m][j]? = some u → (bxV W k m).cell? ((⟨W.heap.size, 0, none⟩ : Addr).add j) = some u := fun j u hj => by
    rw [Go.WideShapes.add_plain, Nat.zero_add]
    exact (blk_new W [.int .i8 k, .int .i64 m] _).cell hj
  obtain ⟨v', w3, hrun, hown, hgrow, _, hloc⟩ := run_append_own_at (P := Try.prog) (w := bxV W k m) 0 43 43 27 i0 (.agg #[.int .i8 0, .int .i64 0]) 2 16 Try.underlying43 hi hz0 hz1 hz2 rfl (by decide) v n xs (eown_block hv fun b hb => b12.block b (hv.lt b hb).2) ⟨W.heap.size, 0, none⟩ 1 1 [.int .i8 k, .int .i64 m] rfl hnews (by simp [Value.oneCell']) (by unfold maxLen; omega) (by omega) (Nat.zero_le _)
  exact ⟨v', w3, hrun, hown, (But.of b12).trans ⟨hgrow.os, hgrow.tape, hgrow.output, hgrow.size, fun b hb hn => hgrow.block b hb fun e => hn e.symm⟩, hloc.imp id fun h => ⟨_, h, b12.size⟩⟩
end Go.Proofs.Ytimmjhegeagofaa
