/- Order, the document's. -/
import Derived.Test.YtimmjhegeagofaaEOrd2
import Derived.Test.YtimmjhegeagofaaERefD
namespace Go.Proofs.Ytimmjhegeagofaa
open Go.RowKit Go.Sort Go.Shelf
set_option maxRecDepth 100000

theorem rn_new (w : World) : Rn (w.alloc (.cells #[.slice none 0 0, .int .i64 0] 32)) w.heap.size [] 0 (fun b => b < w.heap.size) :=
  ⟨List.Pairwise.nil, .slice none 0 0, ⟨blk_new w [.slice none 0 0, .int .i64 0] _, World.ownsRow_nil _ _ _ _, by simp⟩, fun b hb' => ⟨by rw [World.size_alloc]; omega, fun h => by
    rcases h with h | h
    · omega
    · cases h⟩⟩
theorem num_take {E : List En} (h : Num1 E) (i : Nat) : ∀ y, y ∈ E.take i → y.n ≤ i := fun y hy => by
  obtain ⟨j, hj⟩ := List.getElem?_of_mem hy
  have hl := (List.getElem?_eq_some_iff.1 hj).1
  rw [List.length_take] at hl
  rw [List.getElem?_take_of_lt (by omega)] at hj
  have := (h j y hj).1
  omega
theorem Rn.grow {w w' : World} {r : Nat} {D : List En} {last : Nat} {Y S : Nat → Prop} (a : Rn w r D last Y) (h : But S w w') (hS : ∀ b, S b → Y b) : Rn w' r D last (fun b => Y b ∨ (w.heap.size ≤ b ∧ b < w'.heap.size)) := by
  obtain ⟨s, rv, x, hy⟩ := a
  refine ⟨s, rv, x.but h (fun b hb hs => (hy b (hS b hs)).2 hb), fun b hb => ?_⟩
  rcases hb with hb | hb
  · exact ⟨Nat.lt_of_lt_of_le (hy b hb).1 h.size, (hy b hb).2⟩
  · exact ⟨hb.2, fun h' => by have := x.lt h'; omega⟩
/-- what is gathered, what is left -/
structure Ro2 (r n : Nat) (E : List En) (w W : World) (v : Value) (T D' : List En) : Prop where
  ow : W.ownsRow 0 27 2 v T.length (encT T)
  rn : Rn W r D' n (fun b => b < r ∨ v.ownBlock = some b)
  dr : Dr True E T D'
  be : Below r w W
  vb : ∀ b, v.ownBlock = some b → r ≤ b
theorem Ro2.out {r n : Nat} {E : List En} {w W : World} {v : Value} {T D' : List En} (k : Ro2 r n E w W v T D') : outN r W = D'.length := by
  obtain ⟨_, rv, x, _⟩ := k.rn
  obtain ⟨a, cap, hv, _⟩ := x.form
  have := x.bl.cell (i := 0) rfl
  rw [hv] at this
  unfold outN
  rw [this]
set_option maxHeartbeats 2000000 in
theorem rorder (a : Option Addr) (n cap : Nat) (E : List En) (w : World) (t : Tr w a n E) (hE : Num1 E) (hn : n ≤ 1000) :
    Calls Try.prog 20 #[.slice a n cap] w fun e w' => ∃ v T, e = .returned v ∧ w'.ownsRow 0 27 2 v T.length (encT T) ∧ Dr True E T [] ∧ Below w.heap.size w w' ∧ ∀ b, v.ownBlock = some b → w.heap.size ≤ b := by
  have HT : Hid (Tr w a n E) := t
  have HE : Hid (Num1 E) := hE
  have hlen : E.length = n := t.len
  clear t hE
  go_enter Try.func20, Try.ntmps20
  go_wp2_with fail
  have R1 : Hid (Rn (w.alloc (.cells #[.slice none 0 0, .int .i64 0] 32)) w.heap.size [] 0 (fun b => b < w.heap.size)) := rn_new w
  have B1 : Hid (Below w.heap.size w (w.alloc (.cells #[.slice none 0 0, .int .i64 0] 32))) := (Below.refl _ w).alloc (Nat.le_refl _) _
  generalize w.alloc (.cells #[.slice none 0 0, .int .i64 0] 32) = w1 at *
  generalize hr : w.heap.size = r at *
  go_loopw [4] (fun v wr => ∃ i : Nat, v = .int .i64 (i : Int) ∧ i ≤ n ∧ Hid (Below r w wr) ∧ Hid (Rn wr r (E.take i) i (fun b => b < r))) (fun v _ => n - (intOf v).toNat)
  case atStart => exact ⟨0, rfl, Nat.zero_le _, B1, R1⟩
  case round =>
    obtain ⟨i, rfl, hi, HB, HA⟩ := hrel
    by_cases hlt : i < n
    · obtain ⟨b, off, rfl, c1, c2⟩ := (HT.out.below (hr ▸ HB.out)).at_ i E[i] (by simp [hlen, hlt])
      have cP := pushR HA.out (by omega) (by rw [List.length_take]; omega) (num_take HE.out i) E[i].k E[i].m
      have HK : Hid (E.take (i + 1) = _) := take_one HE.out (hlen ▸ hlt)
      generalize E[i].k = k at *
      generalize E[i].m = m at *
      unfold thV at cP
      go_wp2_with fail
      refine cP.mono ?_
      rintro e w2 ⟨rfl, a2, b2⟩
      have HA2 : Hid (Rn w2 r (E.take (i + 1)) (i + 1) (fun b => b < r)) := by rw [HK.out]; exact a2
      have HB2 : Hid (Below r w w2) := by have h := HB.out; rw [← hr] at h b2 ⊢; exact eels h b2 fun _ h => h
      clear cP a2 b2 c1 c2
      go_wp2_with fail
      go_roundw
      case rel => exact ⟨i + 1, by simp, hlt, HB2, HA2⟩
      case measure => simp only [intOf]; omega
    · obtain rfl : i = n := by omega
      have HA0 : Hid (Rn wr r E i (fun b => b < r)) := by have h := HA.out; rw [List.take_of_length_le (by omega)] at h; exact h
      clear HA
      go_wp2_with fail
      have K0 : Hid (Ro2 r i E w wr (.slice none 0 0) [] E) := ⟨World.ownsRow_nil _ _ _ _, HA0.out.less fun b hb => hb.elim id (fun h => by cases h), .nil, HB.out, fun b h => by cases h⟩
      have HS : Hid (Srt E) := HA0.out.1
      clear HA0 HB
      go_loopw [5] (fun v wr => ∃ (T D' : List En), Hid (Ro2 r i E w wr v T D')) (fun _ wr => outN r wr)
      case atStart => exact ⟨[], E, K0⟩
      case round =>
        clear K0
        obtain ⟨T, D1, K1⟩ := hrel
        have ON : Hid (outN r wr = D1.length) := K1.out.out
        have HL : Hid (T.length + D1.length = E.length) := K1.out.dr.len HS.out
        obtain ⟨_, rv, x, hy⟩ := K1.out.rn
        obtain ⟨ra, rc, hrv, hr1, hr2⟩ := x.form
        have c0 := x.bl.cell (i := 0) rfl
        have hdl := x.bd.1
        clear x hy
        subst hrv
        obtain ⟨a5, cp5, hv5⟩ := eown_form K1.out.ow
        by_cases hD : D1 = []
        · subst hD
          subst hv5
          have HR : Hid (wr.ownsRow 0 27 2 (.slice a5 T.length cp5) T.length (encT T) ∧ Dr True E T [] ∧ Below r w wr ∧ ∀ b, (Value.slice a5 T.length cp5).ownBlock = some b → r ≤ b) := ⟨K1.out.ow, K1.out.dr, K1.out.be, K1.out.vb⟩
          go_wp2_with fail
          go_ret
          rw [hr]
          exact ⟨_, T, rfl, HR.out⟩
        · have hpos := List.length_pos_iff.2 hD
          have cP := PopR K1.out.rn hD
          unfold tlV thV at cP
          go_wp2_with fail
          refine cP.mono ?_
          rintro e w2 ⟨en, hB, rfl, a2, b2⟩
          clear cP c0
          have hb3 : Below w2.heap.size w2 (bxV w2 en.k en.m) := (Below.refl _ w2).alloc (Nat.le_refl _) _
          have ow2 : w2.ownsRow 0 27 2 u5 T.length (encT T) := eown_block K1.out.ow fun b hb => b2.block b (K1.out.ow.lt b hb).2 (fun hn => hn (.inr hb))
          have ow3 : (bxV w2 en.k en.m).ownsRow 0 27 2 u5 T.length (encT T) := eown_block ow2 fun b hb => hb3.block b (ow2.lt b hb).2
          have be2 : Below r w w2 := by have h := K1.out.be; rw [← hr] at h b2 ⊢; exact eels h b2 fun _ h => .inl h
          obtain ⟨v4, w4, hrun, ow4, b4, loc4⟩ := eapp u5 T.length (encT T) en.k en.m (bxV w2 en.k en.m) (by have := HL.out; omega) ow3
          have x0 := (blk_new w2 [.int .i8 en.k, .int .i64 en.m] 27).cell (i := 0) rfl
          have x1 := (blk_new w2 [.int .i8 en.k, .int .i64 en.m] 27).cell (i := 1) rfl
          have K4 : Hid (Ro2 r i E w w4 v4 (T ++ [en]) (dropD D1 en.n)) := by
            have a3 := a2.below hb3
            have be4 : But (fun b => r ≤ b) w w4 := by
              refine ((show But (fun b => r ≤ b) w w2 from ⟨be2.os, be2.tape, be2.output, be2.size, fun b _ hn => be2.block b (by omega)⟩).trans (But.of hb3)).trans (b4.mono fun b hb => K1.out.vb b hb)
            refine ⟨?_, ?_, K1.out.dr.snoc hB.1 (fun _ => hB), be4.below (by omega) (fun _ h => h), ?_⟩
            · rw [encT_snoc, List.length_append]; exact ow4
            · refine (a3.grow b4 (fun b hb => .inr hb)).less fun b hb => ?_
              rcases hb with h | h
              · exact .inl (.inl h)
              · rcases loc4 with e | ⟨b', e, hb'⟩
                · exact .inl (.inr (by rw [← e]; exact h))
                · rw [e] at h; injection h with h; subst h
                  exact .inr ⟨hb', (ow4.lt b' e).2⟩
            · intro b h
              rcases loc4 with e | ⟨b', e, hb'⟩
              · exact K1.out.vb b (by rw [← e]; exact h)
              · rw [e] at h; injection h with h; subst h
                have := be2.size; have := hb3.size; omega
          have ON4 : Hid (outN r w4 = (dropD D1 en.n).length) := K4.out.out
          have HD4 : Hid ((dropD D1 en.n).length < D1.length) := by
            have := drop_len (K1.out.dr.srt HS.out) hB.1
            show _ < _; omega
          obtain ⟨a4, cp4, hv4⟩ := eown_form ow4
          subst hv4 hv5
          clear a2 b2 hb3 ow2 ow3 be2 ow4 b4 loc4 hB K1
          unfold bxV at hrun
          rw [World.size_alloc] at hrun
          go_wp2_with (at_builtin; refine wpList_append_run rfl (.tmp 35) (.tmp 37) 43 rfl _ _ _ rfl rfl hrun ?_)
          go_roundw
          case rel => exact ⟨T ++ [en], _, K4⟩
          case measure => rw [ON.out, ON4.out]; exact HD4.out
end Go.Proofs.Ytimmjhegeagofaa
