/- Order, the program's and the document's. -/
import Derived.Test.YtimmjhegeagofaaEOrd1
import Derived.Test.YtimmjhegeagofaaESame
namespace Go.Proofs.Ytimmjhegeagofaa
open Go.RowKit Go.Sort Go.Shelf
set_option maxRecDepth 100000

/-- numbered as they lie -/
def Num1 (E : List En) : Prop := ∀ j e, E[j]? = some e → e.n = j + 1 ∧ -128 ≤ e.k ∧ e.k ≤ 127
theorem take_one {E : List En} (h : Num1 E) {j : Nat} (hj : j < E.length) : E.take (j + 1) = E.take j ++ [⟨E[j].k, E[j].m, j + 1⟩] := by
  rw [List.take_succ_eq_append_getElem hj]
  have := (h j E[j] (by simp [hj])).1
  rw [← this]
set_option maxHeartbeats 2000000 in
theorem eorder (a : Option Addr) (n cap : Nat) (E : List En) (w : World) (t : Tr w a n E) (hE : Num1 E) (hn : n ≤ 1000) :
    Calls Try.prog 18 #[.func (.func 10) #[] #[], .slice a n cap] w fun e w' => ∃ v T, e = .returned v ∧ w'.ownsRow 0 27 2 v T.length (encT T) ∧ Dr True E T [] ∧ Below w.heap.size w w' ∧ ∀ b, v.ownBlock = some b → w.heap.size ≤ b := by
  have cN := newA lessL w lessOk trivial
  change Calls Try.prog _ #[.func (.func 10) #[] #[]] w _ at cN
  have HT : Hid (Tr w a n E) := t
  have HE : Hid (Num1 E) := hE
  have hlen : E.length = n := t.len
  clear t hE
  go_enter Try.func18, Try.ntmps18
  go_wp2_with fail
  refine cN.mono ?_
  rintro v w1 ⟨p, rfl, a1, _, b1⟩
  have A1 : Hid (Ag lessL w1 p [] 0 (fun b => b < w.heap.size)) := a1.less fun _ h => ⟨h, fun h' => h'⟩
  have B1 : Hid (Below w.heap.size w w1) := b1
  clear cN a1 b1
  go_wp2_with fail
  go_loopw [12] (fun v wr => ∃ i : Nat, v = .int .i64 (i : Int) ∧ i ≤ n ∧ Hid (Below w.heap.size w wr) ∧ Hid (Ag lessL wr p (E.take i) i (fun b => b < w.heap.size))) (fun v _ => n - (intOf v).toNat)
  case atStart => exact ⟨0, rfl, Nat.zero_le _, B1, A1⟩
  case round =>
    obtain ⟨i, rfl, hi, HB, HA⟩ := hrel
    by_cases hlt : i < n
    · obtain ⟨b, off, rfl, c1, c2⟩ := (HT.out.below HB.out).at_ i E[i] (by simp [hlen, hlt])
      have HX : Hid (Below wr.heap.size wr (bxV wr E[i].k E[i].m)) := (Below.refl _ wr).alloc (Nat.le_refl _) _
      have cP := pushA (HA.out.below HX.out) (by omega) E[i].k E[i].m (HE.out i E[i] (by simp [hlen, hlt])).2
      have HK : Hid (E.take (i + 1) = _) := take_one HE.out (hlen ▸ hlt)
      generalize E[i].k = k at *
      generalize E[i].m = m at *
      unfold bxV thV at cP
      go_wp2_with fail
      refine cP.mono ?_
      rintro e w2 ⟨rfl, a2, b2⟩
      have HA2 : Hid (Ag lessL w2 p (E.take (i + 1)) (i + 1) (fun b => b < w.heap.size)) := by rw [HK.out]; exact a2
      have HB2 : Hid (Below w.heap.size w w2) := eels (Below.onto HB.out HX.out) b2 fun _ h => h
      clear cP a2 b2 c1 c2
      go_wp2_with fail
      go_roundw
      case rel => exact ⟨i + 1, by simp, hlt, HB2, HA2⟩
      case measure => simp only [intOf]; omega
    · obtain rfl : i = n := by omega
      have cD := eDrain p wr
      obtain ⟨w2, hw2⟩ : ∃ w2, bx1 wr (.func (.func 24) #[ptr p] #[]) 38 = w2 := ⟨_, rfl⟩
      have a2 : Ag lessL (bx1 wr (.func (.func 24) #[ptr p] #[]) 38) p (E.take i) i _ := HA.out.box _
      rw [hw2] at a2
      rw [hw2] at cD
      have k2 : Blk w2 wr.heap.size 38 [.func (.func 24) #[ptr p] #[]] := by rw [← hw2]; exact blk_new wr _ _
      have hb2 : Below wr.heap.size wr w2 := by rw [← hw2]; exact (Below.refl _ wr).alloc (Nat.le_refl _) _
      have HB2 : Hid (Below w.heap.size w w2) := Below.onto HB.out hb2
      have cC := ecollect lessL p i (fun b => b < w.heap.size) wr.heap.size (E.take i) w2 a2 k2 (fun b h => by have := HB2.out.size; omega)
      rw [List.take_of_length_le (by omega)] at cC
      clear a2 k2 hb2 hw2
      go_wp2_with fail
      refine cD.mono ?_
      rintro e w' ⟨rfl, hw'⟩
      subst hw'
      clear cD
      go_wp2_with fail
      refine cC.mono ?_
      rintro e w3 ⟨v, T, rfl, o3, d3, b3, v3⟩
      have HR : Hid (w3.ownsRow 0 27 2 v T.length (encT T) ∧ Dr True E T [] ∧ Below w.heap.size w w3 ∧ ∀ b, v.ownBlock = some b → w.heap.size ≤ b) := ⟨o3, d3, eels HB2.out b3 fun _ h => h, fun b hb => by have := v3 b hb; have := HB2.out.size; omega⟩
      clear cC o3 d3 b3 v3
      go_wp2_with fail
      go_ret
      exact ⟨v, T, rfl, HR.out⟩
end Go.Proofs.Ytimmjhegeagofaa
