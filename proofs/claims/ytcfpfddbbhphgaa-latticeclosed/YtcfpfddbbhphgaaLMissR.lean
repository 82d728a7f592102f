/- The document's own Missing; two rows of flows. -/
import Derived.Test.YtcfpfddbbhphgaaLMiss
import Derived.Test.YtcfpfddbbhphgaaLRefA
import Derived.Test.YtcfpfddbbhphgaaRefClo2
namespace Go.Proofs.Ytcfpfddbbhphgaa
open Go.RowKit Go.Shelf

theorem tb_lack {n : Nat} (hn : n ≤ 64) {z : Nat → Int} (hz : Bds n z) {i : Nat} (hi : i < n) (j : Nat) : tb (lackI n z i) j = (tb (clo n z i) j && !tb (z i) j) :=
  tb_anI (clo_bd hn hz i).2 (hz i hi).1 (hz i hi).2 j
theorem lack_row {n : Nat} (hn : n ≤ 64) {z : Nat → Int} (hz : Bds n z) (hk : chkI n z = 0) {i : Nat} (hi : i < n) : memsTo (lackI n z i) n = mems (lackI n z i) := by
  refine memsTo_all hn (rowOk_iff.2 fun j _ ht => ?_)
  rw [tb_lack hn hz hi, Bool.and_eq_true] at ht
  exact clo_in hn hz (fun i j hi ht => in_rows hk hz hi ht) ht.1
/-- what is missing, up to the row a and there up to b -/
def msAt (n : Nat) (z : Nat → Int) (a b : Nat) : List (Nat × Nat) := msTo n z a ++ (memsTo (lackI n z a) b).map fun j => (a, j)
theorem msAt_zero (n : Nat) (z : Nat → Int) (a : Nat) : msAt n z a 0 = msTo n z a := by simp [msAt, memsTo_zero]
theorem msAt_hit {n : Nat} {z : Nat → Int} {a b : Nat} (h : tb (lackI n z a) b = true) : msAt n z a (b + 1) = msAt n z a b ++ [(a, b)] := by simp [msAt, memsTo_hit _ _ h]
theorem msAt_miss {n : Nat} {z : Nat → Int} {a b : Nat} (h : tb (lackI n z a) b = false) : msAt n z a (b + 1) = msAt n z a b := by simp [msAt, memsTo_miss _ _ h]
theorem msAt_len (n : Nat) (z : Nat → Int) (a b : Nat) : (msAt n z a b).length ≤ a * 64 + b := by
  have h1 := msTo_len n z a
  have h2 := memsTo_le (lackI n z a) b
  simp [msAt]; omega

set_option maxRecDepth 100000 in
set_option maxHeartbeats 4000000 in
theorem rmissing_ok (a : Option Addr) (n cap : Nat) (z : Nat → Int) (w : World) (hc : Cells w .u64 a n z) (hz : Bds n z) (hk : shpE n z = 0) :
    Calls Try.prog 11 #[.slice a n cap] w fun e w' => ∃ v, e = .returned (.tuple #[v, .int .i64 0]) ∧ w'.ownsRow w.heap.size 38 2 v (msTo n z n).length (encF (msTo n z n)) ∧ Below w.heap.size w w' := by
  obtain ⟨i0, hi, hz0, hz1, hz2⟩ := info_parts Try.infoF
  obtain ⟨h1, h16, hchk⟩ := shpE_ok hk
  have HZ : Hid (Bds n z) := hz
  have HC : Hid (Cells w .u64 a n z) := hc
  have HCl : Hid (Bd (clo n z)) := clo_bd (by omega) hz
  have HLk : Hid (∀ i, i < n → ∀ j, tb (lackI n z i) j = (tb (clo n z i) j && !tb (z i) j)) := fun i hi j => tb_lack (by omega) hz hi j
  have HRow : Hid (∀ i, i < n → msAt n z i n = msTo n z (i + 1)) := fun i hi => by
    show msTo n z i ++ (memsTo (lackI n z i) n).map (fun j => (i, j)) = _
    rw [lack_row (by omega) hz hchk hi, msTo_succ]
  have hsh := rshape_un a n cap z w (by omega) hc hz
  rw [hk] at hsh
  have hcl := fun w' h => rclosure_un a n cap z w' (by omega) h hz
  rw [hchk] at hcl
  have hl : lenIf 0 n = n := by simp [lenIf]
  clear hc hz hk hchk
  go_enter Try.func11, Try.ntmps11
  go_wp2_with fail
  refine hsh.mono ?_
  rintro e w1 ⟨rfl, hb1⟩
  clear hsh
  go_wp2_with fail
  refine (hcl _ (HC.out.below hb1)).mono ?_
  rintro e w2 ⟨c, cc, rfl, hcc, hb2⟩
  rw [hl] at hcc
  rw [hl]
  have HCC : Hid (Cells w2 .u64 c n (clo n z)) := hcc
  have hbw := Below.onto hb1 hb2
  clear hcc hcl hb1 hb2
  go_wp2_with fail
  go_loopw [7, 8] (fun v i wr => ∃ p : Nat, p ≤ n ∧ i = .int .i64 p ∧ wr.ownsRow w2.heap.size 38 2 v (msTo n z p).length (encF (msTo n z p)) ∧ Below w2.heap.size w2 wr) (fun _ i _ => n - (intOf i).toNat)
  case atStart => exact ⟨0, Nat.zero_le _, rfl, World.ownsRow_nil _ _ _ _, Below.refl _ _⟩
  case round =>
    obtain ⟨p, hp, rfl, hown, hbel⟩ := hrel
    by_cases hlt : p < n
    · obtain ⟨p0, p1⟩ := HZ.out p hlt
      obtain ⟨c0, c1⟩ := HCl.out p
      go_wp2_with fail
      go_loopw [7, 9] (fun v i wr => ∃ q : Nat, q ≤ n ∧ i = .int .i64 q ∧ wr.ownsRow w2.heap.size 38 2 v (msAt n z p q).length (encF (msAt n z p q)) ∧ Below w2.heap.size w2 wr) (fun _ i _ => n - (intOf i).toNat)
      case atStart => exact ⟨0, Nat.zero_le _, rfl, by rw [msAt_zero]; exact hown, hbel⟩
      case round =>
        clear hown hbel
        obtain ⟨q, hq, rfl, hown, hbel⟩ := hrel
        have hlen := msAt_len n z p q
        by_cases hlq : q < n
        · obtain ⟨b1, o1, rfl, hcc⟩ := HCC.out.below hbel p hlt
          obtain ⟨b2, o2, rfl, hcz⟩ := HC.out.below (Below.onto hbw hbel) p hlt
          have hlk := HLk.out p hlt q
          cases ht : tb (clo n z p) q
          · have HN : Hid (msAt n z p (q + 1) = msAt n z p q) := msAt_miss (by rw [hlk, ht]; rfl)
            have hh := fun w => rhas_at (clo n z p) q w c0 c1 (by omega) false ht
            clear ht hlk
            go_wp2_with fail
            refine (hh _).mono ?_
            rintro e w3 ⟨rfl, e3⟩
            subst e3
            go_wp2_with fail
            go_roundw
            case rel => exact ⟨q + 1, by omega, by go_num, by rw [HN.out]; exact hown, hbel⟩
            case measure => simp [intOf]; omega
          · have hh := fun w => rhas_at (clo n z p) q w c0 c1 (by omega) true ht
            cases hs : tb (z p) q
            · have HN : Hid (msAt n z p (q + 1) = msAt n z p q ++ [(p, q)]) := msAt_hit (by rw [hlk, ht, hs]; rfl)
              have hh2 := fun w => rhas_at (z p) q w p0 p1 (by omega) false hs
              clear ht hs hlk
              generalize msAt n z p q = L at *
              go_wp2_with fail
              refine (hh _).mono ?_
              rintro e w3 ⟨rfl, e3⟩
              subst e3
              go_wp2_with fail
              refine (hh2 _).mono ?_
              rintro e w4 ⟨rfl, e4⟩
              subst e4
              clear hh hh2
              go_wp2_with (at_builtin; refine wpList_append_own _ rfl _ _ 24 rfl w2.heap.size 38 i0 (.agg #[.int .i64 0, .int .i64 0]) 2 16 Try.underlying24 hi hz0 hz1 hz2 rfl (by decide) _ _ _ rfl (hown.alloc _) ⟨w4.heap.size, 0, none⟩ 1 1 [.int .i64 p, .int .i64 q] rfl rfl (cell_two_new _ _ _ _) (by simp [Value.oneCell']) (by unfold maxLen; omega) (by omega) (by have := hbel.size; simp; omega) ?_; intro v' w5 hown' hgrow _)
              go_roundw
              case rel =>
                refine ⟨q + 1, by omega, by go_num, ?_, ?_⟩
                · rw [HN.out, encF_snoc, List.length_append]; exact hown'
                · exact (hbel.alloc hbel.size _).grown hgrow (by have := hbel.size; simp; omega) (own_ge hown)
              case measure => simp [intOf]; omega
            · have HN : Hid (msAt n z p (q + 1) = msAt n z p q) := msAt_miss (by rw [hlk, ht, hs]; rfl)
              have hh2 := fun w => rhas_at (z p) q w p0 p1 (by omega) true hs
              clear ht hs hlk
              go_wp2_with fail
              refine (hh _).mono ?_
              rintro e w3 ⟨rfl, e3⟩
              subst e3
              go_wp2_with fail
              refine (hh2 _).mono ?_
              rintro e w4 ⟨rfl, e4⟩
              subst e4
              go_wp2_with fail
              go_roundw
              case rel => exact ⟨q + 1, by omega, by go_num, by rw [HN.out]; exact hown, hbel⟩
              case measure => simp [intOf]; omega
        · obtain rfl : q = n := by omega
          go_wp2
          go_roundw
          case rel => exact ⟨p + 1, by omega, by go_num, by rw [← HRow.out p hlt]; exact hown, hbel⟩
          case measure => simp [intOf]; omega
    · obtain rfl : p = n := by omega
      go_wp2
      go_ret2
      exact ⟨_, rfl, own_mono hown hbw.size, Below.onto hbw hbel⟩

set_option maxHeartbeats 1000000 in
theorem rmissing_bad (a : Option Addr) (n cap : Nat) (z : Nat → Int) (w : World) (hn : n < 9223372036854775807) (hc : Cells w .u64 a n z) (hz : Bds n z) (hk : shpE n z ≠ 0) :
    Calls Try.prog 11 #[.slice a n cap] w fun e w' => e = .returned (.tuple #[.slice none 0 0, .int .i64 (shpE n z)]) ∧ Below w.heap.size w w' := by
  have hsh := rshape_un a n cap z w hn hc hz
  have hne : (shpE n z != 0) = true := by simp [hk]
  generalize shpE n z = c at *
  clear hc hz hk
  go_enter Try.func11, Try.ntmps11
  go_wp2_with fail
  refine hsh.mono ?_
  rintro e w1 ⟨rfl, hb1⟩
  go_wp2_with fail
  go_ret2
  exact ⟨rfl, hb1⟩

/-! ### two rows of flows -/
/-- m flows at the slice a: from x 0, x 1, .. to y 0, y 1, .. -/
def FCells (w : World) (a : Option Addr) (m : Nat) (x y : Nat → Int) : Prop :=
  ∀ j, j < m → ∃ g, a = some ⟨g, 0, none⟩ ∧ w.cell? ⟨g, j * 2, none⟩ = some (.int .i64 (x j)) ∧ w.cell? ⟨g, j * 2 + 1, none⟩ = some (.int .i64 (y j))
theorem FCells.below {w w' : World} {a : Option Addr} {m : Nat} {x y : Nat → Int} (h : FCells w a m x y) (hb : Below w.heap.size w w') : FCells w' a m x y := fun j hj => by
  obtain ⟨g, e, h1, h2⟩ := h j hj
  exact ⟨g, e, (hb.cell (p := ⟨g, j * 2, none⟩) (cell_lt h1)).trans h1, (hb.cell (p := ⟨g, j * 2 + 1, none⟩) (cell_lt h2)).trans h2⟩
def fstAt (l : List (Nat × Nat)) (j : Nat) : Int := ((l[j]?.getD (0, 0)).1 : Nat)
def sndAt (l : List (Nat × Nat)) (j : Nat) : Int := ((l[j]?.getD (0, 0)).2 : Nat)
theorem encF_at (l : List (Nat × Nat)) : ∀ j, j < l.length → (encF l)[j * 2]? = some (.int .i64 (fstAt l j)) ∧ (encF l)[j * 2 + 1]? = some (.int .i64 (sndAt l j)) := by
  induction l with
  | nil => intro j hj; simp at hj
  | cons p l ih =>
    intro j hj
    have e : encF (p :: l) = .int .i64 (p.1 : Int) :: .int .i64 (p.2 : Int) :: encF l := by simp [encF]
    cases j with
    | zero => rw [e]; exact ⟨rfl, rfl⟩
    | succ j =>
      have h := ih j (by simpa using hj)
      rw [e, show (j + 1) * 2 = j * 2 + 1 + 1 by omega]
      exact h
theorem fcells_of_own {w : World} {base e : Nat} {v : Value} {l : List (Nat × Nat)} (h : w.ownsRow base e 2 v l.length (encF l)) : ∃ a cap, v = .slice a l.length cap ∧ FCells w a l.length (fstAt l) (sndAt l) := by
  rcases h.2 with ⟨rfl, h0⟩ | ⟨g, cap, cur, rfl, hg, _⟩
  · rw [h0]; exact ⟨none, 0, rfl, fun j hj => absurd hj (by omega)⟩
  · refine ⟨some ⟨g, 0, none⟩, cap, rfl, fun j hj => ⟨g, rfl, ?_, ?_⟩⟩
    · rw [h.cellAt (j * 2) (by omega)]; exact (encF_at l j hj).1
    · rw [h.cellAt (j * 2 + 1) (by omega)]; exact (encF_at l j hj).2

set_option maxHeartbeats 1000000 in
theorem sameFlows_true (a b : Option Addr) (m ca cb : Nat) (x y : Nat → Int) (w : World) (hm : m < 4611686018427387904) (ha : FCells w a m x y) (hb : FCells w b m x y) :
    Calls Try.prog 16 #[.slice a m ca, .slice b m cb] w fun e w' => e = .returned (.bool true) ∧ Below w.heap.size w w' := by
  have HA : Hid (FCells w a m x y) := ha
  have HB : Hid (FCells w b m x y) := hb
  clear ha hb
  go_enter Try.func16, Try.ntmps16
  go_wp2
  go_loopw [5] (fun i wr => ∃ k : Nat, k ≤ m ∧ i = .int .i64 k ∧ Below w.heap.size w wr) (fun i _ => m - (intOf i).toNat)
  case atStart => exact ⟨0, by omega, rfl, Below.refl _ _⟩
  case round =>
    obtain ⟨k, hk, rfl, hbel⟩ := hrel
    by_cases hlt : k < m
    · obtain ⟨g1, rfl, hc1, hd1⟩ := HA.out.below hbel k hlt
      obtain ⟨g2, rfl, hc2, hd2⟩ := HB.out.below hbel k hlt
      go_wp2
      go_quiet (fail)
      go_wp2
      go_roundw
      case rel => exact ⟨k + 1, by omega, by go_num, below_drewN hbel nq⟩
      case measure => simp [intOf]; omega
    · obtain rfl : k = m := by omega
      go_wp2
      go_ret
      exact ⟨rfl, hbel⟩

end Go.Proofs.Ytcfpfddbbhphgaa
