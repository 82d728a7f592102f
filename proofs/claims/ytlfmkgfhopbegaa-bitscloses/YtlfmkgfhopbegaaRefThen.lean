/- The document's own Then, of relations with as many rows. -/
import Derived.Test.YtlfmkgfhopbegaaRefRel
namespace Go.Proofs.Ytlfmkgfhopbegaa
open Go.RowKit Go.Shelf

def rowSet (acc : Int) (l : List Nat) : Int := l.foldl (fun acc x => setI acc x) acc
theorem rowSet_snoc (acc : Int) (l : List Nat) (x : Nat) : rowSet acc (l ++ [x]) = setI (rowSet acc l) x := by simp [rowSet]
theorem tb_rowSet (l : List Nat) : ∀ (acc : Int) (k : Nat), tb (rowSet acc l) k = (tb acc k || decide (k ∈ l)) := by
  induction l with
  | nil => intro acc k; simp [rowSet]
  | cons x l ih =>
    intro acc k
    show tb (rowSet (setI acc x) l) k = _
    rw [ih, tb_setI]
    by_cases e : k = x
    · subst e; simp
    · simp [e, show ¬ x = k from fun h => e h.symm]
theorem rowSet_bd {acc : Int} (h0 : 0 ≤ acc) (h1 : acc < 18446744073709551616) (l : List Nat) (hl : ∀ x, x ∈ l → x < 64) : 0 ≤ rowSet acc l ∧ rowSet acc l < 18446744073709551616 := by
  unfold rowSet
  induction l generalizing acc with
  | nil => exact ⟨h0, h1⟩
  | cons x l ih => exact ih (setI_nonneg _ _) (setI_lt h1 (hl x (by simp))) (fun q hq => hl q (by simp [hq]))
theorem rowSet_mems {acc r : Int} (h0 : 0 ≤ acc) (hr1 : r < 18446744073709551616) : rowSet acc (mems r) = orI acc r := by
  have hb : 0 ≤ rowSet acc (mems r) := by
    have key : ∀ (l : List Nat) (acc : Int), 0 ≤ acc → 0 ≤ rowSet acc l := by
      intro l
      induction l with
      | nil => exact fun acc h => h
      | cons x l ih => exact fun acc _ => ih _ (setI_nonneg _ _)
    exact key _ _ h0
  refine eq_of_tb hb (orI_nonneg _ _) fun j => ?_
  rw [tb_rowSet, tb_orI]
  congr 1
  rw [Bool.eq_iff_iff, decide_eq_true_iff, mem_mems]
  constructor
  · exact fun h => h.2
  · intro h
    refine ⟨?_, h⟩
    by_cases hj : j < 64
    · exact hj
    · rw [tb_ge hr1 (by omega)] at h; cases h

set_option maxRecDepth 100000 in
set_option maxHeartbeats 4000000 in
theorem rthen_ok (a b : Option Addr) (n ca cb : Nat) (z y : Nat → Int) (w : World) (hc : Cells w .u64 a n z) (hd : Cells w .u64 b n y) (hz : ∀ j, j < n → 0 ≤ z j ∧ z j < 18446744073709551616) (hy : ∀ j, j < n → 0 ≤ y j ∧ y j < 18446744073709551616) (hk : chkI n z = 0) (hl : chkI n y = 0) :
    Calls Try.prog 28 #[.slice a n ca, .slice b n cb] w fun e w' => ∃ g, e = .returned (.tuple #[.slice (some ⟨g, 0, none⟩) n n, .int .i64 0]) ∧ Out w' w.heap.size g n (thenTo z y n) ∧ Below w.heap.size w w' := by
  obtain ⟨i0, hi, hz0, hz1, hz2⟩ := info_parts Try.info23
  have HZ : Hid (∀ j, j < n → 0 ≤ z j ∧ z j < 18446744073709551616) := hz
  have HY : Hid (∀ j, j < n → 0 ≤ y j ∧ y j < 18446744073709551616) := hy
  have hn := (chk_ok hk).1
  have HR : Hid (∀ j, j < n → rowOk n (z j) = true) := chkB_iff.1 (chk_ok hk).2
  have HS : Hid (∀ j, j < n → rowOk n (y j) = true) := chkB_iff.1 (chk_ok hl).2
  have hchk := rcheck_any a n ca z w (by omega) hc hz
  have hchk2 := fun w' h => rcheck_any b n cb y w' (by omega) h hy
  rw [hk] at hchk
  rw [hl] at hchk2
  have HC : Hid (Cells w .u64 a n z) := hc
  have HD : Hid (Cells w .u64 b n y) := hd
  clear hc hz hk hl hy hd
  go_enter Try.func28, Try.ntmps28
  go_wp2_with fail
  refine hchk.mono ?_
  rintro e w0 ⟨rfl, hb0⟩
  go_wp2_with fail
  refine (hchk2 _ (HD.out.below hb0)).mono ?_
  rintro e w1 ⟨rfl, hb01⟩
  have hb1 := Below.onto hb0 hb01
  clear hb0 hb01 hchk hchk2
  go_wp2_with (at_make; refine wpList_make_full _ rfl _ _ 42 rfl w1.heap.size 23 i0 (.int .u64 0) 1 Try.underlying42 hi hz0 hz1 .i64 .i64 _ _ n rfl rfl rfl rfl (by rw [hz2]; omega) (by unfold maxLen; omega) (Nat.le_refl _) ?_; intro w2 hown hgrow)
  rw [made_zero] at hown
  have hb2 : Below w1.heap.size w1 w2 := (Below.refl _ w1).grown hgrow (Nat.le_refl _) (fun k e => by cases e)
  have h0 : Out w2 w.heap.size w1.heap.size n (thenTo z y 0) := Out.congr (own_mono hown hb1.size) (fun j _ => by simp [thenTo])
  have hbw : Below w.heap.size w w2 := Below.onto hb1 hb2
  have hgw := hb1.size
  clear hown hgrow hb1 hb2
  generalize w1.heap.size = g at *
  go_loopw [8] (fun i wr => ∃ k : Nat, k ≤ n ∧ i = .int .i64 k ∧ Out wr w.heap.size g n (thenTo z y k) ∧ Below w.heap.size w wr) (fun i _ => n - (intOf i).toNat)
  case atStart => exact ⟨0, Nat.zero_le _, rfl, h0, hbw⟩
  case round =>
    clear h0 hbw
    obtain ⟨k, hk, rfl, ho, hbel⟩ := hrel
    by_cases hlt : k < n
    · obtain ⟨ba, oa, hab, _⟩ := HC.out.below hbel k hlt
      obtain ⟨bb, ob, hbb, _⟩ := HD.out.below hbel k hlt
      subst hab hbb
      obtain ⟨hk0, hk1⟩ := HZ.out k hlt
      go_wp2
      go_loopw [9] (fun i wr => ∃ j : Nat, j ≤ n ∧ i = .int .i64 j ∧ Out wr w.heap.size g n (upd (thenTo z y k) k (thenRow (memsTo (z k) j) y)) ∧ Below w.heap.size w wr) (fun i _ => n - (intOf i).toNat)
      case atStart => exact ⟨0, Nat.zero_le _, rfl, ho.congr (fun j _ => by
        unfold upd thenTo; by_cases e : j = k
        · subst e; simp [thenRow, memsTo_zero]
        · simp [e]), hbel⟩
      case round =>
        clear ho hbel
        obtain ⟨j, hj, rfl, ho, hbel⟩ := hrel
        by_cases hlj : j < n
        · have hbd := thenRow_bd HY.out (memsTo (z k) j) (fun x hx => by have := (mem_memsTo.1 hx).1; omega)
          obtain ⟨hj0, hj1⟩ := HY.out j hlj
          cases ht : tb (z k) j
          · have hh := fun w => rhas_at (z k) j w hk0 hk1 (by omega) false ht
            have HM : Hid (memsTo (z k) (j + 1) = memsTo (z k) j) := memsTo_miss _ _ ht
            clear ht hbd
            go_wp2
            go_loopw [10] (fun i wr => ∃ q : Nat, q ≤ n ∧ i = .int .i64 q ∧ Out wr w.heap.size g n (upd (thenTo z y k) k (thenRow (memsTo (z k) j) y)) ∧ Below w.heap.size w wr) (fun i _ => n - (intOf i).toNat)
            case atStart => exact ⟨0, Nat.zero_le _, rfl, ho, hbel⟩
            case round =>
              clear ho hbel
              obtain ⟨q, hq, rfl, ho, hbel⟩ := hrel
              by_cases hlq : q < n
              · obtain ⟨b', off', hab', hcell⟩ := HC.out.below hbel k hlt
                cases hab'
                go_wp2_with (go_at_call 15; refine (hh _).mono ?_; rintro e w3 ⟨rfl, hw⟩; subst hw)
                go_roundw
                case rel => exact ⟨q + 1, by omega, by go_num, ho, hbel⟩
                case measure => simp [intOf]; omega
              · obtain rfl : q = n := by omega
                go_wp2
                go_roundw
                case rel => exact ⟨j + 1, by omega, by go_num, by rw [HM.out]; exact ho, hbel⟩
                case measure => simp [intOf]; omega
          · have hh := fun w => rhas_at (z k) j w hk0 hk1 (by omega) true ht
            have HM : Hid (thenRow (memsTo (z k) (j + 1)) y = orI (thenRow (memsTo (z k) j) y) (y j)) := by
              show _ = _
              rw [memsTo_hit _ _ ht]; exact thenRow_snoc _ _ _
            generalize thenRow (memsTo (z k) j) y = A at *
            obtain ⟨hA0, hA1⟩ := hbd
            have HF : Hid (rowSet A (memsTo (y j) n) = orI A (y j)) := by
              show _ = _
              rw [memsTo_all hn (HS.out j hlj)]; exact rowSet_mems hA0 hj1
            clear ht
            go_wp2
            go_loopw [10] (fun i wr => ∃ q : Nat, q ≤ n ∧ i = .int .i64 q ∧ Out wr w.heap.size g n (upd (thenTo z y k) k (rowSet A (memsTo (y j) q))) ∧ Below w.heap.size w wr) (fun i _ => n - (intOf i).toNat)
            case atStart => exact ⟨0, Nat.zero_le _, rfl, ho, hbel⟩
            case round =>
              clear ho hbel
              obtain ⟨q, hq, rfl, ho, hbel⟩ := hrel
              by_cases hlq : q < n
              · obtain ⟨b', off', hab', hcell⟩ := HC.out.below hbel k hlt
                cases hab'
                obtain ⟨b', off', hbb', hcellb⟩ := HD.out.below hbel j hlj
                cases hbb'
                cases ht2 : tb (y j) q
                · have hh2 := fun w => rhas_at (y j) q w hj0 hj1 (by omega) false ht2
                  have HM2 : Hid (memsTo (y j) (q + 1) = memsTo (y j) q) := memsTo_miss _ _ ht2
                  clear ht2
                  go_wp2_with fail
                  refine (hh _).mono ?_
                  rintro e w3 ⟨rfl, hw⟩
                  subst hw
                  go_wp2_with fail
                  refine (hh2 _).mono ?_
                  rintro e w3 ⟨rfl, hw⟩
                  subst hw
                  go_wp2_with fail
                  go_roundw
                  case rel => exact ⟨q + 1, by omega, by go_num, by rw [HM2.out]; exact ho, hbel⟩
                  case measure => simp [intOf]; omega
                · have hh2 := fun w => rhas_at (y j) q w hj0 hj1 (by omega) true ht2
                  have HM2 : Hid (rowSet A (memsTo (y j) (q + 1)) = setI (rowSet A (memsTo (y j) q)) q) := by
                    show _ = _
                    rw [memsTo_hit _ _ ht2]; exact rowSet_snoc _ _ _
                  have hbd2 := rowSet_bd hA0 hA1 (memsTo (y j) q) (fun x hx => by have := (mem_memsTo.1 hx).1; omega)
                  generalize rowSet A (memsTo (y j) q) = E at *
                  have hoc := ho.cell hlt
                  rw [upd_at] at hoc
                  have hof := ho.frozen k
                  have hwith := fun w => with_any E q w hbd2.1 hbd2.2 (by omega)
                  clear ht2
                  go_wp2_with fail
                  refine (hh _).mono ?_
                  rintro e w3 ⟨rfl, hw⟩
                  subst hw
                  go_wp2_with fail
                  refine (hh2 _).mono ?_
                  rintro e w3 ⟨rfl, hw⟩
                  subst hw
                  go_wp2_with (go_at_call 38; refine (hwith _).mono ?_; rintro e w4 ⟨rfl, hw⟩; subst hw)
                  go_roundw
                  case rel => exact ⟨q + 1, by omega, by go_num, by rw [HM2.out, ← upd_upd (thenTo z y k) k E]; exact ho.set k _, hbel.setCell (p := ⟨g, k, none⟩) hgw _⟩
                  case measure => simp [intOf]; omega
              · obtain rfl : q = n := by omega
                go_wp2
                go_roundw
                case rel => exact ⟨j + 1, by omega, by go_num, by rw [HM.out, ← HF.out]; exact ho, hbel⟩
                case measure => simp [intOf]; omega
        · obtain rfl : j = n := by omega
          have HM : Hid (upd (thenTo z y k) k (thenRow (memsTo (z k) j) y) = thenTo z y (k + 1)) := by
            show _ = _
            rw [memsTo_all hn (HR.out k hlt)]; exact thenTo_succ _ _ _
          go_wp2
          go_roundw
          case rel => exact ⟨k + 1, by omega, by go_num, by rw [← HM.out]; exact ho, hbel⟩
          case measure => simp [intOf]; omega
    · obtain rfl : k = n := by omega
      go_wp2
      go_ret2
      exact ⟨g, rfl, ho, hbel⟩

end Go.Proofs.Ytlfmkgfhopbegaa
