/- The document's own Order. -/
import Derived.Test.YtcfpfddbbhphgaaLOrdM
import Derived.Test.YtcfpfddbbhphgaaLRefB
namespace Go.Proofs.Ytcfpfddbbhphgaa
open Go.RowKit Go.Shelf

set_option maxHeartbeats 1000000 in
theorem rbelow_at (a : Option Addr) (n cap : Nat) (z : Nat → Int) (p : Nat) (w : World) (hp : p < n) (hc : Cells w .u64 a n z) (hP : Pol n z) :
    Calls Try.prog 55 #[.slice a n cap, .int .i64 p] w fun e w' => e = .returned (.int .u64 (blw n z p)) ∧ w' = w := by
  have hn := hP.le
  have hz := hP.bds
  have HC : Hid (Cells w .u64 a n z) := hc
  have HZ : Hid (Bds n z) := hz
  obtain ⟨p0, p1⟩ := hz p hp
  rw [← blw_set hP hp]
  clear hc hz hP
  go_enter Try.func55, Try.ntmps55
  go_wp2
  go_loop [5, 6] (fun s i => ∃ k : Nat, k ≤ n ∧ i = .int .i64 k ∧ s = .int .u64 (setTo (fun b => tb (z b) p && !tb (z p) b) k)) (fun _ i => n - (intOf i).toNat)
  case atStart => exact ⟨0, Nat.zero_le _, rfl, rfl⟩
  case round =>
    obtain ⟨k, hk, rfl, rfl⟩ := hrel
    have hs0 := setTo_nonneg (fun b => tb (z b) p && !tb (z p) b) k
    have hs1 := setTo_lt (fun b => tb (z b) p && !tb (z p) b) (show k ≤ 64 by omega)
    by_cases hlt : k < n
    · obtain ⟨k0, k1⟩ := HZ.out k hlt
      obtain ⟨b1, o1, rfl, hcp⟩ := HC.out p hp
      obtain ⟨b2, o2, e2, hck⟩ := HC.out k hlt
      cases e2
      cases t1 : tb (z k) p
      · have HN : Hid (setTo (fun b => tb (z b) p && !tb (z p) b) (k + 1) = setTo (fun b => tb (z b) p && !tb (z p) b) k) := setTo_miss (by simp [t1])
        have hh := fun w => rhas_at (z k) p w k0 k1 (by omega) false t1
        clear t1
        generalize setTo (fun b => tb (z b) p && !tb (z p) b) k = S at *
        go_wp2_with fail
        refine (hh _).mono ?_
        rintro e w1 ⟨rfl, e1⟩
        subst e1
        go_wp2_with fail
        go_round
        case rel => exact ⟨k + 1, by omega, by go_num, by rw [HN.out]⟩
        case measure => simp [intOf]; omega
      · have hh := fun w => rhas_at (z k) p w k0 k1 (by omega) true t1
        cases t2 : tb (z p) k
        · have HN : Hid (setTo (fun b => tb (z b) p && !tb (z p) b) (k + 1) = setI (setTo (fun b => tb (z b) p && !tb (z p) b) k) k) := setTo_hit (by simp [t1, t2])
          have hg := fun w => rhas_at (z p) k w p0 p1 (by omega) false t2
          clear t1 t2
          generalize setTo (fun b => tb (z b) p && !tb (z p) b) k = S at *
          go_wp2_with fail
          refine (hh _).mono ?_
          rintro e w1 ⟨rfl, e1⟩
          subst e1
          go_wp2_with fail
          refine (hg _).mono ?_
          rintro e w1 ⟨rfl, e1⟩
          subst e1
          go_wp2_with fail
          go_round
          case rel => exact ⟨k + 1, by omega, by go_num, by rw [HN.out, or_bit' hs0 hs1 (by omega)]⟩
          case measure => simp [intOf]; omega
        · have HN : Hid (setTo (fun b => tb (z b) p && !tb (z p) b) (k + 1) = setTo (fun b => tb (z b) p && !tb (z p) b) k) := setTo_miss (by simp [t2])
          have hg := fun w => rhas_at (z p) k w p0 p1 (by omega) true t2
          clear t1 t2
          generalize setTo (fun b => tb (z b) p && !tb (z p) b) k = S at *
          go_wp2_with fail
          refine (hh _).mono ?_
          rintro e w1 ⟨rfl, e1⟩
          subst e1
          go_wp2_with fail
          refine (hg _).mono ?_
          rintro e w1 ⟨rfl, e1⟩
          subst e1
          go_wp2_with fail
          go_round
          case rel => exact ⟨k + 1, by omega, by go_num, by rw [HN.out]⟩
          case measure => simp [intOf]; omega
    · obtain rfl : k = n := by omega
      go_wp2
      go_ret
      exact ⟨rfl, rfl⟩

set_option maxHeartbeats 1000000 in
theorem rorder_bad (a : Option Addr) (n cap : Nat) (z : Nat → Int) (w : World) (hn : n < 9223372036854775807) (hc : Cells w .u64 a n z) (hz : Bds n z) (hk : polE n z ≠ 0) :
    Calls Try.prog 27 #[.slice a n cap] w fun e w' => e = .returned (.tuple #[.slice none 0 0, .int .i64 (polE n z)]) ∧ Below w.heap.size w w' := by
  have h1 := rcheck2_un a n cap z w hn hc hz
  have hne : (polE n z != 0) = true := by simp [hk]
  generalize polE n z = c at *
  clear hc hz hk
  go_enter Try.func27, Try.ntmps27
  go_wp2_with fail
  refine h1.mono ?_
  rintro e w1 ⟨rfl, hb1⟩
  go_wp2_with fail
  go_ret2
  exact ⟨rfl, hb1⟩

def lenV : Value → Nat
  | .slice _ n _ => n
  | _ => 0
/-- what was seen: what stands -/
def Seen (L : List Nat) (s : Int) : Prop := 0 ≤ s ∧ s < 18446744073709551616 ∧ ∀ j, tb s j = true ↔ j ∈ L
theorem seen_free {n : Nat} {z : Nat → Int} (hP : Pol n z) {k : Nat} {L : List Nat} {s t : Int} (h : OrdIs n z k L s) (ht : Seen L t) {a : Nat} (ha : a < n) : (anI (blw n z a) t == 0) = frB n z s a := by
  obtain ⟨i1, i2, i3, i4, i5⟩ := h.inv hP.le
  rw [an_sub (blw_lt hP ha) ht.1 ht.2.1, Bool.eq_iff_iff, subB_all (blw_lt hP ha), frB_iff]
  constructor
  · intro hs j hj
    cases hh : tb s j
    · rfl
    · exact absurd ((ht.2.2 j).1 (hs j hj)) ((i4 j).1 hh).2
  · intro hs j hj
    have h1 := hs j hj
    refine (ht.2.2 j).2 (Classical.byContradiction fun hL => ?_)
    rw [(i4 j).2 ⟨((tb_blw hP ha j).1 hj).1, hL⟩] at h1
    cases h1

set_option maxRecDepth 100000 in
set_option maxHeartbeats 4000000 in
theorem rorder_ok (a : Option Addr) (n cap : Nat) (z : Nat → Int) (w : World) (hc : Cells w .u64 a n z) (hz : Bds n z) (hk : polE n z = 0) :
    Calls Try.prog 27 #[.slice a n cap] w fun e w' => ∃ v L s, e = .returned (.tuple #[v, .int .i64 0]) ∧ OrdIs n z n L s ∧ w'.ownsRow w.heap.size 3 1 v n (encL L) ∧ Below w.heap.size w w' := by
  obtain ⟨i0, hi, hz0, hz1, hz2⟩ := info_parts Try.info3
  have hP := pol_of hz hk
  have hn16 := hP.le
  have h1 := rcheck2_un a n cap z w (by omega) hc hz
  rw [hk] at h1
  have HP : Hid (Pol n z) := hP
  have HC : Hid (Cells w .u64 a n z) := hc
  clear hc hz hP hk
  go_enter Try.func27, Try.ntmps27
  go_wp2_with fail
  refine h1.mono ?_
  rintro e w1 ⟨rfl, hb1⟩
  clear h1
  go_wp2_with fail
  go_loopw [5, 6] (fun v t wr => ∃ (k : Nat) (L : List Nat) (s sn : Int), k ≤ n ∧ Hid (OrdIs n z k L s) ∧ t = .int .u64 sn ∧ Hid (Seen L sn) ∧ wr.ownsRow w.heap.size 3 1 v k (encL L) ∧ Below w.heap.size w wr) (fun v _ _ => n - lenV v)
  case atStart => exact ⟨0, [], lowI n, 0, Nat.zero_le _, ⟨rfl, rfl⟩, rfl, ⟨by omega, by omega, fun j => by rw [tb_zero]; simp⟩, World.ownsRow_nil _ _ _ _, hb1⟩
  case round =>
    clear hb1
    obtain ⟨k, L, s, sn, hk, hO, rfl, hS, hown, hbel⟩ := hrel
    obtain ⟨pv, cv, rfl⟩ := own_slice hown
    obtain ⟨s0, s1, hsm⟩ := hS.out
    have HSm : Hid (∀ j, tb sn j = true ↔ j ∈ L) := hsm
    clear hsm
    by_cases hlt : k < n
    · have HCw : Hid (Cells wr .u64 a n z) := HC.out.below hbel
      go_wp2
      go_loop [7, 8] (fun nx i => (∃ c : Nat, c ≤ n ∧ i = .int .i64 c ∧ nx = .int .i64 (-1) ∧ Hid (∀ b, b < c → tb s b = true → frB n z s b = false)) ∨ (∃ x : Nat, x < n ∧ Hid (IsNext n z s x) ∧ nx = .int .i64 x ∧ i = .int .i64 ((x : Int) + 1))) (fun _ i => n - (intOf i).toNat)
      case atStart => exact .inl ⟨0, Nat.zero_le _, rfl, rfl, fun b hb => absurd hb (by omega)⟩
      case round =>
        rcases hrel with ⟨c, hc, rfl, rfl, hall⟩ | ⟨x, hx, hN, rfl, rfl⟩
        · by_cases hcn : c < n
          · have hbl := fun w' h => rbelow_at a n cap z c w' hcn h HP.out
            have l0 := blw_nonneg n z c
            have l1 := blw_lt HP.out hcn
            have HFr : Hid ((bits .andNot .u64 (blw n z c) sn == 0) = frB n z s c) := by
              show _ = _
              rw [an_eq l0 l1 s0 s1]; exact seen_free HP.out hO.out hS.out hcn
            have HTs : Hid (tb sn c = false → tb s c = true) := fun h => ((hO.out.inv HP.out.le).2.2.2.1 c).2 ⟨hcn, fun hm => by rw [(HSm.out c).2 hm] at h; cases h⟩
            have HTt : Hid (tb sn c = true → tb s c = false) := fun h => by
              cases ht : tb s c
              · rfl
              · exact absurd ((HSm.out c).1 h) (((hO.out.inv HP.out.le).2.2.2.1 c).1 ht).2
            generalize blw n z c = B at *
            cases t1 : tb sn c
            · have hh := fun w => rhas_at sn c w s0 s1 (by omega) false t1
              have hts := HTs.out t1
              cases t2 : frB n z s c
              · have hff : (bits .andNot .u64 B sn == 0) = false := by rw [HFr.out, t2]
                have HF : Hid (frB n z s c = false) := t2
                clear t1 t2 hts HFr HTs HTt
                go_wp2_with fail
                refine (hh _).mono ?_
                rintro e w2 ⟨rfl, e2⟩
                subst e2
                go_wp2_with fail
                refine (hbl _ HCw.out).mono ?_
                rintro e w2 ⟨rfl, e2⟩
                subst e2
                go_wp2_with fail
                go_round
                case rel =>
                  refine .inl ⟨c + 1, by omega, by go_num, rfl, fun b hb hbt => ?_⟩
                  by_cases e : b = c
                  · subst e; exact HF.out
                  · exact hall.out b (by omega) hbt
                case measure => simp [intOf]; omega
              · have hff : (bits .andNot .u64 B sn == 0) = true := by rw [HFr.out, t2]
                have HNx : Hid (IsNext n z s c) := ⟨hcn, hts, t2, hall.out⟩
                clear t1 t2 hts HFr HTs HTt
                go_wp2_with fail
                refine (hh _).mono ?_
                rintro e w2 ⟨rfl, e2⟩
                subst e2
                go_wp2_with fail
                refine (hbl _ HCw.out).mono ?_
                rintro e w2 ⟨rfl, e2⟩
                subst e2
                go_wp2_with fail
                go_round
                case rel => exact .inr ⟨c, hcn, HNx, rfl, rfl⟩
                case measure => simp [intOf]; omega
            · have hh := fun w => rhas_at sn c w s0 s1 (by omega) true t1
              have HTF : Hid (tb s c = false) := HTt.out t1
              clear t1 HFr HTs HTt hbl
              go_wp2_with fail
              refine (hh _).mono ?_
              rintro e w2 ⟨rfl, e2⟩
              subst e2
              go_wp2_with fail
              go_round
              case rel =>
                refine .inl ⟨c + 1, by omega, by go_num, rfl, fun b hb hbt => ?_⟩
                by_cases e : b = c
                · subst e; rw [HTF.out] at hbt; cases hbt
                · exact hall.out b (by omega) hbt
              case measure => simp [intOf]; omega
          · exfalso
            obtain rfl : c = n := by omega
            obtain ⟨x, hx⟩ := hO.out.more HP.out hlt
            have := hall.out x hx.1 hx.2.1
            rw [hx.2.2.1] at this
            cases this
        · have HO : Hid (bits .or .u64 sn (IntKind.u64.wrap (2 ^ x)) = setI sn x) := or_bit' s0 s1 (by omega)
          have HSn : Hid (Seen (L ++ [x]) (setI sn x)) := ⟨setI_nonneg _ _, setI_lt s1 (by omega), fun j => by
            rw [tb_setI, Bool.or_eq_true, decide_eq_true_iff, HSm.out]
            simp only [List.mem_append, List.mem_singleton]
            exact ⟨fun h => h.imp id Eq.symm, fun h => h.imp id Eq.symm⟩⟩
          have HOr : Hid (OrdIs n z (k + 1) (L ++ [x]) (clrI s x)) := ⟨L, s, x, hO.out, hN.out, rfl, rfl⟩
          have hszb := hbel.size
          by_cases hx1 : x + 1 < n
          · go_wp2_with (at_builtin; refine wpList_append_own _ rfl _ _ 43 rfl w.heap.size 3 i0 (.int .i64 0) 1 8 Try.underlying43 hi hz0 hz1 hz2 rfl (by decide) _ _ _ rfl (hown.alloc _) ⟨wr.heap.size, 0, none⟩ 1 1 [.int .i64 x] rfl rfl (cell_one_new _ _ _) (by simp [Value.oneCell']) (by unfold maxLen; omega) (by omega) (by simp; omega) ?_; intro v' w4 hown' hgrow _; obtain ⟨pv', cv', rfl⟩ := own_slice hown')
            go_roundw
            case rel =>
              refine ⟨k + 1, L ++ [x], clrI s x, setI sn x, by omega, HOr, by rw [← HO.out], HSn, ?_, ?_⟩
              · rw [encL_snoc]; exact hown'
              · exact (hbel.alloc hbel.size _).grown hgrow (by simp; omega) (own_ge hown)
            case measure => simp [lenV]; omega
          · go_wp2_with (at_builtin; refine wpList_append_own _ rfl _ _ 43 rfl w.heap.size 3 i0 (.int .i64 0) 1 8 Try.underlying43 hi hz0 hz1 hz2 rfl (by decide) _ _ _ rfl (hown.alloc _) ⟨wr.heap.size, 0, none⟩ 1 1 [.int .i64 x] rfl rfl (cell_one_new _ _ _) (by simp [Value.oneCell']) (by unfold maxLen; omega) (by omega) (by simp; omega) ?_; intro v' w4 hown' hgrow _; obtain ⟨pv', cv', rfl⟩ := own_slice hown')
            go_roundw
            case rel =>
              refine ⟨k + 1, L ++ [x], clrI s x, setI sn x, by omega, HOr, by rw [← HO.out], HSn, ?_, ?_⟩
              · rw [encL_snoc]; exact hown'
              · exact (hbel.alloc hbel.size _).grown hgrow (by simp; omega) (own_ge hown)
            case measure => simp [lenV]; omega
    · obtain rfl : k = n := by omega
      go_wp2
      go_ret2
      exact ⟨_, L, s, rfl, hO.out, hown, hbel⟩

theorem givesO_own {w w' : World} {n : Nat} {z : Nat → Int} {L : List Nat} {s : Int} {e : Ending} {v : Value} (hP : Pol n z) (he : e = .returned (.tuple #[v, .int .i64 0])) (hO : OrdIs n z n L s) (ho : w'.ownsRow w.heap.size 3 1 v n (encL L)) (hb : Below w.heap.size w w') : GivesO w n z e w' := by
  have hl := (hO.inv hP.le).1
  have ho' : w'.ownsRow w.heap.size 3 1 v L.length (encL L) := by rw [hl]; exact ho
  obtain ⟨a, cap, rfl, hc, _⟩ := cells_of_own ho' (encL_nat L)
  exact ⟨a, cap, L, by rw [hP.ok]; exact he, hc, .inr ⟨hP.ok, s, hO⟩, hb⟩
theorem rorder_un (a : Option Addr) (n cap : Nat) (z : Nat → Int) (w : World) (hn : n < 9223372036854775807) (hc : Cells w .u64 a n z) (hz : Bds n z) :
    Calls Try.prog 27 #[.slice a n cap] w (GivesO w n z) := by
  by_cases hk : polE n z = 0
  · exact (rorder_ok a n cap z w hc hz hk).mono fun e w' ⟨v, L, s, he, hO, ho, hb⟩ => givesO_own (pol_of hz hk) he hO ho hb
  · exact (rorder_bad a n cap z w hn hc hz hk).mono fun e w' ⟨he, hb⟩ => ⟨none, 0, [], he, fun j hj => absurd hj (by simp), .inl ⟨hk, rfl⟩, hb⟩

end Go.Proofs.Ytcfpfddbbhphgaa
