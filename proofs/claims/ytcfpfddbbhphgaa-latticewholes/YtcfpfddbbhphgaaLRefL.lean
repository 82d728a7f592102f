/- The document's own Lattice. -/
import Derived.Test.YtcfpfddbbhphgaaLRefC
import Derived.Test.YtcfpfddbbhphgaaLLat
namespace Go.Proofs.Ytcfpfddbbhphgaa
open Go.RowKit Go.Shelf

/-- what Lattice tells, with its error -/
def LatE (n : Nat) (z : Nat → Int) (x y : Nat) (ok : Bool) : Prop := (polE n z ≠ 0 ∧ x = 0 ∧ y = 0 ∧ ok = false) ∨ (polE n z = 0 ∧ LatIs n z x y ok)
theorem LatE.one {n : Nat} {z : Nat → Int} {x y x' y' : Nat} {ok ok' : Bool} (h : LatE n z x y ok) (h' : LatE n z x' y' ok') : x = x' ∧ y = y' ∧ ok = ok' := by
  rcases h with ⟨h0, rfl, rfl, rfl⟩ | ⟨h0, h⟩ <;> rcases h' with ⟨g0, rfl, rfl, rfl⟩ | ⟨g0, g⟩
  · exact ⟨rfl, rfl, rfl⟩
  · exact absurd g0 h0
  · exact absurd h0 g0
  · exact h.one g
def LatAns (w : World) (n : Nat) (z : Nat → Int) (e : Ending) (w' : World) : Prop :=
  ∃ x y : Nat, ∃ ok, e = .returned (.tuple #[.agg #[.int .i64 x, .int .i64 y], .bool ok, .int .i64 (polE n z)]) ∧ LatE n z x y ok ∧ Below w.heap.size w w'
theorem lattice_un (a : Option Addr) (n cap : Nat) (z : Nat → Int) (w : World) (hn : n < 9223372036854775807) (hc : Cells w .u64 a n z) (hz : Bds n z) :
    Calls Try.prog 22 #[.slice a n cap] w (LatAns w n z) := by
  by_cases hk : polE n z = 0
  · refine (lattice_ok a n cap z w hn hc hz hk).mono ?_
    rintro e w' ⟨x, y, ok, rfl, hl, hb⟩
    exact ⟨x, y, ok, by rw [hk], .inr ⟨hk, hl⟩, hb⟩
  · refine (lattice_bad a n cap z w hn hc hz hk).mono ?_
    rintro e w' ⟨rfl, hb⟩
    exact ⟨0, 0, false, rfl, .inl ⟨hk, rfl, rfl, rfl⟩, hb⟩

theorem flow_put {w W : World} (hb : Below (w.alloc (.cells #[.int .i64 0, .int .i64 0] 38)).heap.size (w.alloc (.cells #[.int .i64 0, .int .i64 0] 38)) W) (x y : Value) :
    PBox ((W.setCell ⟨w.heap.size, 0, none⟩ x).setCell ⟨w.heap.size, 1, none⟩ y) w.heap.size x y ∧ Below w.heap.size w ((W.setCell ⟨w.heap.size, 0, none⟩ x).setCell ⟨w.heap.size, 1, none⟩ y) :=
  ⟨pbox_set ((pbox_new w _ _ _).below hb) x y, below_set2 (Below.onto ((Below.refl _ w).alloc (Nat.le_refl _) _) hb) (Nat.le_refl _) x y⟩

set_option maxRecDepth 100000 in
set_option maxHeartbeats 2000000 in
theorem rlattice_bad (a : Option Addr) (n cap : Nat) (z : Nat → Int) (w : World) (hn : n < 9223372036854775807) (hc : Cells w .u64 a n z) (hz : Bds n z) (hk : polE n z ≠ 0) :
    Calls Try.prog 23 #[.slice a n cap] w (LatAns w n z) := by
  have hB : Below w.heap.size w (w.alloc (.cells #[.int .i64 0, .int .i64 0] 38)) := (Below.refl _ w).alloc (Nat.le_refl _) _
  have h1 := rcheck2_un a n cap z _ hn (hc.below hB) hz
  have hne : (polE n z != 0) = true := by simp [hk]
  have HK : Hid (polE n z ≠ 0) := hk
  have hP := pbox_new w (.int .i64 0) (.int .i64 0) 38
  have hF := pbox_frozen w (.int .i64 0) (.int .i64 0) 38
  clear hc hz hk
  go_enter Try.func23, Try.ntmps23
  go_wp2_with fail
  refine h1.mono ?_
  rintro e w1 ⟨rfl, b1⟩
  obtain ⟨p1, p2⟩ := hP.below b1
  obtain ⟨f1, f2⟩ := hF w1 b1
  have HB1 : Hid _ := b1
  clear h1 hP hF
  go_wp2_with fail
  obtain ⟨⟨g1, g2⟩, hb⟩ := flow_put HB1.out (.int .i64 0) (.int .i64 0)
  generalize (w1.setCell ⟨w.heap.size, 0, none⟩ (.int .i64 0)).setCell ⟨w.heap.size, 1, none⟩ (.int .i64 0) = W at g1 g2 hb ⊢
  refine bodyPost_ret_by (v := .tuple #[.agg #[.int .i64 0, .int .i64 0], .bool false, .int .i64 (polE n z)]) ?_ rfl ?_
  · simp [results, Try.f23, go_sem, g1, g2]
  · exact ⟨0, 0, false, rfl, .inl ⟨HK.out, rfl, rfl, rfl⟩, hb⟩

set_option maxRecDepth 100000 in
set_option maxHeartbeats 2000000 in
theorem rlattice_ok (a : Option Addr) (n cap : Nat) (z : Nat → Int) (w : World) (hc : Cells w .u64 a n z) (hz : Bds n z) (hk : polE n z = 0) :
    Calls Try.prog 23 #[.slice a n cap] w fun e w' => ∃ x y : Nat, ∃ ok, e = .returned (.tuple #[.agg #[.int .i64 x, .int .i64 y], .bool ok, .int .i64 0]) ∧ LatIs n z x y ok ∧ Below w.heap.size w w' := by
  have hPol := pol_of hz hk
  have hn16 := hPol.le
  have hB : Below w.heap.size w (w.alloc (.cells #[.int .i64 0, .int .i64 0] 38)) := (Below.refl _ w).alloc (Nat.le_refl _) _
  have h1 := rcheck2_un a n cap z _ (by omega) (hc.below hB) hz
  rw [hk] at h1
  have HP := (show Hid (Pol n z) from hPol)
  have HC : Hid (Cells (w.alloc (.cells #[.int .i64 0, .int .i64 0] 38)) .u64 a n z) := hc.below hB
  have hP := pbox_new w (.int .i64 0) (.int .i64 0) 38
  have hF := pbox_frozen w (.int .i64 0) (.int .i64 0) 38
  clear hc hz hk hPol hB
  go_enter Try.func23, Try.ntmps23
  go_wp2_with fail
  refine h1.mono ?_
  rintro e w1 ⟨rfl, b1⟩
  clear h1
  go_wp2_with fail
  go_loopw [6] (fun i wr => ∃ p : Nat, p ≤ n ∧ i = .int .i64 p ∧ Hid (∀ a' b', a' < p → b' < n → badB n z a' b' = false) ∧ Below (w.alloc (.cells #[.int .i64 0, .int .i64 0] 38)).heap.size (w.alloc (.cells #[.int .i64 0, .int .i64 0] 38)) wr) (fun i _ => n - (intOf i).toNat)
  case atStart => exact ⟨0, Nat.zero_le _, rfl, fun _ _ h => absurd h (by omega), b1⟩
  case round =>
    clear b1
    obtain ⟨p, hp, rfl, hall, hbel⟩ := hrel
    by_cases hlt : p < n
    · go_wp2_with fail
      go_loopw [7] (fun i wr => ∃ q : Nat, q ≤ n ∧ i = .int .i64 q ∧ Hid (∀ b', b' < q → badB n z p b' = false) ∧ Below (w.alloc (.cells #[.int .i64 0, .int .i64 0] 38)).heap.size (w.alloc (.cells #[.int .i64 0, .int .i64 0] 38)) wr) (fun i _ => n - (intOf i).toNat)
      case atStart => exact ⟨0, Nat.zero_le _, rfl, fun _ h => absurd h (by omega), hbel⟩
      case round =>
        clear hbel
        obtain ⟨q, hq, rfl, hrw, hbel⟩ := hrel
        by_cases hlq : q < n
        · have hj := rjoins_at a n cap z p q _ hlt hlq (by omega) (HC.out.below hbel) HP.out.bds
          have hm := fun w' h => rmeets_at a n cap z p q w' hlt hlq h HP.out
          have HBd : Hid (badB n z p q = ((jn n z p q == 0) || (mt n z p q == 0))) := rfl
          generalize jn n z p q = jv at *
          generalize mt n z p q = mv at *
          cases hjz : (jv == 0)
          · go_wp2_with fail
            refine hj.mono ?_
            rintro e w2 ⟨rfl, b2⟩
            have hb2 := Below.onto hbel b2
            clear hj b2
            cases hmz : (mv == 0)
            · have HBad : Hid (badB n z p q = false) := by show _ = _; rw [HBd.out, hjz, hmz]; rfl
              go_wp2_with fail
              refine (hm _ (HC.out.below hb2)).mono ?_
              rintro e w3 ⟨rfl, b3⟩
              have hb3 := Below.onto hb2 b3
              clear hm hb2 b3
              go_wp2_with fail
              go_roundw
              case rel =>
                refine ⟨q + 1, by omega, by go_num, fun b' hb' => ?_, hb3⟩
                by_cases e : b' = q
                · subst e; exact HBad.out
                · exact hrw.out b' (by omega)
              case measure => simp [intOf]; omega
            · have HBad : Hid (badB n z p q = true) := by show _ = _; rw [HBd.out, hmz]; simp
              obtain rfl : mv = 0 := by simpa using hmz
              clear hmz HBd
              go_wp2_with fail
              refine (hm _ (HC.out.below hb2)).mono ?_
              rintro e w3 ⟨rfl, b3⟩
              have hb3 := Below.onto hb2 b3
              clear hm hb2 b3
              obtain ⟨p1, p2⟩ := hP.below hb3
              obtain ⟨f1, f2⟩ := hF w3 hb3
              go_wp2_with fail
              obtain ⟨⟨g1, g2⟩, hb⟩ := flow_put hb3 (.int .i64 p) (.int .i64 q)
              generalize (w3.setCell ⟨w.heap.size, 0, none⟩ (.int .i64 p)).setCell ⟨w.heap.size, 1, none⟩ (.int .i64 q) = W at g1 g2 hb ⊢
              refine bodyPost_ret_by (v := .tuple #[.agg #[.int .i64 p, .int .i64 q], .bool false, .int .i64 0]) ?_ rfl ?_
              · simp [results, Try.f23, go_sem, g1, g2]
              · refine ⟨p, q, false, rfl, .inr ⟨rfl, hlt, hlq, HBad.out, fun a' b' hb' hh => ?_⟩, hb⟩
                rcases hh with h | ⟨rfl, h⟩
                · exact hall.out a' b' h hb'
                · exact hrw.out b' h
          · have HBad : Hid (badB n z p q = true) := by show _ = _; rw [HBd.out, hjz]; rfl
            obtain rfl : jv = 0 := by simpa using hjz
            clear hjz HBd hm
            go_wp2_with fail
            refine hj.mono ?_
            rintro e w3 ⟨rfl, b3⟩
            have hb3 := Below.onto hbel b3
            clear hj b3
            obtain ⟨p1, p2⟩ := hP.below hb3
            obtain ⟨f1, f2⟩ := hF w3 hb3
            go_wp2_with fail
            obtain ⟨⟨g1, g2⟩, hb⟩ := flow_put hb3 (.int .i64 p) (.int .i64 q)
            generalize (w3.setCell ⟨w.heap.size, 0, none⟩ (.int .i64 p)).setCell ⟨w.heap.size, 1, none⟩ (.int .i64 q) = W at g1 g2 hb ⊢
            refine bodyPost_ret_by (v := .tuple #[.agg #[.int .i64 p, .int .i64 q], .bool false, .int .i64 0]) ?_ rfl ?_
            · simp [results, Try.f23, go_sem, g1, g2]
            · refine ⟨p, q, false, rfl, .inr ⟨rfl, hlt, hlq, HBad.out, fun a' b' hb' hh => ?_⟩, hb⟩
              rcases hh with h | ⟨rfl, h⟩
              · exact hall.out a' b' h hb'
              · exact hrw.out b' h
        · obtain rfl : q = n := by omega
          go_wp2
          go_roundw
          case rel =>
            refine ⟨p + 1, by omega, by go_num, fun a' b' ha' hb' => ?_, hbel⟩
            by_cases e : a' = p
            · subst e; exact hrw.out b' hb'
            · exact hall.out a' b' (by omega) hb'
          case measure => simp [intOf]; omega
    · obtain rfl : p = n := by omega
      obtain ⟨p1, p2⟩ := hP.below hbel
      obtain ⟨f1, f2⟩ := hF wr hbel
      go_wp2_with fail
      obtain ⟨⟨g1, g2⟩, hb⟩ := flow_put hbel (.int .i64 0) (.int .i64 0)
      generalize (wr.setCell ⟨w.heap.size, 0, none⟩ (.int .i64 0)).setCell ⟨w.heap.size, 1, none⟩ (.int .i64 0) = W at g1 g2 hb ⊢
      refine bodyPost_ret_by (v := .tuple #[.agg #[.int .i64 0, .int .i64 0], .bool true, .int .i64 0]) ?_ rfl ?_
      · simp [results, Try.f23, go_sem, g1, g2]
      · exact ⟨0, 0, true, rfl, .inl ⟨rfl, rfl, rfl, hall.out⟩, hb⟩

theorem rlattice_un (a : Option Addr) (n cap : Nat) (z : Nat → Int) (w : World) (hn : n < 9223372036854775807) (hc : Cells w .u64 a n z) (hz : Bds n z) :
    Calls Try.prog 23 #[.slice a n cap] w (LatAns w n z) := by
  by_cases hk : polE n z = 0
  · refine (rlattice_ok a n cap z w hc hz hk).mono ?_
    rintro e w' ⟨x, y, ok, rfl, hl, hb⟩
    exact ⟨x, y, ok, by rw [hk], .inr ⟨hk, hl⟩, hb⟩
  · exact rlattice_bad a n cap z w hn hc hz hk

end Go.Proofs.Ytcfpfddbbhphgaa
