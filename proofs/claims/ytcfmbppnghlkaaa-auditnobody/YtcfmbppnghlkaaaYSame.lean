/- Same: rows of records are alike, or not; the document's Same. -/
import Derived.Test.YtcfmbppnghlkaaaYAll2
namespace Go.Proofs.Ytcfmbppnghlkaaa
open Go.RowKit Go.Sort
set_option maxRecDepth 100000

/-- records that are read -/
def RcAt (w : World) (a : Option Addr) (l : List Rc) : Prop := ∀ j r, l[j]? = some r → ∃ b off, a = some ⟨b, off, none⟩ ∧ ∀ k v, (encR r)[k]? = some v → w.cell? ⟨b, off + j * 4 + k, none⟩ = some v
theorem RcAt.below {w w' : World} {a : Option Addr} {l : List Rc} (h : RcAt w a l) (hb : Below w.heap.size w w') : RcAt w' a l := fun j r hr => by
  obtain ⟨b, off, e, hc⟩ := h j r hr
  exact ⟨b, off, e, fun k v hv => (hb.cell (p := ⟨b, off + j * 4 + k, none⟩) (cell_lt (hc k v hv))).trans (hc k v hv)⟩
theorem rcAt_own {w : World} {base : Nat} {v : Value} {l : List Rc} (h : w.ownsRow base 38 4 v l.length (encRs l)) : ∃ a c, v = .slice a l.length c ∧ RcAt w a l := by
  obtain ⟨a, c, hv, _, hat⟩ := own_at h
  refine ⟨a, c, hv, fun j r hr => ?_⟩
  obtain ⟨g, hg, ha, _⟩ := hat _ _ (encRs_at _ _ _ hr 0 _ rfl)
  refine ⟨g, 0, ha, fun k v hv => ?_⟩
  obtain ⟨g', hg', _, hc⟩ := hat _ _ (encRs_at _ _ _ hr k v hv)
  rw [hg] at hg'
  injection hg' with hg'
  rw [hg', show 0 + j * 4 + k = 4 * j + k by omega]
  exact hc
set_option maxHeartbeats 2000000 in
theorem yequal (a b : Option Addr) (ca cb : Nat) (l m : List Rc) (w : World) (hl : l.length ≤ 9223372036854775807) (ha : RcAt w a l) (hb : RcAt w b m) : Calls Try.prog 42 #[.slice a l.length ca, .slice b m.length cb] w fun e w' => ∃ t : Bool, e = .returned (.bool t) ∧ (t = true ↔ l = m) ∧ Below w.heap.size w w' := by
  have HA : Hid (RcAt w a l) := ha
  have HB : Hid (RcAt w b m) := hb
  clear ha hb
  by_cases hn : l.length = m.length
  · rw [← hn]
    go_enter Try.func42, Try.ntmps42
    go_wp2_with fail
    go_loopw [13] (fun i wr => ∃ j : Nat, j ≤ l.length ∧ i = .int .i64 j ∧ Hid ((∀ k, k < j → l[k]? = m[k]?) ∧ Below w.heap.size w wr)) (fun i _ => l.length - (intOf i).toNat)
    case atStart => exact ⟨0, Nat.zero_le _, rfl, fun k hk => absurd hk (Nat.not_lt_zero _), Below.refl _ _⟩
    case round =>
      obtain ⟨j, hj, rfl, hM⟩ := hrel
      by_cases hlt : j < l.length
      · obtain ⟨r, hr⟩ : ∃ r, l[j]? = some r := ⟨_, List.getElem?_eq_getElem hlt⟩
        obtain ⟨q, hq⟩ : ∃ q, m[j]? = some q := ⟨_, List.getElem?_eq_getElem (by omega)⟩
        obtain ⟨b1, o1, rfl, k1⟩ := HA.out.below hM.out.2 j r hr
        obtain ⟨b2, o2, rfl, k2⟩ := HB.out.below hM.out.2 j q hq
        have x0 : wr.cell? ⟨b1, o1 + j * 4, none⟩ = some (.int .i64 r.t) := k1 0 _ rfl
        have x1 := k1 1 _ rfl
        have x2 := k1 2 _ rfl
        have x3 := k1 3 _ rfl
        have y0 : wr.cell? ⟨b2, o2 + j * 4, none⟩ = some (.int .i64 q.t) := k2 0 _ rfl
        have y1 := k2 1 _ rfl
        have y2 := k2 2 _ rfl
        have y3 := k2 3 _ rfl
        clear k1 k2
        by_cases h1 : r.t = q.t
        rotate_left
        · have hne : Hid (¬ l = m) := fun e => by rw [e, hq] at hr; injection hr with hr; exact h1 (by rw [hr])
          clear hr hq
          go_wp2_with fail
          go_region
          go_wp2_with fail
          go_ret
          exact ⟨false, rfl, ⟨fun h => (by cases h), fun h => absurd h hne.out⟩, hM.out.2.drew⟩
        by_cases h2 : r.s = q.s
        rotate_left
        · have hne : Hid (¬ l = m) := fun e => by rw [e, hq] at hr; injection hr with hr; exact h2 (by rw [hr])
          clear hr hq
          go_wp2_with fail
          go_region
          go_wp2_with fail
          go_ret
          exact ⟨false, rfl, ⟨fun h => (by cases h), fun h => absurd h hne.out⟩, hM.out.2.drew⟩
        by_cases h3 : r.g = q.g
        rotate_left
        · have hne : Hid (¬ l = m) := fun e => by rw [e, hq] at hr; injection hr with hr; exact h3 (by rw [hr])
          clear hr hq
          go_wp2_with fail
          go_region
          go_wp2_with fail
          go_ret
          exact ⟨false, rfl, ⟨fun h => (by cases h), fun h => absurd h hne.out⟩, hM.out.2.drew⟩
        by_cases h4 : r.p = q.p
        rotate_left
        · have hne : Hid (¬ l = m) := fun e => by rw [e, hq] at hr; injection hr with hr; exact h4 (by rw [hr])
          clear hr hq
          go_wp2_with fail
          go_region
          go_wp2_with fail
          go_ret
          exact ⟨false, rfl, ⟨fun h => (by cases h), fun h => absurd h hne.out⟩, hM.out.2.drew⟩
        have hrq : r = q := by
          obtain ⟨a1, a2, a3, a4⟩ := r
          obtain ⟨b1, b2, b3, b4⟩ := q
          simp only at h1 h2 h3 h4
          rw [h1, h2, h3, h4]
        have HM2 : Hid ((∀ k, k < j + 1 → l[k]? = m[k]?) ∧ Below w.heap.size w wr.drew) := ⟨fun k hk => by
          by_cases e : k = j
          · rw [e, hr, hq, hrq]
          · exact hM.out.1 k (by omega), hM.out.2.drew⟩
        clear hr hq hrq
        go_wp2_with fail
        go_region
        go_wp2_with fail
        go_roundw
        case rel => exact ⟨j + 1, by omega, by go_num, HM2⟩
        case measure => simp [intOf]; omega
      · obtain rfl : j = l.length := by omega
        have he : l = m := by
          apply List.ext_getElem?
          intro k
          by_cases hk : k < l.length
          · exact hM.out.1 k hk
          · rw [List.getElem?_eq_none (by omega), List.getElem?_eq_none (by omega)]
        go_wp2_with fail
        go_ret
        exact ⟨true, rfl, ⟨fun _ => he, fun _ => rfl⟩, hM.out.2⟩
  · have hne : Hid (¬ l = m) := fun e => hn (by rw [e])
    have hn2 : ¬ (l.length : Int) = (m.length : Int) := by omega
    go_enter Try.func42, Try.ntmps42
    go_wp2_with fail
    go_ret
    exact ⟨false, rfl, ⟨fun h => (by cases h), fun h => absurd h hne.out⟩, Below.refl _ _⟩
theorem ySame (a b : Option Addr) (ca cb : Nat) (l m : List Rc) (w : World) (hl : l.length ≤ 9223372036854775807) (ha : RcAt w a l) (hb : RcAt w b m) : Calls Try.prog 25 #[.slice a l.length ca, .slice b m.length cb] w fun e w' => ∃ t : Bool, e = .returned (.bool t) ∧ (t = true ↔ l = m) ∧ Below w.heap.size w w' := by
  have c := yequal a b ca cb l m w hl ha hb
  clear ha hb
  go_enter Try.func25, Try.ntmps25
  go_wp2_with fail
  refine c.mono ?_
  rintro e w1 ⟨t, rfl, ht, hb⟩
  clear c
  have HT : Hid ((t = true ↔ l = m) ∧ Below w.heap.size w w1) := ⟨ht, hb⟩
  clear ht hb
  go_wp2_with fail
  go_ret
  exact ⟨t, rfl, HT.out⟩
end Go.Proofs.Ytcfmbppnghlkaaa
