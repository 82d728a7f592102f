/- queue.Check, named, isOpen, lacks, Ready. -/
import Derived.Test.YtkgehbonijpdnaaUOwn
namespace Go.Proofs.Ytkgehbonijpdnaa
open Go.RowKit
set_option maxRecDepth 100000

theorem check_any (vl vm : Value) (Q : Qu) (V : Nat → Value) (w : World) (ho : OkQ Q) (hq : QIs w vl vm Q V) : Calls Try.prog 9 #[quV vl vm] w fun e w' => e = .returned (.int .i64 Q.chk) ∧ Below w.heap.size w w' := by
  have hs := fun W h1 => senders_any vl vm Q V W ho h1
  have HQ : Hid (QIs w vl vm Q V) := hq
  obtain ⟨la, lc, rfl, _, _, hlr⟩ := hq.l
  obtain ⟨ma, mc, rfl, _, _, hmr⟩ := hq.m
  clear hlr hmr hq ho
  go_enter Try.func9, Try.ntmps9
  go_wp2_with fail
  refine (hs _ (HQ.out.below (below_new _ _))).mono ?_
  rintro e w1 ⟨h | h, hb⟩
  · obtain ⟨hok, g, rfl, _⟩ := h
    go_wp2_with fail
    go_ret
    exact ⟨ret_int (chk_ok hok).symm, Below.onto (below_new _ _) hb⟩
  · obtain ⟨hok, rfl⟩ := h
    go_wp2_with fail
    go_ret
    exact ⟨ret_int (chk_no hok).symm, Below.onto (below_new _ _) hb⟩
theorem nam_no {Q : Qu} {i : Int} (h : Q.ok = false) : Q.nam i = 100 := by simp [Qu.nam, h]
theorem nam_out {Q : Qu} {i : Int} (h : Q.ok = true) (h2 : Q.hasB i = false) : Q.nam i = 5 := by simp [Qu.nam, h, h2]
theorem nam_in {Q : Qu} {i : Int} (h : Q.ok = true) (h2 : Q.hasB i = true) : Q.nam i = 0 := by simp [Qu.nam, h, h2]
set_option maxHeartbeats 1000000 in
theorem named_any (vl vm : Value) (Q : Qu) (V : Nat → Value) (i : Int) (w : World) (ho : OkQ Q) (hq : QIs w vl vm Q V) : Calls Try.prog 18 #[quV vl vm, .int .i64 i] w fun e w' => e = .returned (.int .i64 (Q.nam i)) ∧ Below w.heap.size w w' := by
  have hs := fun W h1 => check_any vl vm Q V W ho h1
  have HQ : Hid (QIs w vl vm Q V) := hq
  obtain ⟨la, lc, rfl, _, _, hlr⟩ := hq.l
  obtain ⟨ma, mc, rfl, _, _, hmr⟩ := hq.m
  have hh := fun W => has_any la Q.ls.length lc (.slice ma Q.ms.length mc) i W
  obtain ⟨k1, b1, s1⟩ := alloc1 w [.slice la Q.ls.length lc, .slice ma Q.ms.length mc] 30
  have K1 : Hid (Blk _ _ _ _) := k1
  have B1 : Hid (Below _ _ _) := b1
  clear hlr hmr hq ho k1 b1 s1
  cases hok : Q.ok
  · have HN : Hid (Q.nam i = 100) := nam_no hok
    simp only [chk_no hok] at hs
    clear hok
    go_enter Try.func18, Try.ntmps18
    go_wp2_with fail
    refine (hs _ (HQ.out.below B1.out)).mono ?_
    rintro e w1 ⟨rfl, hb⟩
    go_wp2_with fail
    go_ret
    exact ⟨ret_int HN.out.symm, Below.onto B1.out hb⟩
  · simp only [chk_ok hok] at hs
    cases hH : Q.hasB i
    · have HN : Hid (Q.nam i = 5) := nam_out hok hH
      have hh2 : ∀ W, Calls Try.prog 29 #[quV (.slice la Q.ls.length lc) (.slice ma Q.ms.length mc), .int .i64 i] W fun e w' => e = .returned (.bool false) ∧ Below W.heap.size W w' := fun W => by rw [← hH]; exact hh W
      clear hok hH hh
      go_enter Try.func18, Try.ntmps18
      go_wp2_with fail
      refine (hs _ (HQ.out.below B1.out)).mono ?_
      rintro e w1 ⟨rfl, hb⟩
      obtain ⟨p0, p1⟩ := (K1.out.below hb).bx.two
      go_wp2_with fail
      refine (hh2 _).mono ?_
      rintro e w2 ⟨rfl, hb2⟩
      go_wp2_with fail
      go_ret
      exact ⟨ret_int HN.out.symm, Below.onto (Below.onto B1.out hb) hb2⟩
    · have HN : Hid (Q.nam i = 0) := nam_in hok hH
      have hh2 : ∀ W, Calls Try.prog 29 #[quV (.slice la Q.ls.length lc) (.slice ma Q.ms.length mc), .int .i64 i] W fun e w' => e = .returned (.bool true) ∧ Below W.heap.size W w' := fun W => by rw [← hH]; exact hh W
      clear hok hH hh
      go_enter Try.func18, Try.ntmps18
      go_wp2_with fail
      refine (hs _ (HQ.out.below B1.out)).mono ?_
      rintro e w1 ⟨rfl, hb⟩
      obtain ⟨p0, p1⟩ := (K1.out.below hb).bx.two
      go_wp2_with fail
      refine (hh2 _).mono ?_
      rintro e w2 ⟨rfl, hb2⟩
      go_wp2_with fail
      go_ret
      exact ⟨ret_int HN.out.symm, Below.onto (Below.onto B1.out hb) hb2⟩
theorem any_first {l : List Int} {t : Int} {k : Nat} (hk : k < l.length) (h : (atI l k == t) = true) : (l.any fun x => x == t) = true := by
  rw [atI_eq hk] at h
  exact List.any_eq_true.2 ⟨l[k], List.getElem_mem hk, h⟩
theorem any_none {l : List Int} {t : Int} (h : ∀ j, j < l.length → (atI l j == t) = false) : (l.any fun x => x == t) = false := by
  rw [Bool.eq_false_iff]
  intro e
  obtain ⟨x, hx, h1⟩ := List.any_eq_true.1 e
  obtain ⟨j, hj, rfl⟩ := List.mem_iff_getElem.1 hx
  have := h j hj
  rw [atI_eq hj, h1] at this
  cases this
set_option maxHeartbeats 1000000 in
theorem uindex_any (v : Value) (l : List Int) (t : Int) (w : World) (hn : l.length ≤ 1000) (hc : Cl w v l) : Calls Try.prog 43 #[v, .int .i64 t] w fun e w' => ∃ r : Int, e = .returned (.int .i64 r) ∧ decide (0 ≤ r) = (l.any fun x => x == t) ∧ w' = w := by
  obtain ⟨a, cap, rfl, _, _, he⟩ := hc
  have HE : Hid (Rd w a l.length 1 (encI l)) := he
  clear he
  go_enter Try.func43, Try.ntmps43
  go_wp2_with fail
  go_loop [8] (fun i => ∃ k : Nat, k ≤ l.length ∧ i = .int .i64 k ∧ Hid (∀ j, j < k → (atI l j == t) = false)) (fun i => l.length - (intOf i).toNat)
  case atStart => exact ⟨0, Nat.zero_le _, rfl, fun j hj => absurd hj (by omega)⟩
  case round =>
    obtain ⟨k, hk, rfl, hall⟩ := hrel
    by_cases hlt : k < l.length
    · obtain ⟨b, off, rfl, hcell⟩ := HE.out k hlt
      have h0 : _ = some (Value.int .i64 (atI l k)) := hcell 0 (by omega)
      rw [Nat.mul_one, Nat.add_zero] at h0
      obtain ⟨x, hx⟩ : ∃ x, x = atI l k := ⟨_, rfl⟩
      have HX : Hid (x = atI l k) := hx
      rw [← hx] at h0
      clear hx hcell
      by_cases hee : t = x
      · have HEE : Hid ((atI l k == t) = true) := by show _ = _; rw [← HX.out]; simp [hee]
        have hq : (t == x) = true := by simp [hee]
        clear hee
        go_wp2_with fail
        go_ret
        refine ⟨_, rfl, ?_, rfl⟩
        rw [any_first hlt HEE.out]
        simp
      · have HEE : Hid ((atI l k == t) = false) := by show _ = _; rw [← HX.out]; simp; omega
        have hq : (t == x) = false := by simp [hee]
        clear hee
        go_wp2_with fail
        go_round
        case rel =>
          refine ⟨k + 1, by omega, by go_num, ?_⟩
          intro j hjk
          by_cases e : j = k
          · subst e; exact HEE.out
          · exact hall.out j (by omega)
        case measure => simp [intOf]; omega
    · obtain rfl : k = l.length := by omega
      go_wp2_with fail
      go_ret
      refine ⟨_, rfl, ?_, rfl⟩
      rw [any_none hall.out]
      rfl
theorem ucontains_any (v : Value) (l : List Int) (t : Int) (w : World) (hn : l.length ≤ 1000) (hc : Cl w v l) : Calls Try.prog 38 #[v, .int .i64 t] w fun e w' => e = .returned (.bool (l.any fun q => q == t)) ∧ w' = w := by
  have hi := uindex_any v l t w hn hc
  clear hc
  go_enter Try.func38, Try.ntmps38
  go_wp2_with fail
  refine hi.mono ?_
  rintro e w1 ⟨r, rfl, hr, rfl⟩
  have HR : Hid (_ = _) := hr
  clear hr
  go_wp2_with fail
  go_ret
  exact ⟨ret_bool HR.out, rfl⟩

end Go.Proofs.Ytkgehbonijpdnaa
