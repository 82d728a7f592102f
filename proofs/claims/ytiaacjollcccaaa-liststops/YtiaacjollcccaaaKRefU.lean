/- The document's acts, whatever is asked. -/
import Derived.Test.YtiaacjollcccaaaKRefP
import Derived.Test.YtiaacjollcccaaaKRefF
import Derived.Test.YtiaacjollcccaaaKRefM
import Derived.Test.YtiaacjollcccaaaKRefK
import Derived.Test.YtiaacjollcccaaaKRefQ
namespace Go.Proofs.Ytiaacjollcccaaa
open Go.RowKit

/-- what is known of the rows -/
structure Okr (n m : Nat) (R : Nat → List Nat) : Prop where
  nod : ∀ k, k < m → (R k).Nodup
  rng : ∀ k, k < m → ∀ x, x ∈ R k → x < n
  dis : ∀ k j x, k < m → j < m → x ∈ R k → x ∈ R j → k = j
  bd : n ≤ 65536
theorem Kv.okr {w : World} {o : Pl} {n m : Nat} {R : Nat → List Nat} (h : Kv w o n m R) : Okr n m R := by
  obtain ⟨s, rfl, rfl, hk, hi⟩ := h
  exact ⟨hi.nod, hi.rng, hi.dis, hk.bd.1⟩
theorem Okr.room {n m : Nat} {R : Nat → List Nat} (h : Okr n m R) {k x : Nat} (hk : k < m) (hx : x < n) (hn : x ∉ R k) : (R k).length < 65536 := by
  have := len_le (n := n) (l := x :: R k) (List.nodup_cons.2 ⟨hn, h.nod k hk⟩) (by
    intro y hy
    rcases List.mem_cons.1 hy with rfl | hy
    · exact hx
    · exact h.rng k hk y hy)
  have := h.bd
  simp at *; omega

set_option maxHeartbeats 1000000 in
theorem rpush_k (p b B n m : Nat) (R : Nat → List Nat) (front : Bool) (i x : Int) (w : World) (h : Rx w p b B n m R) (ok : Okr n m R) :
    Calls Try.prog 31 #[.pointer (some ⟨p, 0, none⟩), .int .i64 i, .int .i64 x, .bool front] w fun e w' => e = .returned (.int .i64 (pushE n m R i x)) ∧ Rx w' p b B n m (pushR n m R front i x) ∧ But (fun y => y = b) w w' := by
  have h1 := ris_k p b B n m R i w h
  have h2 := rnode_k p b B n m R x w h
  cases hi : inR m i
  · have hE : pushE n m R i x = 5 := by simp [pushE, hi]
    have hR : pushR n m R front i x = R := by simp [pushR, hE]
    rw [hE, hR]
    rw [hi] at h1
    have HR : Hid (Rx w p b B n m R) := h
    clear h ok h2
    go_enter Try.func31, Try.ntmps31
    go_wp2_with fail
    refine h1.mono ?_
    rintro e w1 ⟨rfl, e1⟩
    subst e1
    go_wp2_with fail
    go_ret
    exact ⟨rfl, HR.out, But.refl _ _⟩
  · cases hx : inR n x
    · have hE : pushE n m R i x = 5 := by simp [pushE, hx]
      have hR : pushR n m R front i x = R := by simp [pushR, hE]
      rw [hE, hR]
      rw [hi] at h1
      rw [hx] at h2
      have HR : Hid (Rx w p b B n m R) := h
      clear h ok
      go_enter Try.func31, Try.ntmps31
      go_wp2_with fail
      refine h1.mono ?_
      rintro e w1 ⟨rfl, e1⟩
      subst e1
      go_wp2_with fail
      refine h2.mono ?_
      rintro e w1 ⟨rfl, e1⟩
      subst e1
      go_wp2_with fail
      go_ret
      exact ⟨rfl, HR.out, But.refl _ _⟩
    · have hi' := hi
      have hx' := hx
      obtain ⟨k, rfl, hk⟩ := inR_nat hi
      obtain ⟨y, rfl, hy⟩ := inR_nat hx
      cases hw : whr R m y with
      | none =>
        have hE : pushE n m R k y = 0 := by simp [pushE, hi', hx', hw]
        have hlt := ok.room hk hy (whr_none hw k hk)
        rw [hE]
        cases front
        · rw [show pushR n m R false k y = upd R k (R k ++ [y]) by simp [pushR, hE]]
          exact rpushBack_ok p b B n m R k y w h hk hy hw hlt
        · rw [show pushR n m R true k y = upd R k (y :: R k) by simp [pushR, hE]]
          exact rpushFront_ok p b B n m R k y hk hy hw hlt w h
      | some j =>
        have hE : pushE n m R k y = 50 := by simp [pushE, hi', hx', hw]
        have hR : pushR n m R front k y = R := by simp [pushR, hE]
        have h3 := rat_k p b B n m y R w h
        rw [show atI R m y = (j : Int) by simp [atI, hw]] at h3
        rw [hE, hR]
        rw [hi'] at h1
        rw [hx'] at h2
        have HR : Hid (Rx w p b B n m R) := h
        have hpos : decide ((0 : Int) ≤ (j : Int)) = true := by simp
        clear h ok
        go_enter Try.func31, Try.ntmps31
        go_wp2_with fail
        refine h1.mono ?_
        rintro e w1 ⟨rfl, e1⟩
        subst e1
        go_wp2_with fail
        refine h2.mono ?_
        rintro e w1 ⟨rfl, e1⟩
        subst e1
        go_wp2_with fail
        refine h3.mono ?_
        rintro e w1 ⟨rfl, e1⟩
        subst e1
        go_wp2_with fail
        go_ret
        exact ⟨rfl, HR.out, But.refl _ _⟩

set_option maxHeartbeats 1000000 in
theorem rpop_k (p b B n m : Nat) (R : Nat → List Nat) (i : Int) (w : World) (h : Rx w p b B n m R) (ok : Okr n m R) :
    Calls Try.prog 32 #[.pointer (some ⟨p, 0, none⟩), .int .i64 i] w fun e w' => e = .returned (.tuple #[.int .i64 (popI m R i), .bool (popB m R i)]) ∧ Rx w' p b B n m (popR m R i) ∧ But (fun y => y = b) w w' := by
  have h1 := ris_k p b B n m R i w h
  cases hi : inR m i
  · have hp : popB m R i = false := by simp [popB, hi]
    have hI : popI m R i = 0 := by simp [popI, hp]
    have hR : popR m R i = R := by simp [popR, hp]
    rw [hp, hI, hR]
    rw [hi] at h1
    have HR : Hid (Rx w p b B n m R) := h
    clear h ok
    go_enter Try.func32, Try.ntmps32
    go_wp2_with fail
    refine h1.mono ?_
    rintro e w1 ⟨rfl, e1⟩
    subst e1
    go_wp2_with fail
    go_ret2
    exact ⟨rfl, HR.out, But.refl _ _⟩
  · have hi' := hi
    obtain ⟨k, rfl, hk⟩ := inR_nat hi
    cases hR : R k with
    | nil =>
      have hp : popB m R k = false := by simp [popB, hR]
      have hI : popI m R k = 0 := by simp [popI, hp]
      have hR2 : popR m R k = R := by simp [popR, hp]
      rw [hp, hI, hR2]
      rw [hi'] at h1
      have HR : Hid (Rx w p b B n m R) := h
      obtain ⟨v, hv, hown⟩ := h.row k hk
      obtain ⟨a, ca, rfl, _, _⟩ := cells_of_own hown (k := .i64) (z := atL (R k)) (fun j hj => encL_at2 hj)
      rw [hR] at hv
      simp only [List.length_nil] at hv
      have c1 := h.c1
      have i3 : (0 : Int) ≤ (k : Int) := by omega
      have i4 : (k : Int) < (m : Int) := by omega
      clear h ok hown hR hp hI hR2
      go_enter Try.func32, Try.ntmps32
      go_wp2_with fail
      refine h1.mono ?_
      rintro e w1 ⟨rfl, e1⟩
      subst e1
      go_wp2_with fail
      go_ret2
      exact ⟨rfl, HR.out, But.refl _ _⟩
    | cons x l =>
      have hp : popB m R k = true := by simp [popB, hi', hR]
      have hI : popI m R k = (x : Int) := by simp [popI, hp, hR]
      have hR2 : popR m R k = upd R k l := by simp [popR, hp, hR]
      have hnd := ok.nod k hk
      rw [hR] at hnd
      rw [hp, hI, hR2]
      exact rpop_ok p b B n m R k x l hk hR (List.nodup_cons.1 hnd).1 w h

set_option maxHeartbeats 1000000 in
theorem rdrop_k (p b B n m : Nat) (R : Nat → List Nat) (x : Int) (w : World) (h : Rx w p b B n m R) :
    Calls Try.prog 33 #[.pointer (some ⟨p, 0, none⟩), .int .i64 x] w fun e w' => e = .returned (.int .i64 (dropE n m R x)) ∧ Rx w' p b B n m (dropR n m R x) ∧ But (fun y => y = b) w w' := by
  have h2 := rnode_k p b B n m R x w h
  cases hx : inR n x
  · have hE : dropE n m R x = 5 := by simp [dropE, hx]
    have hR : dropR n m R x = R := by simp [dropR, hx]
    rw [hE, hR]
    rw [hx] at h2
    have HR : Hid (Rx w p b B n m R) := h
    clear h
    go_enter Try.func33, Try.ntmps33
    go_wp2_with fail
    refine h2.mono ?_
    rintro e w1 ⟨rfl, e1⟩
    subst e1
    go_wp2_with fail
    go_ret
    exact ⟨rfl, HR.out, But.refl _ _⟩
  · have hx' := hx
    obtain ⟨y, rfl, hy⟩ := inR_nat hx
    cases hw : whr R m y with
    | none =>
      have hE : dropE n m R y = 51 := by simp [dropE, hx', hw]
      have hR : dropR n m R y = R := by simp [dropR, hx', outR, hw]
      have h3 := rat_k p b B n m y R w h
      rw [show atI R m y = -1 by simp [atI, hw]] at h3
      rw [hE, hR]
      rw [hx'] at h2
      have HR : Hid (Rx w p b B n m R) := h
      clear h
      go_enter Try.func33, Try.ntmps33
      go_wp2_with fail
      refine h2.mono ?_
      rintro e w1 ⟨rfl, e1⟩
      subst e1
      go_wp2_with fail
      refine h3.mono ?_
      rintro e w1 ⟨rfl, e1⟩
      subst e1
      go_wp2_with fail
      go_ret
      exact ⟨rfl, HR.out, But.refl _ _⟩
    | some k =>
      have hE : dropE n m R y = 0 := by simp [dropE, hx', hw]
      have hR : dropR n m R y = upd R k (wo (R k) y) := by simp [dropR, hx', outR, hw, wo]
      rw [hE, hR]
      exact rdrop_ok p b B n m R k y (whr_some hw).1 hy hw w h

set_option maxHeartbeats 1000000 in
theorem rmove_k (p b B n m : Nat) (R : Nat → List Nat) (i x : Int) (w : World) (h : Rx w p b B n m R) (ok : Okr n m R) :
    Calls Try.prog 34 #[.pointer (some ⟨p, 0, none⟩), .int .i64 i, .int .i64 x] w fun e w' => e = .returned (.int .i64 (mayE n m i x)) ∧ Rx w' p b B n m (moveR n m R i x) ∧ But (fun y => y = b) w w' := by
  have h1 := ris_k p b B n m R i w h
  have h2 := rnode_k p b B n m R x w h
  cases hi : inR m i
  · have hE : mayE n m i x = 5 := by simp [mayE, hi]
    have hR : moveR n m R i x = R := by simp [moveR, hi]
    rw [hE, hR]
    rw [hi] at h1
    have HR : Hid (Rx w p b B n m R) := h
    clear h ok h2
    go_enter Try.func34, Try.ntmps34
    go_wp2_with fail
    refine h1.mono ?_
    rintro e w1 ⟨rfl, e1⟩
    subst e1
    go_wp2_with fail
    go_ret
    exact ⟨rfl, HR.out, But.refl _ _⟩
  · cases hx : inR n x
    · have hE : mayE n m i x = 5 := by simp [mayE, hx]
      have hR : moveR n m R i x = R := by simp [moveR, hx]
      rw [hE, hR]
      rw [hi] at h1
      rw [hx] at h2
      have HR : Hid (Rx w p b B n m R) := h
      clear h ok
      go_enter Try.func34, Try.ntmps34
      go_wp2_with fail
      refine h1.mono ?_
      rintro e w1 ⟨rfl, e1⟩
      subst e1
      go_wp2_with fail
      refine h2.mono ?_
      rintro e w1 ⟨rfl, e1⟩
      subst e1
      go_wp2_with fail
      go_ret
      exact ⟨rfl, HR.out, But.refl _ _⟩
    · have hi' := hi
      have hx' := hx
      obtain ⟨k, rfl, hk⟩ := inR_nat hi
      obtain ⟨y, rfl, hy⟩ := inR_nat hx
      have hE : mayE n m k y = 0 := mayE_in hi' hx'
      have hM : moveR n m R k y = upd (outR R m y) k (outR R m y k ++ [y]) := by simp [moveR, hi', hx']
      rw [hE, hM]
      cases hw : whr R m y with
      | none =>
        have hO : outR R m y = R := by simp [outR, hw]
        rw [hO]
        exact rmove_out p b B n m R k y hk hy hw (ok.room hk hy (whr_none hw k hk)) w h
      | some j =>
        obtain ⟨hj, hyj⟩ := whr_some hw
        have hO : outR R m y = upd R j (wo (R j) y) := by simp [outR, hw, wo]
        refine rmove_in p b B n m R k y j (outR R m y) hO hk hy hj hw ?_ w h
        rw [hO]
        by_cases e : k = j
        · subst e
          rw [upd_at]
          have hlt : (wo (R k) y).length < (R k).length := by
            unfold wo
            exact List.length_filter_lt_length_iff_exists.2 ⟨y, hyj, by simp⟩
          have := h.len k hk
          omega
        · rw [upd_ne e]
          exact ok.room hk hy (fun hm => e (ok.dis k j y hk hj hm hyj))

set_option maxHeartbeats 1000000 in
theorem rtake_k (p b B n m : Nat) (R : Nat → List Nat) (i j : Int) (w : World) (h : Rx w p b B n m R) (ok : Okr n m R) :
    Calls Try.prog 35 #[.pointer (some ⟨p, 0, none⟩), .int .i64 i, .int .i64 j] w fun e w' => e = .returned (.int .i64 (takeE m i j)) ∧ Rx w' p b B n m (takeR m R i j) ∧ But (fun y => y = b) w w' := by
  have h1 := ris_k p b B n m R i w h
  have h2 := ris_k p b B n m R j w h
  cases hi : inR m i
  · have hE : takeE m i j = 5 := by simp [takeE, hi]
    have hR : takeR m R i j = R := by simp [takeR, hi]
    rw [hE, hR]
    rw [hi] at h1
    have HR : Hid (Rx w p b B n m R) := h
    clear h ok h2
    go_enter Try.func35, Try.ntmps35
    go_wp2_with fail
    refine h1.mono ?_
    rintro e w1 ⟨rfl, e1⟩
    subst e1
    go_wp2_with fail
    go_ret
    exact ⟨rfl, HR.out, But.refl _ _⟩
  · cases hj : inR m j
    · have hE : takeE m i j = 5 := by simp [takeE, hj]
      have hR : takeR m R i j = R := by simp [takeR, hj]
      rw [hE, hR]
      rw [hi] at h1
      rw [hj] at h2
      have HR : Hid (Rx w p b B n m R) := h
      clear h ok
      go_enter Try.func35, Try.ntmps35
      go_wp2_with fail
      refine h1.mono ?_
      rintro e w1 ⟨rfl, e1⟩
      subst e1
      go_wp2_with fail
      refine h2.mono ?_
      rintro e w1 ⟨rfl, e1⟩
      subst e1
      go_wp2_with fail
      go_ret
      exact ⟨rfl, HR.out, But.refl _ _⟩
    · have hE : takeE m i j = 0 := by simp [takeE, hi, hj]
      have hi' := hi
      have hj' := hj
      obtain ⟨k, rfl, hk⟩ := inR_nat hi
      obtain ⟨f, rfl, hf⟩ := inR_nat hj
      rw [hE]
      by_cases e : k = f
      · subst e
        have hR : takeR m R k k = R := by simp [takeR]
        rw [hR]
        rw [hi'] at h1 h2
        have HR : Hid (Rx w p b B n m R) := h
        clear h ok
        go_enter Try.func35, Try.ntmps35
        go_wp2_with fail
        refine h1.mono ?_
        rintro e w1 ⟨rfl, e1⟩
        subst e1
        go_wp2_with fail
        refine h2.mono ?_
        rintro e w1 ⟨rfl, e1⟩
        subst e1
        go_wp2_with fail
        go_ret
        exact ⟨rfl, HR.out, But.refl _ _⟩
      · have hR : takeR m R k f = upd (upd R k (R k ++ R f)) f [] := by
          have : ¬ (k : Int) = (f : Int) := by omega
          simp [takeR, hi', hj', this]
        rw [hR]
        refine rtake_ok p b B n m R k f hk hf e ?_ w h
        have h3 := len_le (n := n) (l := R k ++ R f) (List.nodup_append.2 ⟨ok.nod k hk, ok.nod f hf, fun x hx y hy exy => e (ok.dis k f x hk hf hx (exy ▸ hy))⟩) (fun x hx => by
          rcases List.mem_append.1 hx with hx | hx
          · exact ok.rng k hk x hx
          · exact ok.rng f hf x hx)
        have := ok.bd
        simp at h3; omega

set_option maxHeartbeats 1000000 in
theorem rof_k (p b B n m : Nat) (R : Nat → List Nat) (x : Int) (w : World) (h : Rx w p b B n m R) :
    Calls Try.prog 37 #[.pointer (some ⟨p, 0, none⟩), .int .i64 x] w fun e w' => e = .returned (.tuple #[.int .i64 (ofI n m R x), .bool (ofB n m R x)]) ∧ w' = w := by
  have h2 := rnode_k p b B n m R x w h
  cases hx : inR n x
  · have hE : ofI n m R x = 0 := by simp [ofI, hx]
    have hR : ofB n m R x = false := by simp [ofB, hx]
    rw [hE, hR]
    rw [hx] at h2
    clear h
    go_enter Try.func37, Try.ntmps37
    go_wp2_with fail
    refine h2.mono ?_
    rintro e w1 ⟨rfl, e1⟩
    subst e1
    go_wp2_with fail
    go_ret2
    exact ⟨rfl, rfl⟩
  · have hx' := hx
    obtain ⟨y, rfl, hy⟩ := inR_nat hx
    have h3 := rat_k p b B n m y R w h
    rw [hx'] at h2
    cases hw : whr R m y with
    | none =>
      have hE : ofI n m R y = 0 := by simp [ofI, hw]
      have hR : ofB n m R y = false := by simp [ofB, hw]
      rw [show atI R m y = -1 by simp [atI, hw]] at h3
      rw [hE, hR]
      clear h
      go_enter Try.func37, Try.ntmps37
      go_wp2_with fail
      refine h2.mono ?_
      rintro e w1 ⟨rfl, e1⟩
      subst e1
      go_wp2_with fail
      refine h3.mono ?_
      rintro e w1 ⟨rfl, e1⟩
      subst e1
      go_wp2_with fail
      go_ret2
      exact ⟨rfl, rfl⟩
    | some k =>
      have hE : ofI n m R y = (k : Int) := by simp [ofI, hx', hw]
      have hR : ofB n m R y = true := by simp [ofB, hx', hw]
      rw [show atI R m y = (k : Int) by simp [atI, hw]] at h3
      rw [hE, hR]
      have hneg : decide ((k : Int) < 0) = false := by simp
      clear h
      go_enter Try.func37, Try.ntmps37
      go_wp2_with fail
      refine h2.mono ?_
      rintro e w1 ⟨rfl, e1⟩
      subst e1
      go_wp2_with fail
      refine h3.mono ?_
      rintro e w1 ⟨rfl, e1⟩
      subst e1
      go_wp2_with fail
      go_ret2
      exact ⟨rfl, rfl⟩

end Go.Proofs.Ytiaacjollcccaaa
