/- The document's Reset and New. -/
import Derived.Test.YtkgjikfndinpoaaJRefS
import Derived.Test.YtkgjikfndinpoaaJReset
import Derived.Test.YtkgjikfndinpoaaJSame
namespace Go.Proofs.Ytkgjikfndinpoaa
open Go.RowKit Go.Sort
set_option maxRecDepth 100000

theorem encP_snoc (l : List (Int × Int)) (x : Int × Int) : encP (l ++ [x]) = encP l ++ [.int .i64 x.1, .int .u64 x.2] := by simp [encP]
theorem slots_take {l : List Ms} {k : Nat} {m : Ms} (h : l[k]? = some m) : slotsL (l.take (k + 1)) = slotsL (l.take k) ++ [(m.n, m.g)] := by
  rw [List.take_add_one, h]
  simp [slotsL]
theorem slN_own {n : Nat} {w : World} {v : Value} {l : List (Int × Int)} (h : w.ownsRow n 36 2 v l.length (encP l)) : SlN n w v l := by
  have at_ : ∀ (l : List (Int × Int)) (j : Nat) (u : Int × Int), l[j]? = some u → (encP l)[j * 2]? = some (.int .i64 u.1) ∧ (encP l)[j * 2 + 1]? = some (.int .u64 u.2) := by
    intro l
    induction l with
    | nil => intro j u h; simp at h
    | cons x l ih =>
      intro j u h
      cases j with
      | zero => simp at h; subst h; exact ⟨rfl, rfl⟩
      | succ j =>
        obtain ⟨h1, h2⟩ := ih j u (by simpa using h)
        have e : encP (x :: l) = .int .i64 x.1 :: .int .u64 x.2 :: encP l := rfl
        rw [e, show (j + 1) * 2 = j * 2 + 1 + 1 by omega, show j * 2 + 1 + 1 + 1 = (j * 2 + 1) + 1 + 1 by omega]
        exact ⟨by simpa using h1, by simpa using h2⟩
  rcases h.2 with ⟨rfl, hn⟩ | ⟨g, cap, cur, rfl, hb, hg, hc1, hc2, _⟩
  · obtain rfl : l = [] := by cases l with
      | nil => rfl
      | cons x l => simp at hn
    exact ⟨none, 0, rfl, Nat.le_refl _, Nat.zero_le _, fun j u hu => by simp at hu⟩
  · have hc := h.cells (g := g) rfl
    refine ⟨some ⟨g, 0, none⟩, cap, rfl, hc1, hc2, fun j u hu => ⟨g, 0, rfl, hb, ?_⟩⟩
    obtain ⟨h1, h2⟩ := at_ l j u hu
    have a1 := hc (j * 2) _ h1
    have a2 := hc (j * 2 + 1) _ h2
    rw [Go.WideShapes.add_plain] at a1 a2
    exact ⟨a1, a2⟩
section
variable {w : World} {r : Nat} {rv : Value} {A : La} {l : List Ms}
set_option maxHeartbeats 4000000 in
theorem rreset (x : Rq w r rv A l) (hl : l.length ≤ 1000) (c : Nat) (hc : c ≤ l.length) (h0 : ∀ j m, j < c → l[j]? = some m → ¬ m.is = 1) (h1 : ∀ m, l[c]? = some m → m.is = 1) (er : Int) (A' : La) (l' : List Ms) (sl : List (Int × Int))
    (hno : c < l.length → er = 84 ∧ A' = A ∧ l' = l ∧ sl = []) (hok : c = l.length → er = 0 ∧ A' = { A with ep := (A.ep + 1) % 18446744073709551616 } ∧ l' = [] ∧ sl = slotsL l) :
    Calls Try.prog 28 #[pV r] w fun v w' => (∃ u, v = .returned (.tuple #[u, .int .i64 er]) ∧ SlN w.heap.size w' u sl) ∧ RGo w r rv w' A' l' := by
  obtain ⟨a0, cap0, hv0⟩ := x.form
  subst hv0
  have HX : Hid (Rq w r (.slice a0 l.length cap0) A l) := x
  have H0 : Hid (∀ j m, j < c → l[j]? = some m → ¬ m.is = 1) := h0
  have H1 : Hid (∀ m, l[c]? = some m → m.is = 1) := h1
  have HNO : Hid (c < l.length → er = 84 ∧ A' = A ∧ l' = l ∧ sl = []) := hno
  have HOK : Hid (c = l.length → er = 0 ∧ A' = { A with ep := (A.ep + 1) % 18446744073709551616 } ∧ l' = [] ∧ sl = slotsL l) := hok
  have hrl := x.lt
  have HRL : Hid (r < w.heap.size) := hrl
  have hO : w.ownsRow w.heap.size 36 2 (.slice none 0 0) (slotsL (l.take 0)).length (encP (slotsL (l.take 0))) := World.ownsRow_nil _ _ _ _
  clear h0 h1 hno hok x hrl
  generalize hN : l.length = N at *
  go_enter Try.func28, Try.ntmps28
  go_wp2_with fail
  go_loopw [4, 5] (fun v vi wr => ∃ k : Nat, k ≤ c ∧ vi = .int .i64 k ∧ Hid (Below w.heap.size w wr) ∧ Hid (wr.ownsRow w.heap.size 36 2 v (slotsL (l.take k)).length (encP (slotsL (l.take k))))) (fun _ vi _ => c - (intOf vi).toNat)
  case atStart => exact ⟨0, Nat.zero_le _, rfl, Below.refl _ _, hO⟩
  case round =>
    obtain ⟨k, hk, rfl, HBr, HO⟩ := hrel
    have xr := HX.out.below HBr.out
    have k4 := xr.cell 4
    simp only [List.getElem?_toArray, List.getElem?_cons_succ, List.getElem?_cons_zero] at k4
    by_cases hkN : k < N
    · obtain ⟨m, hm⟩ : ∃ m, l[k]? = some m := ⟨l[k]'(by omega), List.getElem?_eq_getElem (by omega)⟩
      obtain ⟨g, cap2, hv2, _, _, m0, m1, m2, m3, m4, m5, m6⟩ := xr.at_ hm
      injection hv2 with hv2 hv3 hv4
      subst hv2 hv4
      clear hv3 xr m0 m2 m5 m6
      by_cases hkc : k < c
      · have hne := H0.out k m hkc hm
        have hne' : ((m.is : Int) == 1) = false := by simp; omega
        have hsl := slots_take hm
        have hlen : (slotsL (l.take k)).length = k := by simp [slotsL]; omega
        have S6 := HO.out.alloc (.cells #[.int .i64 m.n, .int .u64 m.g] 36)
        obtain ⟨i0, hi0, hz0, hz1, hz2⟩ := info_parts Try.infoSl
        have newB : ∀ j u, [Value.int .i64 m.n, .int .u64 m.g][j]? = some u → (wr.alloc (.cells #[.int .i64 m.n, .int .u64 m.g] 36)).cell? ((⟨wr.heap.size, 0, none⟩ : Addr).add j) = some u := fun j u hj => by
          have hl := (List.getElem?_eq_some_iff.1 hj)
          rw [Go.WideShapes.add_plain, Nat.zero_add]
          have := jnew_at wr #[.int .i64 m.n, .int .u64 m.g] 36 j (by simpa using hl.1)
          rw [this]
          simpa using hl.2
        have hbs := HBr.out.size
        obtain ⟨v', w9, hrun9, own9, hgr, _, hloc⟩ := run_append_own_at (P := Try.prog) (w := wr.alloc (.cells #[.int .i64 m.n, .int .u64 m.g] 36)) w.heap.size 53 53 36 i0 (.agg #[.int .i64 0, .int .u64 0]) 2 16 Try.underlying53 hi0 hz0 hz1 hz2 rfl (by decide) u4 _ _ S6 ⟨wr.heap.size, 0, none⟩ 1 1 [.int .i64 m.n, .int .u64 m.g] rfl newB (by simp [Value.oneCell']) (by unfold maxLen; omega) (by omega) (by simp; omega)
        have HO9 : Hid (w9.ownsRow w.heap.size 36 2 v' (slotsL (l.take (k + 1))).length (encP (slotsL (l.take (k + 1))))) := by
          show World.ownsRow _ _ _ _ _ _ _
          rw [hsl, encP_snoc, List.length_append]
          exact own9
        have HB9 : Hid (Below w.heap.size w w9) := (jalloc HBr.out (.cells #[.int .i64 m.n, .int .u64 m.g] 36)).grown hgr (by simp; omega) (fun q e => (S6.lt q e).1)
        generalize m.is = mi at *
        clear S6 newB own9 hgr hloc hsl hlen hm hi0 hz0 hz1 hz2 hbs HBr HO
        go_wp2_with (at_builtin; refine wpList_append_run rfl _ _ _ rfl _ _ _ rfl rfl hrun9 ?_)
        go_roundw
        case rel => exact ⟨k + 1, by omega, by go_num, HB9, HO9⟩
        case measure => simp [intOf]; omega
      · obtain rfl : k = c := by omega
        have he := H1.out m hm
        rw [he] at m1
        clear hm he hkc
        go_wp2_with fail
        go_ret2
        obtain ⟨rfl, rfl, rfl, rfl⟩ := HNO.out hkN
        exact ⟨⟨_, rfl, ⟨none, 0, rfl, Nat.le_refl _, Nat.zero_le _, fun j u hu => by simp at hu⟩⟩, RGo.stay HX.out HBr.out⟩
    · obtain rfl : k = N := by omega
      obtain rfl : c = k := by omega
      obtain ⟨rfl, rfl, rfl, rfl⟩ := HOK.out rfl
      have k3 := xr.cell 3
      simp only [List.getElem?_toArray, List.getElem?_cons_succ, List.getElem?_cons_zero] at k3
      have f3 := xr.fz 3
      have f4 := xr.fz 4
      have hwr : IntKind.u64.wrap (A.ep + 1) = (A.ep + 1) % 18446744073709551616 := by rw [IntKind.wrap_u64]
      have HXr : Hid (Rq wr r (.slice a0 c cap0) A l) := xr
      clear xr
      go_wp2_with fail
      go_ret2
      have ho := HO.out
      rw [← hN, List.take_length] at ho
      have hne : ∀ b, u4.ownBlock = some b → b ≠ r := fun b e h => by
        have := (ho.lt b e).1
        have := HRL.out
        omega
      have own' := ownsRow_setCell_other (ownsRow_setCell_other ho (a := ⟨r, 4, none⟩) (fun h => hne _ h rfl) (.slice none 0 0)) (a := ⟨r, 3, none⟩) (fun h => hne _ h rfl) (.int .u64 ((A.ep + 1) % 18446744073709551616))
      refine ⟨⟨_, rfl, slN_own own'⟩, .slice none 0 0, ⟨?_, World.ownsRow_nil _ _ _ _, by simp [Value.ownBlock]⟩, ?_, fun b e => by simp [Value.ownBlock] at e⟩
      · exact heap_setCell_same _ r 3 _ _ _ (heap_setCell_same wr r 4 _ _ _ HXr.out.bl)
      · exact But.setCell (S := fun b => b = r) (But.setCell (S := fun b => b = r) (But.of HBr.out) (p := ⟨r, 4, none⟩) rfl _) (p := ⟨r, 3, none⟩) rfl _
set_option maxHeartbeats 1000000 in
theorem rnew (w : World) {c : Nat} {two : Bool} {st : Int} (h1 : 1 ≤ c) (h2 : c ≤ 64) (s0 : 0 ≤ st) (s1 : st < 18446744073709551616) :
    Calls Try.prog 8 #[.int .i64 (c : Int), .bool two, .int .u64 st] w fun v w' => v = .returned (.tuple #[pV w.heap.size, .int .i64 0]) ∧ Rq w' w.heap.size (.slice none 0 0) (newA c two st) [] ∧ Below w.heap.size w w' := by
  go_enter Try.func8, Try.ntmps8
  go_wp2_with fail
  go_ret2
  refine ⟨rfl, ⟨?_, World.ownsRow_nil _ _ _ _, by simp [Value.ownBlock]⟩, jalloc (Below.refl _ w) _⟩
  have e : sqI st 0 = st := by unfold sqI; omega
  show (w.alloc _).heap[w.heap.size]? = some (.cells #[.int .i64 (c : Int), .bool two, .int .u64 (sqI st 0), .int .u64 0, .slice none 0 0] 69 (0, 0))
  rw [e]
  exact gheap_new w _
set_option maxHeartbeats 1000000 in
theorem rnew_bad (w : World) {c : Int} {two : Bool} {st : Int} (h : ¬ (1 ≤ c ∧ c ≤ 64)) :
    Calls Try.prog 8 #[.int .i64 c, .bool two, .int .u64 st] w fun v w' => v = .returned (.tuple #[.pointer none, .int .i64 80]) ∧ Below w.heap.size w w' := by
  by_cases h1 : c < 1
  · go_enter Try.func8, Try.ntmps8
    go_wp2_with fail
    go_ret2
    exact ⟨rfl, Below.refl _ _⟩
  · have h2 : 64 < c := by omega
    go_enter Try.func8, Try.ntmps8
    go_wp2_with fail
    go_ret2
    exact ⟨rfl, Below.refl _ _⟩
end
end Go.Proofs.Ytkgjikfndinpoaa
