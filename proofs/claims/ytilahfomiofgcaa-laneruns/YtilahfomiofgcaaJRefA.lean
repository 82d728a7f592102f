/- The document's acts, in words of the lane. -/
import Derived.Test.YtilahfomiofgcaaJRefS
import Derived.Test.YtilahfomiofgcaaJReset
import Derived.Test.YtilahfomiofgcaaJSame
import Derived.Deep.RegionHeld3
import Derived.Test.YtilahfomiofgcaaJRef
import Derived.Test.YtilahfomiofgcaaJRefP
import Derived.Test.YtilahfomiofgcaaJRefT
import Derived.Test.YtilahfomiofgcaaJRefC
import Derived.Test.YtilahfomiofgcaaJRefR
namespace Go.Proofs.Ytilahfomiofgcaa
open Go.RowKit Go.Sort
set_option maxRecDepth 100000

theorem encP_snoc (l : List (Int × Int)) (x : Int × Int) : encP (l ++ [x]) = encP l ++ [.int .i64 x.1, .int .u64 x.2] := by simp [encP]
theorem slots_take {l : List Ms} {k : Nat} {m : Ms} (h : l[k]? = some m) : slotsL (l.take (k + 1)) = slotsL (l.take k) ++ [(m.n, m.g)] := by
  rw [List.take_add_one, h]
  simp [slotsL]
theorem slN_own {n : Nat} {w : World} {v : Value} {l : List (Int × Int)} (h : w.ownsRow n 36 2 v l.length (encP l)) : SlN n w v l := by
  have at_ : ∀ (l : List (Int × Int)) (j : Nat) (u : Int × Int), l[j]? = some u → (encP l)[j * 2]? = some (.int .i64 u.1) ∧ (encP l)[j * 2 + 1]? = some (.int .u64 u.2) := by
    intro l
    induction l with
    | nil => intro j u h; simp at h
    | cons x l ih =>
      intro j u h
      cases j with
      | zero => simp at h; subst h; exact ⟨rfl, rfl⟩
      | succ j =>
        obtain ⟨h1, h2⟩ := ih j u (by simpa using h)
        have e : encP (x :: l) = .int .i64 x.1 :: .int .u64 x.2 :: encP l := rfl
        rw [e, show (j + 1) * 2 = j * 2 + 1 + 1 by omega, show j * 2 + 1 + 1 + 1 = (j * 2 + 1) + 1 + 1 by omega]
        exact ⟨by simpa using h1, by simpa using h2⟩
  rcases h.2 with ⟨rfl, hn⟩ | ⟨g, cap, cur, rfl, hb, hg, hc1, hc2, _⟩
  · obtain rfl : l = [] := by cases l with
      | nil => rfl
      | cons x l => simp at hn
    exact ⟨none, 0, rfl, Nat.le_refl _, Nat.zero_le _, fun j u hu => by simp at hu⟩
  · have hc := h.cells (g := g) rfl
    refine ⟨some ⟨g, 0, none⟩, cap, rfl, hc1, hc2, fun j u hu => ⟨g, 0, rfl, hb, ?_⟩⟩
    obtain ⟨h1, h2⟩ := at_ l j u hu
    have a1 := hc (j * 2) _ h1
    have a2 := hc (j * 2 + 1) _ h2
    rw [Go.WideShapes.add_plain] at a1 a2
    exact ⟨a1, a2⟩
section
variable {w : World} {r : Nat} {rv : Value} {A : La} {l : List Ms}
set_option maxHeartbeats 4000000 in
theorem rreset (x : Rq w r rv A l) (hl : l.length ≤ 1000) (c : Nat) (hc : c ≤ l.length) (h0 : ∀ j m, j < c → l[j]? = some m → ¬ m.is = 1) (h1 : ∀ m, l[c]? = some m → m.is = 1) (er : Int) (A' : La) (l' : List Ms) (sl : List (Int × Int))
    (hno : c < l.length → er = 84 ∧ A' = A ∧ l' = l ∧ sl = []) (hok : c = l.length → er = 0 ∧ A' = { A with ep := (A.ep + 1) % 18446744073709551616 } ∧ l' = [] ∧ sl = slotsL l) :
    Calls Try.prog 25 #[pV r] w fun v w' => (∃ u, v = .returned (.tuple #[u, .int .i64 er]) ∧ SlN w.heap.size w' u sl) ∧ RGo w r rv w' A' l' := by
  obtain ⟨a0, cap0, hv0⟩ := x.form
  subst hv0
  have HX : Hid (Rq w r (.slice a0 l.length cap0) A l) := x
  have H0 : Hid (∀ j m, j < c → l[j]? = some m → ¬ m.is = 1) := h0
  have H1 : Hid (∀ m, l[c]? = some m → m.is = 1) := h1
  have HNO : Hid (c < l.length → er = 84 ∧ A' = A ∧ l' = l ∧ sl = []) := hno
  have HOK : Hid (c = l.length → er = 0 ∧ A' = { A with ep := (A.ep + 1) % 18446744073709551616 } ∧ l' = [] ∧ sl = slotsL l) := hok
  have hrl := x.lt
  have HRL : Hid (r < w.heap.size) := hrl
  have hO : w.ownsRow w.heap.size 36 2 (.slice none 0 0) (slotsL (l.take 0)).length (encP (slotsL (l.take 0))) := World.ownsRow_nil _ _ _ _
  clear h0 h1 hno hok x hrl
  generalize hN : l.length = N at *
  go_enter Try.func25, Try.ntmps25
  go_wp2_with fail
  go_loopw [4, 5] (fun v vi wr => ∃ k : Nat, k ≤ c ∧ vi = .int .i64 k ∧ Hid (Below w.heap.size w wr) ∧ Hid (wr.ownsRow w.heap.size 36 2 v (slotsL (l.take k)).length (encP (slotsL (l.take k))))) (fun _ vi _ => c - (intOf vi).toNat)
  case atStart => exact ⟨0, Nat.zero_le _, rfl, Below.refl _ _, hO⟩
  case round =>
    obtain ⟨k, hk, rfl, HBr, HO⟩ := hrel
    have xr := HX.out.below HBr.out
    have k4 := xr.cell 4
    simp only [List.getElem?_toArray, List.getElem?_cons_succ, List.getElem?_cons_zero] at k4
    by_cases hkN : k < N
    · obtain ⟨m, hm⟩ : ∃ m, l[k]? = some m := ⟨l[k]'(by omega), List.getElem?_eq_getElem (by omega)⟩
      obtain ⟨g, cap2, hv2, _, _, m0, m1, m2, m3, m4, m5, m6⟩ := xr.at_ hm
      injection hv2 with hv2 hv3 hv4
      subst hv2 hv4
      clear hv3 xr m0 m2 m5 m6
      by_cases hkc : k < c
      · have hne := H0.out k m hkc hm
        have hne' : ((m.is : Int) == 1) = false := by simp; omega
        have hsl := slots_take hm
        have hlen : (slotsL (l.take k)).length = k := by simp [slotsL]; omega
        have S6 := HO.out.alloc (.cells #[.int .i64 m.n, .int .u64 m.g] 36)
        obtain ⟨i0, hi0, hz0, hz1, hz2⟩ := info_parts Try.infoSl
        have newB : ∀ j u, [Value.int .i64 m.n, .int .u64 m.g][j]? = some u → (wr.alloc (.cells #[.int .i64 m.n, .int .u64 m.g] 36)).cell? ((⟨wr.heap.size, 0, none⟩ : Addr).add j) = some u := fun j u hj => by
          have hl := (List.getElem?_eq_some_iff.1 hj)
          rw [Go.WideShapes.add_plain, Nat.zero_add]
          have := jnew_at wr #[.int .i64 m.n, .int .u64 m.g] 36 j (by simpa using hl.1)
          rw [this]
          simpa using hl.2
        have hbs := HBr.out.size
        obtain ⟨v', w9, hrun9, own9, hgr, _, hloc⟩ := run_append_own_at (P := Try.prog) (w := wr.alloc (.cells #[.int .i64 m.n, .int .u64 m.g] 36)) w.heap.size 66 66 36 i0 (.agg #[.int .i64 0, .int .u64 0]) 2 16 Try.underlying66 hi0 hz0 hz1 hz2 rfl (by decide) u4 _ _ S6 ⟨wr.heap.size, 0, none⟩ 1 1 [.int .i64 m.n, .int .u64 m.g] rfl newB (by simp [Value.oneCell']) (by unfold maxLen; omega) (by omega) (by simp; omega)
        have HO9 : Hid (w9.ownsRow w.heap.size 36 2 v' (slotsL (l.take (k + 1))).length (encP (slotsL (l.take (k + 1))))) := by
          show World.ownsRow _ _ _ _ _ _ _
          rw [hsl, encP_snoc, List.length_append]
          exact own9
        have HB9 : Hid (Below w.heap.size w w9) := (jalloc HBr.out (.cells #[.int .i64 m.n, .int .u64 m.g] 36)).grown hgr (by simp; omega) (fun q e => (S6.lt q e).1)
        generalize m.is = mi at *
        clear S6 newB own9 hgr hloc hsl hlen hm hi0 hz0 hz1 hz2 hbs HBr HO
        go_wp2_with (at_builtin; refine wpList_append_run rfl _ _ _ rfl _ _ _ rfl rfl hrun9 ?_)
        go_roundw
        case rel => exact ⟨k + 1, by omega, by go_num, HB9, HO9⟩
        case measure => simp [intOf]; omega
      · obtain rfl : k = c := by omega
        have he := H1.out m hm
        rw [he] at m1
        clear hm he hkc
        go_wp2_with fail
        go_ret2
        obtain ⟨rfl, rfl, rfl, rfl⟩ := HNO.out hkN
        exact ⟨⟨_, rfl, ⟨none, 0, rfl, Nat.le_refl _, Nat.zero_le _, fun j u hu => by simp at hu⟩⟩, RGo.stay HX.out HBr.out⟩
    · obtain rfl : k = N := by omega
      obtain rfl : c = k := by omega
      obtain ⟨rfl, rfl, rfl, rfl⟩ := HOK.out rfl
      have k3 := xr.cell 3
      simp only [List.getElem?_toArray, List.getElem?_cons_succ, List.getElem?_cons_zero] at k3
      have f3 := xr.fz 3
      have f4 := xr.fz 4
      have hwr : IntKind.u64.wrap (A.ep + 1) = (A.ep + 1) % 18446744073709551616 := by rw [IntKind.wrap_u64]
      have HXr : Hid (Rq wr r (.slice a0 c cap0) A l) := xr
      clear xr
      go_wp2_with fail
      go_ret2
      have ho := HO.out
      rw [← hN, List.take_length] at ho
      have hne : ∀ b, u4.ownBlock = some b → b ≠ r := fun b e h => by
        have := (ho.lt b e).1
        have := HRL.out
        omega
      have own' := ownsRow_setCell_other (ownsRow_setCell_other ho (a := ⟨r, 4, none⟩) (fun h => hne _ h rfl) (.slice none 0 0)) (a := ⟨r, 3, none⟩) (fun h => hne _ h rfl) (.int .u64 ((A.ep + 1) % 18446744073709551616))
      refine ⟨⟨_, rfl, slN_own own'⟩, .slice none 0 0, ⟨?_, World.ownsRow_nil _ _ _ _, by simp [Value.ownBlock]⟩, ?_, fun b e => by simp [Value.ownBlock] at e⟩
      · exact heap_setCell_same _ r 3 _ _ _ (heap_setCell_same wr r 4 _ _ _ HXr.out.bl)
      · exact But.setCell (S := fun b => b = r) (But.setCell (S := fun b => b = r) (But.of HBr.out) (p := ⟨r, 4, none⟩) rfl _) (p := ⟨r, 3, none⟩) rfl _
set_option maxHeartbeats 1000000 in
theorem rnew (w : World) {c : Nat} {two : Bool} {st : Int} (h1 : 1 ≤ c) (h2 : c ≤ 64) (s0 : 0 ≤ st) (s1 : st < 18446744073709551616) :
    Calls Try.prog 6 #[.int .i64 (c : Int), .bool two, .int .u64 st] w fun v w' => v = .returned (.tuple #[pV w.heap.size, .int .i64 0]) ∧ Rq w' w.heap.size (.slice none 0 0) (newA c two st) [] ∧ Below w.heap.size w w' := by
  go_enter Try.func6, Try.ntmps6
  go_wp2_with fail
  go_ret2
  refine ⟨rfl, ⟨?_, World.ownsRow_nil _ _ _ _, by simp [Value.ownBlock]⟩, jalloc (Below.refl _ w) _⟩
  have e : sqI st 0 = st := by unfold sqI; omega
  show (w.alloc _).heap[w.heap.size]? = some (.cells #[.int .i64 (c : Int), .bool two, .int .u64 (sqI st 0), .int .u64 0, .slice none 0 0] 63 (0, 0))
  rw [e]
  exact gheap_new w _
set_option maxHeartbeats 1000000 in
theorem rnew_bad (w : World) {c : Int} {two : Bool} {st : Int} (h : ¬ (1 ≤ c ∧ c ≤ 64)) :
    Calls Try.prog 6 #[.int .i64 c, .bool two, .int .u64 st] w fun v w' => v = .returned (.tuple #[.pointer none, .int .i64 80]) ∧ Below w.heap.size w w' := by
  by_cases h1 : c < 1
  · go_enter Try.func6, Try.ntmps6
    go_wp2_with fail
    go_ret2
    exact ⟨rfl, Below.refl _ _⟩
  · have h2 : 64 < c := by omega
    go_enter Try.func6, Try.ntmps6
    go_wp2_with fail
    go_ret2
    exact ⟨rfl, Below.refl _ _⟩
end
end Go.Proofs.Ytilahfomiofgcaa
namespace Go.Proofs.Ytilahfomiofgcaa
open Go.RowKit Go.Sort
set_option maxRecDepth 100000

/-- a state's box -/
structure S6 (w : World) (D : Nat) (a b c d e f : Int) : Prop where
  c0 : w.cell? ⟨D, 0, none⟩ = some (.int .i64 a)
  c1 : w.cell? ⟨D, 1, none⟩ = some (.int .i64 b)
  c2 : w.cell? ⟨D, 2, none⟩ = some (.int .i64 c)
  c3 : w.cell? ⟨D, 3, none⟩ = some (.int .i64 d)
  c4 : w.cell? ⟨D, 4, none⟩ = some (.int .i64 e)
  c5 : w.cell? ⟨D, 5, none⟩ = some (.int .u64 f)
  fz : ∀ i, w.frozen? ⟨D, i, none⟩ = false
theorem s6_new (w : World) (a b c d e f : Int) (T : TypeId) : S6 (w.alloc (.cells #[.int .i64 a, .int .i64 b, .int .i64 c, .int .i64 d, .int .i64 e, .int .u64 f] T)) w.heap.size a b c d e f :=
  ⟨jnew_at w _ T 0 (by simp), jnew_at w _ T 1 (by simp), jnew_at w _ T 2 (by simp), jnew_at w _ T 3 (by simp), jnew_at w _ T 4 (by simp), jnew_at w _ T 5 (by simp), jnew_fz (Below.refl _ _)⟩
theorem S6.same {w w' : World} {D : Nat} {a b c d e f : Int} (h : S6 w D a b c d e f) (hb : w'.heap[D]? = w.heap[D]?) : S6 w' D a b c d e f := by
  have k := fun i => World.cell?_of_block (w := w) (a := ⟨D, i, none⟩) hb
  exact ⟨(k 0).trans h.c0, (k 1).trans h.c1, (k 2).trans h.c2, (k 3).trans h.c3, (k 4).trans h.c4, (k 5).trans h.c5, fun i => (World.frozen?_of_block (w := w) (a := ⟨D, i, none⟩) hb).trans (h.fz i)⟩
theorem S6.lt {w : World} {D : Nat} {a b c d e f : Int} (h : S6 w D a b c d e f) : D < w.heap.size := cell_lt h.c0
theorem S6.below {w w' : World} {D : Nat} {a b c d e f : Int} (h : S6 w D a b c d e f) (hb : Below w.heap.size w w') : S6 w' D a b c d e f := h.same (hb.block D h.lt)
/-- how many of the first k are s -/
def cntN (l : List Ms) (s k : Nat) : Nat := (l.take k).countP fun m => m.is == s
def cntO (l : List Ms) (k : Nat) : Nat := (l.take k).countP fun m => !(m.is == 1 || m.is == 2 || m.is == 3)
theorem cnt_hit {l : List Ms} {s k : Nat} {m : Ms} (h : l[k]? = some m) (hs : m.is = s) : cntN l s (k + 1) = cntN l s k + 1 := by
  unfold cntN
  rw [List.take_add_one, h, List.countP_append]
  simp [hs]
theorem cnt_miss {l : List Ms} {s k : Nat} {m : Ms} (h : l[k]? = some m) (hs : ¬ m.is = s) : cntN l s (k + 1) = cntN l s k := by
  unfold cntN
  rw [List.take_add_one, h, List.countP_append]
  simp [hs]
theorem cntO_hit {l : List Ms} {k : Nat} {m : Ms} (h : l[k]? = some m) (h1 : ¬ m.is = 1) (h2 : ¬ m.is = 2) (h3 : ¬ m.is = 3) : cntO l (k + 1) = cntO l k + 1 := by
  unfold cntO
  rw [List.take_add_one, h, List.countP_append]
  simp [h1, h2, h3]
theorem cntO_miss {l : List Ms} {k : Nat} {m : Ms} (h : l[k]? = some m) (hs : m.is = 1 ∨ m.is = 2 ∨ m.is = 3) : cntO l (k + 1) = cntO l k := by
  unfold cntO
  rw [List.take_add_one, h, List.countP_append]
  rcases hs with hs | hs | hs <;> simp [hs]
theorem cntN_le (l : List Ms) (s k : Nat) : cntN l s k ≤ k := by
  unfold cntN
  have := List.countP_le_length (p := fun m : Ms => m.is == s) (l := l.take k)
  simp at this
  omega
theorem cntO_le (l : List Ms) (k : Nat) : cntO l k ≤ k := by
  unfold cntO
  have := List.countP_le_length (p := fun m : Ms => !(m.is == 1 || m.is == 2 || m.is == 3)) (l := l.take k)
  rw [List.length_take] at this
  omega
section
variable {w : World} {r : Nat} {rv : Value} {A : La} {l : List Ms}
theorem s6_set {w : World} {D : Nat} {a b c d e f : Int} (h : S6 w D a b c d e f) (j : Nat) (x : Int) (a' b' c' d' e' : Int) (hj : (j = 1 ∧ b' = x ∧ a' = a ∧ c' = c ∧ d' = d ∧ e' = e) ∨ (j = 2 ∧ c' = x ∧ a' = a ∧ b' = b ∧ d' = d ∧ e' = e) ∨ (j = 3 ∧ d' = x ∧ a' = a ∧ b' = b ∧ c' = c ∧ e' = e) ∨ (j = 4 ∧ e' = x ∧ a' = a ∧ b' = b ∧ c' = c ∧ d' = d)) :
    S6 (w.setCell ⟨D, j, none⟩ (.int .i64 x)) D a' b' c' d' e' f := by
  have ot : ∀ i, i ≠ j → (w.setCell ⟨D, j, none⟩ (.int .i64 x)).cell? ⟨D, i, none⟩ = w.cell? ⟨D, i, none⟩ := fun i hi => World.cell?_setCell_other _ _ _ _ (by intro h; injection h with _ h2 _; exact hi h2.symm)
  have fz : ∀ i, (w.setCell ⟨D, j, none⟩ (.int .i64 x)).frozen? ⟨D, i, none⟩ = false := fun i => by rw [World.frozen?_setCell]; exact h.fz i
  rcases hj with ⟨rfl, rfl, rfl, rfl, rfl, rfl⟩ | ⟨rfl, rfl, rfl, rfl, rfl, rfl⟩ | ⟨rfl, rfl, rfl, rfl, rfl, rfl⟩ | ⟨rfl, rfl, rfl, rfl, rfl, rfl⟩
  · exact ⟨(ot 0 (by decide)).trans h.c0, World.cell?_setCell_same _ _ _ h.c1, (ot 2 (by decide)).trans h.c2, (ot 3 (by decide)).trans h.c3, (ot 4 (by decide)).trans h.c4, (ot 5 (by decide)).trans h.c5, fz⟩
  · exact ⟨(ot 0 (by decide)).trans h.c0, (ot 1 (by decide)).trans h.c1, World.cell?_setCell_same _ _ _ h.c2, (ot 3 (by decide)).trans h.c3, (ot 4 (by decide)).trans h.c4, (ot 5 (by decide)).trans h.c5, fz⟩
  · exact ⟨(ot 0 (by decide)).trans h.c0, (ot 1 (by decide)).trans h.c1, (ot 2 (by decide)).trans h.c2, World.cell?_setCell_same _ _ _ h.c3, (ot 4 (by decide)).trans h.c4, (ot 5 (by decide)).trans h.c5, fz⟩
  · exact ⟨(ot 0 (by decide)).trans h.c0, (ot 1 (by decide)).trans h.c1, (ot 2 (by decide)).trans h.c2, (ot 3 (by decide)).trans h.c3, World.cell?_setCell_same _ _ _ h.c4, (ot 5 (by decide)).trans h.c5, fz⟩
set_option maxHeartbeats 4000000 in
theorem rstate (x : Rq w r rv A l) (hl : l.length ≤ 1000) (hcr : A.cr ≤ 1000) :
    Calls Try.prog 9 #[pV r] w fun v w' => v = .returned (.agg #[.int .i64 ((A.cr : Int) - (l.length : Int)), .int .i64 (cntN l 1 l.length : Int), .int .i64 (cntN l 2 l.length : Int), .int .i64 (cntN l 3 l.length : Int), .int .i64 (cntO l l.length : Int), .int .u64 A.ep]) ∧ Below w.heap.size w w' := by
  obtain ⟨a0, cap0, hv0⟩ := x.form
  subst hv0
  have hrl := x.lt
  have hb1 := jalloc (Below.refl _ w) (.cells #[.int .i64 0, .int .i64 0, .int .i64 0, .int .i64 0, .int .i64 0, .int .u64 0] 42)
  have z1 := s6_new w 0 0 0 0 0 0 42
  have x1 := x.below hb1
  obtain ⟨w1, hw1⟩ : ∃ w1, w.alloc (.cells #[.int .i64 0, .int .i64 0, .int .i64 0, .int .i64 0, .int .i64 0, .int .u64 0] 42) = w1 := ⟨_, rfl⟩
  rw [hw1] at hb1 z1 x1
  have hs1 : w1.heap.size = w.heap.size + 1 := by rw [← hw1]; simp
  have HXw : Hid (Rq w r (.slice a0 l.length cap0) A l) := x
  have HX : Hid (Rq w1 r (.slice a0 l.length cap0) A l) := x1
  have HB1 : Hid (Below w.heap.size w w1) := hb1
  obtain ⟨B, hB⟩ : ∃ B, w.heap.size = B := ⟨_, rfl⟩
  have HZ : Hid (S6 w1 B 0 0 0 0 0 0) := hB ▸ z1
  have toS : ∀ W, Below w1.heap.size w1 W → W.cell? ⟨r, 0, none⟩ = some (.int .i64 (A.cr : Int)) ∧ W.cell? ⟨r, 4, none⟩ = some (.slice a0 l.length cap0) ∧ W.cell? ⟨r, 3, none⟩ = some (.int .u64 A.ep) := fun W hW => by
    have x2 := HX.out.below hW
    exact ⟨x2.cell 0, x2.cell 4, x2.cell 3⟩
  have to1 := toS _ (Below.refl _ _)
  have hsub : IntKind.i64.wrap ((A.cr : Int) - (l.length : Int)) = (A.cr : Int) - (l.length : Int) := by rw [IntKind.wrap_i64]; omega
  clear x x1 hb1 z1
  generalize hN : l.length = N at *
  go_enter Try.func9, Try.ntmps9
  go_wp2_with fail
  clear hw1
  go_region_held3 (fun W => W.cell? ⟨r, 0, none⟩ = some (.int .i64 (A.cr : Int)) ∧ W.cell? ⟨r, 4, none⟩ = some (.slice a0 N cap0) ∧ W.cell? ⟨r, 3, none⟩ = some (.int .u64 A.ep)) (first | assumption | exact to1 | exact toS _ (Below.refl _ _).drew | exact toS _ (((Below.refl _ w1).alloc (Nat.le_refl _) _).drew) | exact toS _ ((Below.refl _ w1).alloc (Nat.le_refl _) _)) (fail)
  have z2 := s6_new w1 ((A.cr : Int) - (N : Int)) 0 0 0 0 A.ep 42
  have hb2 := (jalloc (Below.refl _ w1) (.cells #[.int .i64 ((A.cr : Int) - (N : Int)), .int .i64 0, .int .i64 0, .int .i64 0, .int .i64 0, .int .u64 A.ep] 42)).drew
  have z2' : S6 ((w1.alloc (.cells #[.int .i64 ((A.cr : Int) - (N : Int)), .int .i64 0, .int .i64 0, .int .i64 0, .int .i64 0, .int .u64 A.ep] 42)).drew) (B + 1) ((A.cr : Int) - (N : Int)) 0 0 0 0 A.ep := by
    have e : w1.heap.size = B + 1 := by omega
    rw [← e]
    exact z2.same rfl
  have HZ2 : Hid (S6 ((w1.alloc (.cells #[.int .i64 ((A.cr : Int) - (N : Int)), .int .i64 0, .int .i64 0, .int .i64 0, .int .i64 0, .int .u64 A.ep] 42)).drew) (B + 1) ((A.cr : Int) - (N : Int)) (cntN l 1 0 : Int) (cntN l 2 0 : Int) (cntN l 3 0 : Int) (cntO l 0 : Int) A.ep) := z2'
  have HZ1 : Hid (S6 ((w1.alloc (.cells #[.int .i64 ((A.cr : Int) - (N : Int)), .int .i64 0, .int .i64 0, .int .i64 0, .int .i64 0, .int .u64 A.ep] 42)).drew) B 0 0 0 0 0 0) := HZ.out.below hb2
  have HB2 : Hid (Below w.heap.size w ((w1.alloc (.cells #[.int .i64 ((A.cr : Int) - (N : Int)), .int .i64 0, .int .i64 0, .int .i64 0, .int .i64 0, .int .u64 A.ep] 42)).drew)) := Below.onto HB1.out hb2
  clear z2 z2' hb2 toS to1 HX HZ HB1
  generalize (w1.alloc (.cells #[.int .i64 ((A.cr : Int) - (N : Int)), .int .i64 0, .int .i64 0, .int .i64 0, .int .i64 0, .int .u64 A.ep] 42)).drew = w2 at *
  clear hs1
  go_wp2_with fail
  go_loopw [4] (fun vi wr => ∃ k : Nat, k ≤ N ∧ vi = .int .i64 k ∧ Hid (Below w.heap.size w wr) ∧ Hid (S6 wr B 0 0 0 0 0 0) ∧ Hid (S6 wr (B + 1) ((A.cr : Int) - (N : Int)) (cntN l 1 k : Int) (cntN l 2 k : Int) (cntN l 3 k : Int) (cntO l k : Int) A.ep)) (fun vi _ => N - (intOf vi).toNat)
  case atStart => exact ⟨0, Nat.zero_le _, rfl, HB2, HZ1, HZ2⟩
  case round =>
    obtain ⟨k, hk, rfl, HBr, HZr, HS⟩ := hrel
    have xr := HXw.out.below HBr.out
    have k4 := xr.cell 4
    simp only [List.getElem?_toArray, List.getElem?_cons_succ, List.getElem?_cons_zero] at k4
    by_cases hkN : k < N
    · obtain ⟨m, hm⟩ : ∃ m, l[k]? = some m := ⟨l[k]'(by omega), List.getElem?_eq_getElem (by omega)⟩
      obtain ⟨g, cap2, hv2, _, _, _, m1, _⟩ := xr.at_ hm
      injection hv2 with hv2 hv3 hv4
      subst hv2 hv4
      clear hv3 xr
      obtain ⟨c1, hc1⟩ : ∃ c, cntN l 1 k = c := ⟨_, rfl⟩
      obtain ⟨c2, hc2⟩ : ∃ c, cntN l 2 k = c := ⟨_, rfl⟩
      obtain ⟨c3, hc3⟩ : ∃ c, cntN l 3 k = c := ⟨_, rfl⟩
      obtain ⟨c4, hc4⟩ : ∃ c, cntO l k = c := ⟨_, rfl⟩
      have b1 := cntN_le l 1 k
      have b2 := cntN_le l 2 k
      have b3 := cntN_le l 3 k
      have b4 := cntO_le l k
      rw [hc1] at HS b1
      rw [hc2] at HS b2
      rw [hc3] at HS b3
      rw [hc4] at HS b4
      obtain ⟨s0, s1, s2, s3, s4, s5, sf⟩ := HS.out
      by_cases h1 : m.is = 1
      · rw [h1] at m1
        have HZ4 : Hid (S6 (wr.setCell ⟨B + 1, 1, none⟩ (.int .i64 ((c1 : Int) + 1))) (B + 1) ((A.cr : Int) - (N : Int)) (cntN l 1 (k + 1) : Int) (cntN l 2 (k + 1) : Int) (cntN l 3 (k + 1) : Int) (cntO l (k + 1) : Int) A.ep) := by
          refine s6_set HS.out 1 _ _ _ _ _ _ ?_
          exact .inl ⟨rfl, by rw [cnt_hit hm h1, hc1]; go_num, rfl, by rw [cnt_miss hm (by omega), hc2], by rw [cnt_miss hm (by omega), hc3], by rw [cntO_miss hm (by omega), hc4]⟩
        have HZ5 : Hid (S6 (wr.setCell ⟨B + 1, 1, none⟩ (.int .i64 ((c1 : Int) + 1))) B 0 0 0 0 0 0) := HZr.out.same (Below.heap_setCell _ _ _ _ (by show B ≠ B + 1; omega))
        have HB5 : Hid (Below w.heap.size w (wr.setCell ⟨B + 1, 1, none⟩ (.int .i64 ((c1 : Int) + 1)))) := HBr.out.setCell (by show w.heap.size ≤ B + 1; omega) _
        clear h1
        clear hm HS hc1 hc2 hc3 hc4
        go_wp2_with fail
        go_roundw
        case rel => exact ⟨k + 1, by omega, by go_num, HB5, HZ5, HZ4⟩
        case measure => simp [intOf]; omega
      · by_cases h2 : m.is = 2
        · rw [h2] at m1
          have HZ4 : Hid (S6 (wr.setCell ⟨B + 1, 2, none⟩ (.int .i64 ((c2 : Int) + 1))) (B + 1) ((A.cr : Int) - (N : Int)) (cntN l 1 (k + 1) : Int) (cntN l 2 (k + 1) : Int) (cntN l 3 (k + 1) : Int) (cntO l (k + 1) : Int) A.ep) := by
            refine s6_set HS.out 2 _ _ _ _ _ _ ?_
            exact .inr (.inl ⟨rfl, by rw [cnt_hit hm h2, hc2]; go_num, rfl, by rw [cnt_miss hm (by omega), hc1], by rw [cnt_miss hm (by omega), hc3], by rw [cntO_miss hm (by omega), hc4]⟩)
          have HZ5 : Hid (S6 (wr.setCell ⟨B + 1, 2, none⟩ (.int .i64 ((c2 : Int) + 1))) B 0 0 0 0 0 0) := HZr.out.same (Below.heap_setCell _ _ _ _ (by show B ≠ B + 1; omega))
          have HB5 : Hid (Below w.heap.size w (wr.setCell ⟨B + 1, 2, none⟩ (.int .i64 ((c2 : Int) + 1)))) := HBr.out.setCell (by show w.heap.size ≤ B + 1; omega) _
          clear h1 h2
          clear hm HS hc1 hc2 hc3 hc4
          go_wp2_with fail
          go_roundw
          case rel => exact ⟨k + 1, by omega, by go_num, HB5, HZ5, HZ4⟩
          case measure => simp [intOf]; omega
        · by_cases h3 : m.is = 3
          · rw [h3] at m1
            have HZ4 : Hid (S6 (wr.setCell ⟨B + 1, 3, none⟩ (.int .i64 ((c3 : Int) + 1))) (B + 1) ((A.cr : Int) - (N : Int)) (cntN l 1 (k + 1) : Int) (cntN l 2 (k + 1) : Int) (cntN l 3 (k + 1) : Int) (cntO l (k + 1) : Int) A.ep) := by
              refine s6_set HS.out 3 _ _ _ _ _ _ ?_
              exact .inr (.inr (.inl ⟨rfl, by rw [cnt_hit hm h3, hc3]; go_num, rfl, by rw [cnt_miss hm (by omega), hc1], by rw [cnt_miss hm (by omega), hc2], by rw [cntO_miss hm (by omega), hc4]⟩))
            have HZ5 : Hid (S6 (wr.setCell ⟨B + 1, 3, none⟩ (.int .i64 ((c3 : Int) + 1))) B 0 0 0 0 0 0) := HZr.out.same (Below.heap_setCell _ _ _ _ (by show B ≠ B + 1; omega))
            have HB5 : Hid (Below w.heap.size w (wr.setCell ⟨B + 1, 3, none⟩ (.int .i64 ((c3 : Int) + 1)))) := HBr.out.setCell (by show w.heap.size ≤ B + 1; omega) _
            clear h1 h2 h3
            clear hm HS hc1 hc2 hc3 hc4
            go_wp2_with fail
            go_roundw
            case rel => exact ⟨k + 1, by omega, by go_num, HB5, HZ5, HZ4⟩
            case measure => simp [intOf]; omega
          · have e1 : ((m.is : Int) == 1) = false := by simp; omega
            have e2 : ((m.is : Int) == 2) = false := by simp; omega
            have e3 : ((m.is : Int) == 3) = false := by simp; omega
            have HZ4 : Hid (S6 (wr.setCell ⟨B + 1, 4, none⟩ (.int .i64 ((c4 : Int) + 1))) (B + 1) ((A.cr : Int) - (N : Int)) (cntN l 1 (k + 1) : Int) (cntN l 2 (k + 1) : Int) (cntN l 3 (k + 1) : Int) (cntO l (k + 1) : Int) A.ep) := by
              refine s6_set HS.out 4 _ _ _ _ _ _ ?_
              exact .inr (.inr (.inr ⟨rfl, by rw [cntO_hit hm h1 h2 h3, hc4]; go_num, rfl, by rw [cnt_miss hm (by omega), hc1], by rw [cnt_miss hm (by omega), hc2], by rw [cnt_miss hm (by omega), hc3]⟩))
            have HZ5 : Hid (S6 (wr.setCell ⟨B + 1, 4, none⟩ (.int .i64 ((c4 : Int) + 1))) B 0 0 0 0 0 0) := HZr.out.same (Below.heap_setCell _ _ _ _ (by show B ≠ B + 1; omega))
            have HB5 : Hid (Below w.heap.size w (wr.setCell ⟨B + 1, 4, none⟩ (.int .i64 ((c4 : Int) + 1)))) := HBr.out.setCell (by show w.heap.size ≤ B + 1; omega) _
            generalize m.is = mi at *
            clear hm HS hc1 hc2 hc3 hc4
            go_wp2_with fail
            go_roundw
            case rel => exact ⟨k + 1, by omega, by go_num, HB5, HZ5, HZ4⟩
            case measure => simp [intOf]; omega
    · obtain rfl : k = N := by omega
      obtain ⟨k0, k1, k2, k3, k4', k5, kf⟩ := HZr.out
      obtain ⟨s0, s1, s2, s3, s4, s5, sf⟩ := HS.out
      clear xr
      obtain ⟨c1, hc1⟩ : ∃ c, cntN l 1 k = c := ⟨_, rfl⟩
      obtain ⟨c2, hc2⟩ : ∃ c, cntN l 2 k = c := ⟨_, rfl⟩
      obtain ⟨c3, hc3⟩ : ∃ c, cntN l 3 k = c := ⟨_, rfl⟩
      obtain ⟨c4, hc4⟩ : ∃ c, cntO l k = c := ⟨_, rfl⟩
      rw [hc1] at s1
      rw [hc2] at s2
      rw [hc3] at s3
      rw [hc4] at s4
      have HC : Hid (cntN l 1 k = c1 ∧ cntN l 2 k = c2 ∧ cntN l 3 k = c3 ∧ cntO l k = c4) := ⟨hc1, hc2, hc3, hc4⟩
      clear hc1 hc2 hc3 hc4
      go_wp2_with fail
      refine bodyPost_ret (v := .agg #[.int .i64 ((A.cr : Int) - (k : Int)), .int .i64 (c1 : Int), .int .i64 (c2 : Int), .int .i64 (c3 : Int), .int .i64 (c4 : Int), .int .u64 A.ep]) (by simp [results, Try.results9, go_sem, k0, k1, k2, k3, k4', k5]) rfl ⟨by rw [HC.out.1, HC.out.2.1, HC.out.2.2.1, HC.out.2.2.2], ?_⟩
      iterate 6 (refine Below.setCell ?_ (by exact Nat.le_of_eq hB) _)
      exact HBr.out
end
end Go.Proofs.Ytilahfomiofgcaa
namespace Go.Proofs.Ytilahfomiofgcaa
open Go.RowKit Go.Sort
set_option maxRecDepth 100000

theorem find_at {p : Ms → Bool} {l : List Ms} {i : Nat} {m : Ms} (hm : l[i]? = some m) (hp : p m = true) (h : ∀ j m', j < i → l[j]? = some m' → p m' = false) : l.findIdx p = i := by
  have hi := (List.getElem?_eq_some_iff.1 hm).1
  have up : ∀ k, k ≤ i → k ≤ l.findIdx p := fun k => by
    induction k with
    | zero => intro _; exact Nat.zero_le _
    | succ k ih =>
      intro hk
      exact find_more (ih (by omega)) (List.getElem?_eq_getElem (by omega)) (h k _ (by omega) (List.getElem?_eq_getElem (by omega)))
  exact find_here (up i (Nat.le_refl _)) hm hp
theorem find_none {p : Ms → Bool} {l : List Ms} (h : ∀ (j : Nat) m, l[j]? = some m → p m = false) : ¬ l.findIdx p < l.length := fun hl => by
  have h1 := List.findIdx_getElem (p := p) (w := hl)
  rw [h _ _ (List.getElem?_eq_getElem hl)] at h1
  cases h1
section
variable {A : La}
theorem L_T {j : Nat} (h : j < A.T.length) : A.L[j]? = A.T[j]? := by
  unfold La.L
  rw [List.getElem?_append_left h]
theorem L_P {i : Nat} (h : i < A.P.length) : A.L[A.T.length + i]? = A.P[i]? := by
  unfold La.L
  rw [List.getElem?_append_right (by omega), List.getElem?_append_left (by omega)]
  congr 1
  omega
theorem L_C (i : Nat) : A.L[A.T.length + A.P.length + i]? = A.C[i]? := by
  unfold La.L
  rw [List.getElem?_append_right (by omega), List.getElem?_append_right (by omega)]
  congr 1
  omega
theorem L_get {j : Nat} {m : Ms} (h : A.L[j]? = some m) : (j < A.T.length ∧ A.T[j]? = some m) ∨ (∃ i, j = A.T.length + i ∧ A.P[i]? = some m) ∨ (∃ i, j = A.T.length + A.P.length + i ∧ A.C[i]? = some m) := by
  by_cases h1 : j < A.T.length
  · exact .inl ⟨h1, (L_T h1).symm.trans h⟩
  · by_cases h2 : j < A.T.length + A.P.length
    · refine .inr (.inl ⟨j - A.T.length, by omega, ?_⟩)
      rw [← L_P (by omega), show A.T.length + (j - A.T.length) = j by omega]
      exact h
    · refine .inr (.inr ⟨j - (A.T.length + A.P.length), by omega, ?_⟩)
      rw [← L_C, show A.T.length + A.P.length + (j - (A.T.length + A.P.length)) = j by omega]
      exact h
/-- what it is tells where it stands -/
theorem L_is (o : A.Ok) {j : Nat} {m : Ms} (h : A.L[j]? = some m) : (j < A.T.length ∧ A.T[j]? = some m ∧ (m.is = 3 ∨ m.is = 4)) ∨ (∃ i, j = A.T.length + i ∧ A.P[i]? = some m ∧ m.is = 2 ∧ i < A.P.length) ∨ (∃ i, j = A.T.length + A.P.length + i ∧ A.C[i]? = some m ∧ m.is = 1 ∧ m.k = A.r + i) := by
  rcases L_get h with ⟨h1, h2⟩ | ⟨i, h1, h2⟩ | ⟨i, h1, h2⟩
  · exact .inl ⟨h1, h2, (o.kT m (List.mem_of_getElem? h2)).2⟩
  · exact .inr (.inl ⟨i, h1, h2, (o.kP i m h2).2, (List.getElem?_eq_some_iff.1 h2).1⟩)
  · exact .inr (.inr ⟨i, h1, h2, (o.kC i m h2).2, (o.kC i m h2).1⟩)
/-- the first claimed one -/
def cI (A : La) : Nat := A.T.length + A.P.length
theorem c_before (o : A.Ok) : ∀ j m, j < cI A → A.L[j]? = some m → ¬ m.is = 1 := fun j m hj h h1 => by
  unfold cI at hj
  rcases L_is o h with ⟨_, _, h2⟩ | ⟨i, _, _, h2, _⟩ | ⟨i, h2, _⟩ <;> omega
theorem c_here (o : A.Ok) : ∀ m, A.L[cI A]? = some m → m.is = 1 := fun m h => by
  unfold cI at h
  have h0 := L_C (A := A) 0
  rw [Nat.add_zero] at h0
  rw [h0] at h
  exact (o.kC 0 m h).2
theorem L_k (o : A.Ok) {j : Nat} {m : Ms} (h : A.L[j]? = some m) : m.k ≤ 1000001 := by
  have := o.mem_L (List.mem_of_getElem? h)
  have := o.bd
  omega
theorem fd1_in (o : A.Ok) {q e : Int} (q0 : 0 ≤ q) (q1 : q < 18446744073709551616) (h : inC A q e = true) : ∃ m, A.L[cI A + atC A q]? = some m ∧ A.C[atC A q]? = some m ∧ fdI A A.L q e 1 = ((cI A + atC A q : Nat) : Int) := by
  obtain ⟨m, hm, hk, hlt⟩ := inC_at o h
  have hL : A.L[cI A + atC A q]? = some m := (L_C _).trans hm
  have he := (inC_iff.1 h).1
  have hr := o.hr
  have hf : A.L.findIdx (pB A.st q 1) = cI A + atC A q := by
    refine find_at hL ?_ fun j m' hj h' => ?_
    · unfold pB
      rw [hk, sq_dq q0 q1]
      simp [(o.kC _ m hm).2]
    · unfold pB
      rw [Bool.and_eq_false_iff]
      rcases L_is o h' with ⟨_, _, h2⟩ | ⟨i, _, _, h2, _⟩ | ⟨i, h2, _, _, h3⟩
      · right; simp; omega
      · right; simp; omega
      · left
        simp only [decide_eq_false_iff_not]
        rw [sq_iff (L_k o h') q0 q1]
        have h5 := (inC_iff.1 h).2
        unfold cI at hj
        unfold atC at hj
        omega
  refine ⟨m, hL, hm, ?_⟩
  unfold fdI
  rw [hf, if_pos ⟨he, (List.getElem?_eq_some_iff.1 hL).1⟩]
theorem fd1_no (o : A.Ok) {q e : Int} (q0 : 0 ≤ q) (q1 : q < 18446744073709551616) (h : inC A q e = false) : fdI A A.L q e 1 = -1 := by
  unfold fdI
  rw [if_neg]
  rintro ⟨he, hl⟩
  refine find_none (fun j m hm => ?_) hl
  unfold pB
  rw [Bool.and_eq_false_iff]
  rcases L_is o hm with ⟨_, _, h2⟩ | ⟨i, _, _, h2, _⟩ | ⟨i, h2, h4, _, h3⟩
  · right; simp; omega
  · right; simp; omega
  · left
    simp only [decide_eq_false_iff_not]
    rw [sq_iff (L_k o hm) q0 q1]
    intro hk
    have hr := o.hr
    have := (List.getElem?_eq_some_iff.1 h4).1
    have : inC A q e = true := inC_iff.2 ⟨he, by omega, by omega⟩
    rw [h] at this
    cases this
theorem fd3_in (o : A.Ok) {q e : Int} (q0 : 0 ≤ q) (q1 : q < 18446744073709551616) (he : e = A.ep) (h : takenB A q = true) : ∃ m, A.L[tkI A q]? = some m ∧ A.T[tkI A q]? = some m ∧ tkI A q < A.T.length ∧ fdI A A.L q e 3 = ((tkI A q : Nat) : Int) := by
  obtain ⟨m, hm, hk, h3, hlt⟩ := takenB_at h
  have hL : A.L[tkI A q]? = some m := (L_T hlt).trans hm
  have hf : A.L.findIdx (pB A.st q 3) = tkI A q := by
    refine find_at hL ?_ fun j m' hj h' => ?_
    · unfold pB
      rw [hk, sq_dq q0 q1]
      simp [h3]
    · have hjT : A.T[j]? = some m' := (L_T (by omega)).symm.trans h'
      have hn := List.not_of_lt_findIdx (p := tkB (dqN A.st q)) (xs := A.T) (i := j) hj
      obtain ⟨hjl, hje⟩ := List.getElem?_eq_some_iff.1 hjT
      rw [hje] at hn
      unfold tkB at hn
      unfold pB
      rw [Bool.and_eq_false_iff]
      by_cases hz : m'.is = 3
      · left
        simp only [decide_eq_false_iff_not]
        rw [sq_iff (L_k o h') q0 q1]
        intro hk'
        simp [hk', hz] at hn
      · right; simp [hz]
  refine ⟨m, hL, hm, hlt, ?_⟩
  unfold fdI
  rw [hf, if_pos ⟨he, (List.getElem?_eq_some_iff.1 hL).1⟩]
theorem fd3_no (o : A.Ok) {q e : Int} (q0 : 0 ≤ q) (q1 : q < 18446744073709551616) (h : takenB A q = false) : fdI A A.L q e 3 = -1 := by
  unfold fdI
  rw [if_neg]
  rintro ⟨_, hl⟩
  refine find_none (fun j m hm => ?_) hl
  unfold pB
  rw [Bool.and_eq_false_iff]
  rcases L_is o hm with ⟨_, h4, _⟩ | ⟨i, _, _, h2, _⟩ | ⟨i, h2, h4, h5, h3⟩
  · by_cases hz : m.is = 3
    · left
      simp only [decide_eq_false_iff_not]
      rw [sq_iff (L_k o hm) q0 q1]
      intro hk
      have : takenB A q = true := List.any_eq_true.2 ⟨m, List.mem_of_getElem? h4, by simp [tkB, hk, hz]⟩
      rw [h] at this
      cases this
    · right; simp [hz]
  · right; simp; omega
  · right; simp; omega
end
end Go.Proofs.Ytilahfomiofgcaa
namespace Go.Proofs.Ytilahfomiofgcaa
open Go.RowKit Go.Sort
set_option maxRecDepth 100000

section
variable {A : La}
theorem set_C {i : Nat} (m : Ms) : A.T ++ (A.P ++ A.C.set i m) = A.L.set (cI A + i) m := by
  unfold La.L cI
  rw [List.set_append, if_neg (by omega), List.set_append, if_neg (by omega)]
  congr 3
  omega
theorem modify_set {l : List Ms} {i : Nat} {m : Ms} {f : Ms → Ms} (h : l[i]? = some m) : l.modify i f = l.set i (f m) := by
  apply List.ext_getElem?
  intro j
  rw [List.getElem?_modify, List.getElem?_set]
  have hl := (List.getElem?_eq_some_iff.1 h).1
  by_cases e : i = j
  · subst e
    rw [if_pos rfl, if_pos hl, h]
    simp
  · rw [if_neg e]
    cases l[j]? <;> simp [e]
theorem lay_L {q e n g : Int} (h : inC A q e = true) {m : Ms} (hm : A.C[atC A q]? = some m) : (layA A q e n g).L = A.L.set (cI A + atC A q) { m with laid := true, n := n, g := g } := by
  unfold layA
  rw [if_pos h]
  show A.T ++ (A.P ++ layL A.C (atC A q) n g) = _
  unfold layL
  rw [modify_set hm]
  exact set_C _
theorem pub_L {q e t s : Int} (h : lackE A q e = 0) {m : Ms} {C : List Ms} (hC : A.C = m :: C) : (pubA A q e t s).L = A.L.set (cI A) { m with is := 2, tk := t, sp := s } := by
  unfold pubA
  rw [if_pos h, hC]
  show A.T ++ ((A.P ++ [_]) ++ C) = _
  have := set_C (A := A) (i := 0) { m with is := 2, tk := t, sp := s }
  rw [Nat.add_zero] at this
  rw [← this, hC]
  simp
theorem take_L {m : Ms} {P : List Ms} (hP : A.P = m :: P) : (takeA A).L = A.L.set A.T.length { m with is := 3 } := by
  unfold takeA
  simp only [hP]
  unfold La.L
  simp only [hP]
  rw [List.set_append, if_neg (by omega)]
  simp
theorem ret_L1 {q e : Int} (h : e = A.ep ∧ takenB A q = true) (ht : A.two = false) {m : Ms} (hm : A.T[tkI A q]? = some m) : (retA A q e).L = A.L.set (tkI A q) { m with is := 4 } := by
  unfold retA
  rw [if_pos h, if_neg (by rw [ht]; simp)]
  show holdL A.T (tkI A q) ++ (A.P ++ A.C) = _
  unfold holdL La.L
  rw [modify_set hm, List.set_append, if_pos (List.getElem?_eq_some_iff.1 hm).1]
theorem ret_L2 {q e : Int} (h : e = A.ep ∧ takenB A q = true) (ht : A.two = true) {m : Ms} (hm : A.T[tkI A q]? = some m) : (retA A q e).L = A.L.take (tkI A q) ++ A.L.drop (tkI A q + 1) := by
  unfold retA
  rw [if_pos h, if_pos ht]
  show A.T.eraseIdx (tkI A q) ++ (A.P ++ A.C) = _
  have hl := (List.getElem?_eq_some_iff.1 hm).1
  rw [← List.eraseIdx_eq_take_drop_succ]
  unfold La.L
  rw [List.eraseIdx_append_of_lt_length hl]
theorem L_le (o : A.Ok) : A.L.length ≤ 64 := by
  have := o.room
  have := o.cr
  rw [La.L_len]
  omega
theorem ft_no (o : A.Ok) (h : A.P = []) : ftI A.L = -1 := by
  unfold ftI
  rw [if_neg]
  refine find_none fun j m hm => ?_
  unfold isP
  rcases L_is o hm with ⟨_, _, h2⟩ | ⟨i, _, _, _, h2⟩ | ⟨i, _, _, h2, _⟩
  · simp; omega
  · rw [h] at h2; simp at h2
  · simp; omega
theorem ft_ok (o : A.Ok) {m : Ms} {P : List Ms} (h : A.P = m :: P) : A.L[A.T.length]? = some m ∧ ftI A.L = ((A.T.length : Nat) : Int) := by
  have hP0 : A.P[0]? = some m := by rw [h]; rfl
  have hL : A.L[A.T.length]? = some m := by
    have := L_P (A := A) (i := 0) (by rw [h]; simp)
    rw [Nat.add_zero] at this
    exact this.trans hP0
  refine ⟨hL, ?_⟩
  have hf : A.L.findIdx isP = A.T.length := by
    refine find_at hL ?_ fun j m' hj h' => ?_
    · unfold isP
      simp [(o.kP 0 m hP0).2]
    · unfold isP
      rcases L_is o h' with ⟨_, _, h2⟩ | ⟨i, h2, _⟩ | ⟨i, h2, _⟩
      · simp; omega
      · omega
      · omega
  unfold ftI
  rw [hf, if_pos (List.getElem?_eq_some_iff.1 hL).1]
/-- how the messages are counted -/
theorem cnt_all (o : A.Ok) : cntN A.L 1 A.L.length = A.C.length ∧ cntN A.L 2 A.L.length = A.P.length ∧ cntN A.L 3 A.L.length = (A.T.filter is3).length ∧ cntO A.L A.L.length = (A.T.filter is4).length := by
  have all : ∀ (l : List Ms) (p : Ms → Bool), (∀ m ∈ l, p m = true) → l.countP p = l.length := fun l p h => List.countP_eq_length.2 h
  have non : ∀ (l : List Ms) (p : Ms → Bool), (∀ m ∈ l, p m = false) → l.countP p = 0 := fun l p h => List.countP_eq_zero.2 fun m hm => by simp [h m hm]
  have hT : ∀ m ∈ A.T, m.is = 3 ∨ m.is = 4 := fun m hm => (o.kT m hm).2
  have hP : ∀ m ∈ A.P, m.is = 2 := fun m hm => (o.mem_P hm).2.2
  have hC : ∀ m ∈ A.C, m.is = 1 := fun m hm => (o.mem_C hm).2.2
  unfold cntN cntO
  rw [List.take_length]
  unfold La.L
  simp only [List.countP_append]
  refine ⟨?_, ?_, ?_, ?_⟩
  · rw [non A.T _ fun m hm => by rcases hT m hm with h | h <;> simp [h], non A.P _ fun m hm => by simp [hP m hm], all A.C _ fun m hm => by simp [hC m hm]]
    omega
  · rw [non A.T _ fun m hm => by rcases hT m hm with h | h <;> simp [h], all A.P _ fun m hm => by simp [hP m hm], non A.C _ fun m hm => by simp [hC m hm]]
    omega
  · rw [non A.P _ fun m hm => by simp [hP m hm], non A.C _ fun m hm => by simp [hC m hm], List.countP_eq_length_filter]
    rfl
  · rw [non A.P _ fun m hm => by simp [hP m hm], non A.C _ fun m hm => by simp [hC m hm], List.countP_eq_length_filter]
    have : A.T.filter (fun m => !(m.is == 1 || m.is == 2 || m.is == 3)) = A.T.filter is4 := List.filter_congr fun m hm => by
      unfold is4
      rcases hT m hm with h | h <;> simp [h]
    rw [this]
    omega
end
/-- the document's lane behind r; none of the blocks X is its -/
def Rn (w : World) (r : Nat) (A : La) (X : Nat → Prop) : Prop := (∀ b, X b → b < w.heap.size) ∧ A.Ok ∧ ∃ rv, Rq w r rv A A.L ∧ ∀ b, X b → ¬ rhas r rv b
section
variable {w w' : World} {r : Nat} {A A' : La} {X : Nat → Prop} {f : FuncId} {args : Array Value} {R : Ending → World → Prop}
theorem Rn.ok (x : Rn w r A X) : A.Ok := x.2.1
theorem rliftR (x : Rn w r A X) (ok' : A'.Ok) (h : ∀ rv, Rq w r rv A A.L → Calls Try.prog f args w fun e w' => R e w' ∧ RGo w r rv w' A' A'.L) :
    Calls Try.prog f args w fun e w' => R e w' ∧ Rn w' r A' X ∧ But (Els X) w w' := by
  obtain ⟨hlt, _, rv, y, hX⟩ := x
  refine (h rv y).mono ?_
  rintro e w' ⟨he, rv', y', hb, hh⟩
  refine ⟨he, ⟨fun b hb' => Nat.lt_of_lt_of_le (hlt b hb') hb.size, ok', rv', y', fun b hb' ho => ?_⟩, hb.mono fun i hi hx => hX i hx (.inl hi)⟩
  rcases ho with ho | ho
  · exact hX b hb' (.inl ho)
  · rcases hh b ho with h1 | h1
    · exact hX b hb' (.inr h1)
    · have := hlt b hb'; omega
theorem rlift {v : Value} (x : Rn w r A X) (ok' : A'.Ok) (h : ∀ rv, Rq w r rv A A.L → Calls Try.prog f args w fun e w' => e = .returned v ∧ RGo w r rv w' A' A'.L) :
    Calls Try.prog f args w fun e w' => e = .returned v ∧ Rn w' r A' X ∧ But (Els X) w w' := rliftR (R := fun e _ => e = .returned v) x ok' h
theorem rliftB {v : Value} (x : Rn w r A X) (h : ∀ rv, Rq w r rv A A.L → Calls Try.prog f args w fun e w' => e = .returned v ∧ Below w.heap.size w w') :
    Calls Try.prog f args w fun e w' => e = .returned v ∧ Rn w' r A X ∧ But (Els X) w w' :=
  rlift x x.ok fun rv y => (h rv y).mono fun _ _ h' => ⟨h'.1, RGo.stay y h'.2⟩
theorem rgo_as {rv : Value} {A'' : La} {l' : List Ms} (h : RGo w r rv w' A l') (e : A''.cr = A.cr ∧ A''.two = A.two ∧ A''.st = A.st ∧ A''.c = A.c ∧ A''.ep = A.ep) (hl : A''.L = l') : RGo w r rv w' A'' A''.L := by
  obtain ⟨rv', y, hb, hh⟩ := h
  obtain ⟨e1, e2, e3, e4, e5⟩ := e
  refine ⟨rv', ⟨?_, ?_, y.ne⟩, hb, hh⟩
  · rw [e1, e2, e3, e4, e5]; exact y.bl
  · rw [e3, hl]; exact y.ow
theorem claimR (x : Rn w r A X) (hc : A.c < 1000000) : Calls Try.prog 16 #[pV r] w fun e w' => e = .returned (claimV A) ∧ Rn w' r (claimA A) X ∧ But (Els X) w w' := by
  have o := x.ok
  have hlen := L_le o
  unfold claimV
  cases hr : roomB A
  · have e : claimA A = A := by simp [claimA, hr]
    rw [e]
    simp only [Bool.false_eq_true, if_false]
    refine rlift x o fun rv y => rclaim_no y ?_
    rw [La.L_len]
    simp [roomB] at hr
    exact hr
  · simp only [if_true]
    refine rlift x (claimA_ok o hc) fun rv y => ?_
    have hL : (claimA A).L = A.L ++ [⟨A.c, 1, false, 0, 0, 0, 0⟩] := by unfold claimA; rw [if_pos hr]; simp [La.L]
    rw [hL]
    refine rclaim_ok y (by omega) (by rw [La.L_len]; simpa [roomB] using hr) _ ?_ _ rfl _ rfl
    unfold claimA
    rw [if_pos hr]
    exact ⟨rfl, rfl, rfl, rfl, rfl⟩
theorem layR (x : Rn w r A X) {q e n g : Int} (q0 : 0 ≤ q) (q1 : q < 18446744073709551616) : Calls Try.prog 17 #[pV r, tkV q e, slV n g] w fun v w' => v = .returned (.int .i64 (layE A q e)) ∧ Rn w' r (layA A q e n g) X ∧ But (Els X) w w' := by
  have o := x.ok
  have hlen := L_le o
  cases h : inC A q e
  · have e1 : layE A q e = 82 := by unfold layE; rw [h]; rfl
    have e2 : layA A q e n g = A := by unfold layA; rw [if_neg (by rw [h]; simp)]
    rw [e1, e2]
    exact rlift x o fun rv y => rlay_no y (by omega) q e n g (fd1_no o q0 q1 h)
  · have e1 : layE A q e = 0 := by unfold layE; rw [h]; rfl
    rw [e1]
    obtain ⟨m, hm, hmC, hf⟩ := fd1_in o q0 q1 h
    refine rlift x (layA_ok o q e n g) fun rv y => (rlay_ok y (by omega) q e n g _ m hm hf).mono fun _ _ h' => ⟨h'.1, rgo_as h'.2 ?_ (lay_L h hmC)⟩
    unfold layA
    rw [if_pos h]
    exact ⟨rfl, rfl, rfl, rfl, rfl⟩
theorem c_eq (o : A.Ok) {q e : Int} (q0 : 0 ≤ q) (q1 : q < 18446744073709551616) (h : inC A q e = true) : (cI A = cI A + atC A q) ↔ (q = sqI A.st A.r) := by
  have h1 := (inC_iff.1 h).2
  have hb := o.bd
  have h2 := sq_iff (s := A.st) (k := A.r) (by omega) q0 q1
  constructor
  · intro h3
    exact (h2.2 (by unfold atC at h3; omega)).symm
  · intro h3
    have := h2.1 h3.symm
    unfold atC
    omega
theorem lack_eq {q e : Int} (h : inC A q e = true) {m : Ms} (hm : A.C[atC A q]? = some m) : laidB A q e = m.laid := by
  unfold laidB
  rw [h, hm]
  rfl
theorem readyR (x : Rn w r A X) {q e : Int} (q0 : 0 ≤ q) (q1 : q < 18446744073709551616) : Calls Try.prog 18 #[pV r, tkV q e] w fun v w' => v = .returned (.bool (decide (lackE A q e = 0))) ∧ Rn w' r A X ∧ But (Els X) w w' := by
  have o := x.ok
  have hlen := L_le o
  cases h : inC A q e
  · have e1 : decide (lackE A q e = 0) = false := by
      have : laidB A q e = false := by unfold laidB; rw [h]; rfl
      unfold lackE
      rw [this]
      rfl
    rw [e1]
    exact rliftB x fun rv y => rready_no y (by omega) q e (fd1_no o q0 q1 h)
  · obtain ⟨m, hm, hmC, hf⟩ := fd1_in o q0 q1 h
    have hce := c_eq o q0 q1 h
    have e1 : decide (lackE A q e = 0) = (m.laid && decide (cI A = cI A + atC A q)) := by
      have hd : decide (cI A = cI A + atC A q) = decide (q = sqI A.st A.r) := by rw [decide_eq_decide]; exact hce
      unfold lackE
      rw [lack_eq h hmC, hd]
      cases m.laid
      · rfl
      · by_cases hq : q = sqI A.st A.r
        · simp [hq]
        · simp [hq]
    rw [e1]
    exact rliftB x fun rv y => rready_at y (by omega) q e _ m hm hf (cI A) (by omega) (c_before o) (c_here o)
theorem pubR (x : Rn w r A X) {q e t s : Int} (q0 : 0 ≤ q) (q1 : q < 18446744073709551616) : Calls Try.prog 19 #[pV r, tkV q e, smV t s] w fun v w' => v = .returned (.int .i64 (lackE A q e)) ∧ Rn w' r (pubA A q e t s) X ∧ But (Els X) w w' := by
  have o := x.ok
  have hlen := L_le o
  cases h : inC A q e
  · have e1 : lackE A q e = 82 := by
      have : laidB A q e = false := by unfold laidB; rw [h]; rfl
      unfold lackE
      rw [this]
      rfl
    have e2 : pubA A q e t s = A := by unfold pubA; rw [if_neg (by rw [e1]; decide)]
    rw [e1, e2]
    exact rlift x o fun rv y => rpub_no y (by omega) q e t s (fd1_no o q0 q1 h)
  · obtain ⟨m, hm, hmC, hf⟩ := fd1_in o q0 q1 h
    have hce := c_eq o q0 q1 h
    have e1 : lackE A q e = if m.laid then (if cI A = cI A + atC A q then 0 else 83) else 82 := by
      unfold lackE
      rw [lack_eq h hmC]
      simp only [hce]
    rw [e1]
    refine rlift x (pubA_ok o q e t s) fun rv y => (rpub_at y (by omega) q e t s _ m hm hf (cI A) (by omega) (c_before o) (c_here o)).mono fun _ _ h' => ⟨h'.1, ?_⟩
    have h9 := h'.2
    by_cases hz : m.laid = true ∧ cI A = cI A + atC A q
    · rw [if_pos hz] at h9
      have h0 : atC A q = 0 := by omega
      rw [h0] at hmC h9
      have hC : ∃ C, A.C = m :: C := by
        cases hh : A.C with
        | nil => rw [hh] at hmC; simp at hmC
        | cons a C => rw [hh] at hmC; simp at hmC; exact ⟨C, by rw [hmC]⟩
      obtain ⟨C, hC⟩ := hC
      have hl0 : lackE A q e = 0 := by rw [e1, if_pos hz.1, if_pos hz.2]
      refine rgo_as h9 ?_ (by rw [pub_L hl0 hC, Nat.add_zero])
      unfold pubA
      rw [if_pos hl0, hC]
      exact ⟨rfl, rfl, rfl, rfl, rfl⟩
    · rw [if_neg hz] at h9
      have hl0 : ¬ lackE A q e = 0 := by
        rw [e1]
        intro hh
        apply hz
        cases hml : m.laid
        · rw [hml] at hh; simp at hh
        · rw [hml] at hh
          refine ⟨rfl, ?_⟩
          by_cases h5 : cI A = cI A + atC A q
          · exact h5
          · rw [if_pos rfl, if_neg h5] at hh; simp at hh
      have e2 : pubA A q e t s = A := by unfold pubA; rw [if_neg hl0]
      rw [e2]
      exact h9
theorem firstR (x : Rn w r A X) : Calls Try.prog 21 #[pV r] w fun v w' => v = .returned (firstV A) ∧ Rn w' r A X ∧ But (Els X) w w' := by
  have o := x.ok
  have hlen := L_le o
  unfold firstV
  cases hP : A.P with
  | nil => exact rliftB x fun rv y => rFirst_no y (by omega) (ft_no o hP)
  | cons m P =>
    obtain ⟨h1, h2⟩ := ft_ok o hP
    exact rliftB x fun rv y => rFirst_ok y (by omega) _ m h1 h2
theorem takeR (x : Rn w r A X) : Calls Try.prog 22 #[pV r] w fun v w' => v = .returned (takeV A) ∧ Rn w' r (takeA A) X ∧ But (Els X) w w' := by
  have o := x.ok
  have hlen := L_le o
  unfold takeV
  cases hP : A.P with
  | nil =>
    have e : takeA A = A := by unfold takeA; rw [hP]
    rw [e]
    exact rlift x o fun rv y => rtake_no y (by omega) (ft_no o hP)
  | cons m P =>
    obtain ⟨h1, h2⟩ := ft_ok o hP
    refine rlift x (takeA_ok o) fun rv y => (rtake_ok y (by omega) _ m h1 h2).mono fun _ _ h' => ⟨h'.1, rgo_as h'.2 ?_ (take_L hP)⟩
    unfold takeA
    rw [hP]
    exact ⟨rfl, rfl, rfl, rfl, rfl⟩
theorem retR (x : Rn w r A X) {q e : Int} (q0 : 0 ≤ q) (q1 : q < 18446744073709551616) :
    Calls Try.prog 23 #[pV r, tkV q e] w fun v w' => v = .returned (.tuple #[slV (retS A q e).1 (retS A q e).2, .bool (retB A q e), .int .i64 (retE A q e)]) ∧ Rn w' r (retA A q e) X ∧ But (Els X) w w' := by
  have o := x.ok
  have hlen := L_le o
  by_cases he : e = A.ep
  · refine rlift x (retA_ok o q e) fun rv y => ?_
    cases ht : takenB A q
    · have hf := fd3_no (e := e) o q0 q1 ht
      have e1 : retS A q e = (0, 0) := by unfold retS; rw [if_neg (by rw [ht]; simp)]
      have e2 : retB A q e = false := by unfold retB; rw [ht]; simp
      have e3 : retE A q e = 82 := by unfold retE; rw [if_pos he, ht]; simp
      have e4 : retA A q e = A := by unfold retA; rw [if_neg (by rw [ht]; simp)]
      rw [e1, e2, e3, e4]
      refine rret_at y (by omega) q e he _ _ _ _ _ (fun _ => ⟨rfl, rfl, rfl, rfl, rfl⟩) (fun i m h => ?_) (fun i m h => ?_) (.inl hf)
      · rw [hf] at h; omega
      · rw [hf] at h; omega
    · obtain ⟨m, hm, hmT, hlt, hf⟩ := fd3_in o q0 q1 he ht
      have e3 : retE A q e = 0 := by unfold retE; rw [if_pos he, ht]; simp
      have same : (retA A q e).cr = A.cr ∧ (retA A q e).two = A.two ∧ (retA A q e).st = A.st ∧ (retA A q e).c = A.c ∧ (retA A q e).ep = A.ep := by
        unfold retA
        split
        · split <;> exact ⟨rfl, rfl, rfl, rfl, rfl⟩
        · exact ⟨rfl, rfl, rfl, rfl, rfl⟩
      rw [e3]
      refine (rret_at y (by omega) q e he _ _ _ _ (retA A q e).L (fun h => ?_) (fun i m' h hm' htw => ?_) (fun i m' h hm' htw => ?_) (.inr ⟨_, m, hf, hm⟩)).mono fun _ _ h' => ⟨h'.1, rgo_as h'.2 same rfl⟩
      · rw [hf] at h; omega
      · rw [hf] at h
        obtain rfl : tkI A q = i := by omega
        rw [hm] at hm'
        cases hm'
        have e1 : retS A q e = (m.n, m.g) := by unfold retS; rw [if_pos ⟨he, ht, htw⟩, hmT]; rfl
        rw [e1]
        exact ⟨rfl, rfl, by unfold retB; rw [ht, htw, he]; simp, rfl, ret_L2 ⟨he, ht⟩ htw hmT⟩
      · rw [hf] at h
        obtain rfl : tkI A q = i := by omega
        rw [hm] at hm'
        cases hm'
        have e1 : retS A q e = (0, 0) := by unfold retS; rw [if_neg (by rw [htw]; simp)]
        rw [e1]
        exact ⟨rfl, rfl, by unfold retB; rw [ht, htw, he]; simp, rfl, ret_L1 ⟨he, ht⟩ htw hmT⟩
  · have e1 : retS A q e = (0, 0) := by unfold retS; rw [if_neg (by rintro ⟨h, _⟩; exact he h)]
    have e2 : retB A q e = false := by unfold retB; simp [he]
    have e3 : retE A q e = 0 := by unfold retE; rw [if_neg he]
    have e4 : retA A q e = A := by unfold retA; rw [if_neg (by rintro ⟨h, _⟩; exact he h)]
    rw [e1, e2, e3, e4]
    exact rlift x o fun rv y => rret_other y q e he
theorem resetR (x : Rn w r A X) : Calls Try.prog 25 #[pV r] w fun e w' => (∃ v, e = .returned (.tuple #[v, .int .i64 (resE A)]) ∧ SlN w.heap.size w' v (resL A)) ∧ Rn w' r (resA A) X ∧ But (Els X) w w' := by
  have o := x.ok
  have hlen := L_le o
  have hcl : cI A + A.C.length = A.L.length := by rw [La.L_len]; unfold cI La.len; omega
  refine rliftR (R := fun e w' => ∃ v, e = .returned (.tuple #[v, .int .i64 (resE A)]) ∧ SlN w.heap.size w' v (resL A)) x (resA_ok o) fun rv y => ?_
  by_cases hC : A.C.length = 0
  · have hC' := List.eq_nil_of_length_eq_zero hC
    have e1 : resE A = 0 := by unfold resE; rw [if_pos hC]
    have e2 : resL A = slotsL A.L := by unfold resL La.L; rw [if_pos hC, hC', List.append_nil]
    have e3 : (resA A).L = [] := by unfold resA; rw [if_pos hC]; simp [La.L, hC']
    rw [e1, e2]
    refine (rreset y (by omega) (cI A) (by omega) (c_before o) (c_here o) 0 { A with ep := (A.ep + 1) % 18446744073709551616 } [] (slotsL A.L) (fun h => ?_) (fun _ => ⟨rfl, rfl, rfl, rfl⟩)).mono fun _ _ h' => ⟨h'.1, rgo_as h'.2 ?_ e3⟩
    · omega
    · unfold resA
      rw [if_pos hC]
      exact ⟨rfl, rfl, rfl, rfl, rfl⟩
  · refine rreset y (by omega) (cI A) (by omega) (c_before o) (c_here o) _ _ _ _ (fun _ => ?_) (fun h => ?_)
    · unfold resE resA resL
      rw [if_neg hC, if_neg hC, if_neg hC]
      exact ⟨rfl, rfl, rfl, rfl⟩
    · omega
theorem stateR (x : Rn w r A X) : Calls Try.prog 9 #[pV r] w fun v w' => v = .returned (staV A) ∧ Rn w' r A X ∧ But (Els X) w w' := by
  have o := x.ok
  have hlen := L_le o
  have hcr := o.cr
  obtain ⟨c1, c2, c3, c4⟩ := cnt_all o
  refine rliftB x fun rv y => (rstate y (by omega) (by omega)).mono fun _ _ h' => ⟨h'.1.trans ?_, h'.2⟩
  unfold staV leftI
  rw [c1, c2, c3, c4, La.L_len]
end
end Go.Proofs.Ytilahfomiofgcaa
