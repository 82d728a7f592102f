/- All, whole; Same. -/
import Derived.Test.YtcfmbppnghlkaaaYAll
namespace Go.Proofs.Ytcfmbppnghlkaaa
open Go.RowKit Go.Sort
set_option maxRecDepth 100000

theorem fpart : ∀ args W, (callFunc 39 args).run Try.prog W = .ok (.enter 39 args) W := enters_of Try.func39 (by kernel_rfl) rfl
set_option maxHeartbeats 1000000 in
theorem ypart (w : World) (s i : Int) (a : Option Addr) (n c : Nat) (hs : 0 ≤ s ∧ s < 18446744073709551616) : Calls Try.prog 39 #[.int .u64 s, .int .i64 i, .slice a n c] w fun e w' => e = .returned (if hasB s i then .slice a n c else .slice none 0 0) ∧ w' = w := by
  have h := has_any s i w hs.1 hs.2
  cases hb : hasB s i
  · rw [hb] at h
    go_enter Try.func39, Try.ntmps39
    go_wp2_with fail
    refine h.mono ?_
    rintro e w' ⟨rfl, hw⟩
    subst hw
    go_wp2_with fail
    go_ret
    exact ⟨rfl, rfl⟩
  · rw [hb] at h
    go_enter Try.func39, Try.ntmps39
    go_wp2_with fail
    refine h.mono ?_
    rintro e w' ⟨rfl, hw⟩
    subst hw
    go_wp2_with fail
    go_ret
    exact ⟨rfl, rfl⟩
/-- what All tells -/
def allR (L : List Rc) (s : Int) : List Rc := L.filter fun r => hasB s r.g
def setP (o : Yo) (L : List Rc) (s : Int) (i : Nat) : Pt := if hasB s i then ⟨sA (o.v i), (ownR L i).length, sC (o.v i)⟩ else ⟨none, 0, 0⟩
def setM (L : List Rc) (s : Int) (i : Nat) : Nat := if hasB s i then (ownR L i).length else 0
section
variable {w w' : World} {p : Nat} {o : Yo} {R : List Int} {L : List Rc}
theorem Yx.begS (x : Yx w p o R L) (s : Int) : Beg o R L (setP o L s) (setM L s) (allR L s) := by
  refine ⟨fun i _ => ?_, fun i _ hm => ?_, fun i _ => ?_, x.ok.rise.filter _, fun r => ?_, ?_⟩
  · unfold setP setM; split <;> rfl
  · unfold setP setM at *
    split at hm
    · rename_i h; rw [if_pos h, if_pos h]
    · omega
  · unfold setM; split <;> omega
  · unfold allR
    rw [List.mem_filter]
    constructor
    · rintro ⟨h1, h2⟩
      have hg := x.ok.gate r h1
      refine ⟨r.g.toNat, by omega, ?_⟩
      have e : (r.g.toNat : Int) = r.g := by omega
      unfold setM
      rw [e, if_pos h2, List.take_length]
      exact mem_own.2 ⟨h1, e.symm⟩
    · rintro ⟨i, hi, h⟩
      unfold setM at h
      split at h
      · rename_i hb
        rw [List.take_length] at h
        obtain ⟨h1, h2⟩ := mem_own.1 h
        exact ⟨h1, by rw [h2]; exact hb⟩
      · simp at h
  · have := x.ok.total
    have : (allR L s).length ≤ L.length := List.length_filter_le _ _
    omega
end
set_option maxHeartbeats 1000000 in
theorem yAll_w (w : World) (P : Value) (s : Int) (S : Value → World → World → Prop) (T : Value → World → Prop)
    (c1 : Calls Try.prog 31 #[P, .func (.func 39) #[.int .u64 s] #[]] w fun e w' => ∃ v, e = .returned v ∧ S v w w')
    (c2 : ∀ v w', S v w w' → Calls Try.prog 38 #[v] w' fun e w'' => ∃ u, e = .returned u ∧ (∃ a n c, u = .slice a n c) ∧ T u w'') :
    Calls Try.prog 21 #[P, .int .u64 s] w fun e w' => ∃ u, e = .returned u ∧ T u w' := by
  have H2 : Hid (∀ v w', S v w w' → Calls Try.prog 38 #[v] w' fun e w'' => ∃ u, e = .returned u ∧ (∃ a n c, u = .slice a n c) ∧ T u w'') := c2
  clear c2
  go_enter Try.func21, Try.ntmps21
  go_wp2_with fail
  refine c1.mono ?_
  rintro e w1 ⟨v, rfl, hS⟩
  have c2 := H2.out v w1 hS
  clear c1 hS
  go_wp2_with fail
  refine c2.mono ?_
  rintro e w2 ⟨u, rfl, ⟨a, n, c, rfl⟩, hT⟩
  have HT : Hid (T (.slice a n c) w2) := hT
  clear c2 hT
  go_wp2_with fail
  go_ret
  exact ⟨_, rfl, HT.out⟩
theorem yAll (w : World) (p : Nat) (o : Yo) (R : List Int) (L : List Rc) (x : Yx w p o R L) (s : Int) (hs : 0 ≤ s ∧ s < 18446744073709551616) :
    Calls Try.prog 21 #[ptr p, .int .u64 s] w fun e w' => ∃ u, e = .returned u ∧ w'.ownsRow w.heap.size 38 4 u (allR L s).length (encRs (allR L s)) ∧ Below w.heap.size w w' := by
  refine yAll_w w (ptr p) s (fun v W w' => w'.ownsRow w.heap.size 61 1 v (ptsTo (setP o L s) R.length).length ((ptsTo (setP o L s) R.length).map Pt.V) ∧ Below w.heap.size w w') _ ((yparts w p o R L x 39 #[.int .u64 s] (setP o L s) fpart ?_).mono fun e w' ⟨v, h1, h2, h3⟩ => ⟨v, h1, h2, h3⟩) ?_
  · intro i W hi hb
    obtain ⟨h1, _, _⟩ := (x.below hb).row hi
    rw [h1]
    refine (ypart W s (i : Int) _ _ _ hs).mono ?_
    rintro e w' ⟨rfl, rfl⟩
    refine ⟨?_, Below.refl _ _⟩
    unfold setP
    split
    · rfl
    · rfl
  · rintro v w' ⟨h1, h2⟩
    refine (ymerged (x.begS s) (x.below h2) h1).mono ?_
    rintro e w'' ⟨u, rfl, h3, h4, _⟩
    obtain ⟨a, c, hu, _⟩ := own_at h3
    exact ⟨u, rfl, ⟨a, _, c, hu⟩, own_mono2 h3 h2.size, Below.onto h2 h4⟩
/-- nobody's merged rows -/
theorem ymerged_0 (w : World) : Calls Try.prog 38 #[.slice none 0 0] w fun e w' => e = .returned (.slice none 0 0) ∧ Below w.heap.size w w' := by
  refine (merged_k ⟨0, fun _ => 0, fun _ => 0, fun _ => []⟩ [] none 0 w ⟨List.Pairwise.nil, fun i h => absurd h (Nat.not_lt_zero _), fun i h => absurd h (Nat.not_lt_zero _), fun r => ⟨fun h => (by cases h), fun ⟨i, h, _⟩ => absurd h (Nat.not_lt_zero i)⟩, fun i j r q h => absurd h (Nat.not_lt_zero _), fun i h => absurd h (Nat.not_lt_zero _), fun i h => absurd h (Nat.not_lt_zero _), by decide, by decide⟩ (fun i h => absurd h (Nat.not_lt_zero _)) (fun i h => absurd h (Nat.not_lt_zero _))).mono ?_
  rintro e w' ⟨v, rfl, _, hb, hz⟩
  rw [hz rfl]
  exact ⟨rfl, hb⟩
theorem yAll_no (w : World) (P : Value) (h : NbL w P) (s : Int) : Calls Try.prog 21 #[P, .int .u64 s] w fun e w' => e = .returned (.slice none 0 0) ∧ Below w.heap.size w w' := by
  refine (yAll_w w P s (fun v W w' => v = .slice none 0 0 ∧ w' = w) (fun u w' => u = .slice none 0 0 ∧ Below w.heap.size w w') ((yparts_no w P h _).mono fun e w' ⟨h1, h2⟩ => ⟨_, h1, rfl, h2⟩) ?_).mono ?_
  · rintro v w' ⟨rfl, rfl⟩
    refine (ymerged_0 w').mono ?_
    rintro e w'' ⟨rfl, h4⟩
    exact ⟨_, rfl, ⟨_, _, _, rfl⟩, rfl, h4⟩
  · rintro e w' ⟨u, rfl, rfl, hb⟩
    exact ⟨rfl, hb⟩
set_option maxHeartbeats 1000000 in
theorem yUpto_no (w : World) (P : Value) (h : NbL w P) (t s : Int) : Calls Try.prog 23 #[P, .agg #[.int .i64 t, .int .i64 s]] w fun e w' => e = .returned (.slice none 0 0) ∧ Below w.heap.size w w' := by
  have hb : Below w.heap.size w (w.alloc (.cells #[.int .i64 t, .int .i64 s] 26)) := (Below.refl _ w).alloc (Nat.le_refl _) _
  have c := yparts_no _ P (h.below hb)
  have HB : Hid (Below w.heap.size w (w.alloc (.cells #[.int .i64 t, .int .i64 s] 26))) := hb
  clear h hb
  go_enter Try.func23, Try.ntmps23
  go_wp2_with fail
  refine (c _).mono ?_
  rintro e w1 ⟨rfl, hw⟩
  subst hw
  clear c
  go_wp2_with fail
  refine (ymerged_0 _).mono ?_
  rintro e w2 ⟨rfl, hb2⟩
  have HE : Hid (Below w.heap.size w w2) := Below.onto HB.out hb2
  clear hb2
  go_wp2_with fail
  go_ret
  exact ⟨rfl, HE.out⟩
set_option maxHeartbeats 1000000 in
theorem yOf_bad (w : World) (P : Value) (g : Int) (er : Int) (her : er ≠ 0)
    (c : Calls Try.prog 28 #[P, .int .i64 g] w fun e w' => e = .returned (.tuple #[.pointer none, .int .i64 er]) ∧ w' = w) : Calls Try.prog 19 #[P, .int .i64 g] w fun e w' => e = .returned (.slice none 0 0) ∧ w' = w := by
  go_enter Try.func19, Try.ntmps19
  go_wp2_with fail
  refine c.mono ?_
  rintro e w' ⟨rfl, hw⟩
  subst hw
  clear c
  go_wp2_with fail
  go_ret
  exact ⟨rfl, rfl⟩
end Go.Proofs.Ytcfmbppnghlkaaa
