/- The document's lane in memory; finding a message. -/
import Derived.Test.YtilahfomiofgcaaJEls
import Derived.Laws.OwnMore
import Derived.Deep.Light
namespace Go.Proofs.Ytilahfomiofgcaa
open Go.RowKit Go.Sort
set_option maxRecDepth 100000

/-- a message of the document's, by its cells -/
def mrC (st : Int) (m : Ms) : List Value := [.int .u64 (sqI st m.k), .int .i64 (m.is : Int), .bool m.laid, .int .i64 m.n, .int .u64 m.g, .int .i64 m.tk, .int .i64 m.sp]
def encR (st : Int) (l : List Ms) : List Value := l.flatMap (mrC st)
theorem encR_cons (st : Int) (m : Ms) (l : List Ms) : encR st (m :: l) = mrC st m ++ encR st l := rfl
theorem encR_app (st : Int) (l k : List Ms) : encR st (l ++ k) = encR st l ++ encR st k := by simp [encR]
theorem encR_len (st : Int) (l : List Ms) : (encR st l).length = l.length * 7 := by
  induction l with
  | nil => rfl
  | cons m l ih => rw [encR_cons, List.length_append, ih]; simp [mrC]; omega
theorem encR_at {st : Int} : ∀ {l : List Ms} {i : Nat} {m : Ms}, l[i]? = some m → ∀ j, j < 7 → (encR st l)[i * 7 + j]? = (mrC st m)[j]?
  | x :: l, 0, m, h, j, hj => by
    cases h
    rw [encR_cons, List.getElem?_append_left (by simp [mrC]; omega)]
    congr 1
    omega
  | x :: l, i + 1, m, h, j, hj => by
    have := encR_at (st := st) (l := l) (i := i) (m := m) h j hj
    rw [encR_cons, List.getElem?_append_right (by simp [mrC]; omega), ← this]
    congr 1
    simp [mrC]
    omega
/-- the document's lane: its block, its row -/
structure Rq (w : World) (r : Nat) (rv : Value) (A : La) (l : List Ms) : Prop where
  bl : w.heap[r]? = some (.cells #[.int .i64 (A.cr : Int), .bool A.two, .int .u64 (sqI A.st A.c), .int .u64 A.ep, rv] 63 (0, 0))
  ow : w.ownsRow 0 72 7 rv l.length (encR A.st l)
  ne : ¬ rv.ownBlock = some r
def rhas (r : Nat) (rv : Value) (b : Nat) : Prop := b = r ∨ rv.ownBlock = some b
section
variable {w w' : World} {r : Nat} {rv : Value} {A : La} {l : List Ms}
theorem Rq.lt (x : Rq w r rv A l) : r < w.heap.size := (Array.getElem?_eq_some_iff.1 x.bl).1
theorem Rq.hlt (x : Rq w r rv A l) {b : Nat} (h : rhas r rv b) : b < w.heap.size := by
  rcases h with rfl | h
  · exact x.lt
  · exact (x.ow.lt b h).2
theorem Rq.same (x : Rq w r rv A l) (hb : ∀ b, rhas r rv b → w'.heap[b]? = w.heap[b]?) : Rq w' r rv A l :=
  ⟨(hb r (.inl rfl)).trans x.bl, own_block x.ow fun b h => hb b (.inr h), x.ne⟩
theorem Rq.below (x : Rq w r rv A l) (h : Below w.heap.size w w') : Rq w' r rv A l := x.same fun b hb => h.block b (x.hlt hb)
theorem Rq.but {S : Nat → Prop} (x : Rq w r rv A l) (h : But S w w') (hS : ∀ b, rhas r rv b → ¬ S b) : Rq w' r rv A l := x.same fun b hb => h.block b (x.hlt hb) (hS b hb)
theorem Rq.cell (x : Rq w r rv A l) (i : Nat) : w.cell? ⟨r, i, none⟩ = #[Value.int .i64 (A.cr : Int), .bool A.two, .int .u64 (sqI A.st A.c), .int .u64 A.ep, rv][i]? := cell_of_row _ _ i _ _ (0, 0) x.bl
theorem Rq.fz (x : Rq w r rv A l) (i : Nat) : w.frozen? ⟨r, i, none⟩ = false := by simp [World.frozen?, x.bl]
theorem Rq.form (x : Rq w r rv A l) : ∃ a cap, rv = .slice a l.length cap := own_form x.ow
/-- the i-th message -/
theorem Rq.at_ (x : Rq w r rv A l) {i : Nat} {m : Ms} (h : l[i]? = some m) :
    ∃ g cap, rv = .slice (some ⟨g, 0, none⟩) l.length cap ∧ l.length ≤ cap ∧ cap ≤ maxLen ∧ w.cell? ⟨g, i * 7, none⟩ = some (.int .u64 (sqI A.st m.k)) ∧ w.cell? ⟨g, i * 7 + 1, none⟩ = some (.int .i64 (m.is : Int)) ∧ w.cell? ⟨g, i * 7 + 2, none⟩ = some (.bool m.laid) ∧
      w.cell? ⟨g, i * 7 + 3, none⟩ = some (.int .i64 m.n) ∧ w.cell? ⟨g, i * 7 + 4, none⟩ = some (.int .u64 m.g) ∧ w.cell? ⟨g, i * 7 + 5, none⟩ = some (.int .i64 m.tk) ∧ w.cell? ⟨g, i * 7 + 6, none⟩ = some (.int .i64 m.sp) := by
  have hl := (List.getElem?_eq_some_iff.1 h).1
  have ow := x.ow
  rcases ow.2 with ⟨_, hn⟩ | ⟨g, cap, cur, rfl, _, _, hc1, hc2, _⟩
  · omega
  · have c := fun j (hj : j < 7) => (ow.cellAt (i * 7 + j) (by omega)).trans (encR_at (st := A.st) h j hj)
    exact ⟨g, cap, rfl, hc1, hc2, c 0 (by omega), c 1 (by omega), c 2 (by omega), c 3 (by omega), c 4 (by omega), c 5 (by omega), c 6 (by omega)⟩
/-- what a call makes of it -/
def RGo (w : World) (r : Nat) (rv : Value) (w' : World) (A' : La) (l' : List Ms) : Prop := ∃ rv', Rq w' r rv' A' l' ∧ But (fun b => b = r) w w' ∧ ∀ b, rv'.ownBlock = some b → rv.ownBlock = some b ∨ w.heap.size ≤ b
theorem RGo.stay (x : Rq w r rv A l) (h : Below w.heap.size w w') : RGo w r rv w' A l := ⟨rv, x.below h, But.of h, fun _ h => .inl h⟩
end
/-- where a ticket's message is, that is s; below 0: nowhere -/
def pB (st q : Int) (s : Nat) (m : Ms) : Bool := decide (sqI st m.k = q) && decide (m.is = s)
def fdI (A : La) (l : List Ms) (q e : Int) (s : Nat) : Int := if e = A.ep ∧ l.findIdx (pB A.st q s) < l.length then (l.findIdx (pB A.st q s) : Int) else -1
theorem find_more {p : Ms → Bool} {l : List Ms} {k : Nat} {m : Ms} (h : k ≤ l.findIdx p) (hm : l[k]? = some m) (hp : p m = false) : k + 1 ≤ l.findIdx p := by
  obtain ⟨hl, he⟩ := List.getElem?_eq_some_iff.1 hm
  rcases Nat.lt_or_ge k (l.findIdx p) with h1 | h1
  · exact h1
  · have e : k = l.findIdx p := by omega
    subst e
    have := List.findIdx_getElem (p := p) (w := hl)
    rw [he, hp] at this
    cases this
theorem find_here {p : Ms → Bool} {l : List Ms} {k : Nat} {m : Ms} (h : k ≤ l.findIdx p) (hm : l[k]? = some m) (hp : p m = true) : l.findIdx p = k := by
  obtain ⟨hl, he⟩ := List.getElem?_eq_some_iff.1 hm
  rcases Nat.lt_or_ge k (l.findIdx p) with h1 | h1
  · have := List.not_of_lt_findIdx h1
    rw [he, hp] at this
    simp at this
  · omega
set_option maxHeartbeats 4000000 in
theorem rfind (w : World) (r : Nat) (rv : Value) (A : La) (l : List Ms) (x : Rq w r rv A l) (hl : l.length ≤ 1000) (q e : Int) (s : Nat) :
    Calls Try.prog 33 #[pV r, tkV q e, .int .i64 (s : Int), .int .i64 (s : Int)] w fun v w' => v = .returned (.int .i64 (fdI A l q e s)) ∧ Below w.heap.size w w' := by
  have hb1 := jalloc (Below.refl _ w) (.cells #[.int .u64 q, .int .u64 e] 34)
  obtain ⟨b0, b1, _⟩ := jbox2 (w := w) (x := .int .u64 q) (y := .int .u64 e) (T := 34) (Below.refl _ _)
  obtain ⟨a, cap, hv⟩ := x.form
  have x1 := x.below hb1
  obtain ⟨w1, hw1⟩ : ∃ w1, w.alloc (.cells #[.int .u64 q, .int .u64 e] 34) = w1 := ⟨_, rfl⟩
  rw [hw1] at b0 b1 x1 hb1
  subst hv
  have HX : Hid (Rq w1 r (.slice a l.length cap) A l) := x1
  have HB : Hid (Below w.heap.size w w1) := hb1
  have H0 : Hid (w1.cell? ⟨w.heap.size, 0, none⟩ = some (.int .u64 q) ∧ w1.cell? ⟨w.heap.size, 1, none⟩ = some (.int .u64 e)) := ⟨b0, b1⟩
  have E : Hid (fdI A l q e s = if e = A.ep ∧ l.findIdx (pB A.st q s) < l.length then (l.findIdx (pB A.st q s) : Int) else -1) := rfl
  clear x x1 hb1 b0 b1
  obtain ⟨D, hD⟩ : ∃ D, w.heap.size = D := ⟨_, rfl⟩
  rw [hD] at H0
  generalize hN : l.length = N at *
  unfold tkV
  go_enter Try.func33, Try.ntmps33
  go_wp2_with fail
  clear hw1 hD
  go_loopw [9] (fun vi wr => ∃ k : Nat, k ≤ N ∧ vi = .int .i64 k ∧ Hid (Below w1.heap.size w1 wr) ∧ Hid (e = A.ep → k ≤ l.findIdx (pB A.st q s))) (fun vi _ => N - (intOf vi).toNat)
  case atStart => exact ⟨0, Nat.zero_le _, rfl, Below.refl _ _, fun _ => Nat.zero_le _⟩
  case round =>
    obtain ⟨k, hk, rfl, HBr, HF⟩ := hrel
    have xr := HX.out.below HBr.out
    have c3 := xr.cell 3
    have c4 := xr.cell 4
    simp only [List.getElem?_toArray, List.getElem?_cons_succ, List.getElem?_cons_zero] at c3 c4
    by_cases hkN : k < N
    · obtain ⟨m, hm⟩ : ∃ m, l[k]? = some m := ⟨l[k]'(by omega), List.getElem?_eq_getElem (by omega)⟩
      obtain ⟨g, cap2, hv2, _, _, m0, m1, _⟩ := xr.at_ hm
      injection hv2 with hv2 hv3 hv4
      subst hv2 hv4
      clear hv3
      have d0 := jcells HBr.out H0.out.1
      have d1 := jcells HBr.out H0.out.2
      have HM : Hid (l[k]? = some m) := hm
      clear hm xr
      have r0 := cell_regrown d0
      have r1 := cell_regrown d1
      have r2 := cell_regrown c3
      have r3 := cell_regrown c4
      have r4 := cell_regrown m0
      have r5 := cell_regrown m1
      clear d0 d1 m0 m1 c3
      by_cases he : e = A.ep
      · have HE : Hid (e = A.ep) := he
        rw [← he] at r2
        have hF := HF.out he
        have HF' : Hid (k ≤ l.findIdx (pB A.st q s)) := hF
        clear he hF HF
        by_cases h1 : sqI A.st m.k = q
        · rw [h1] at r4
          by_cases h2 : m.is = s
          · rw [h2] at r5
            have hp : pB A.st q s m = true := by unfold pB; simp [h1, h2]
            have hfi := find_here HF'.out HM.out hp
            have HFI : Hid (l.findIdx (pB A.st q s) = k) := hfi
            clear h1 h2 hp hfi
            go_wp2_with fail
            refine wp_region_quiet_below (by kernel_rfl) (by kernel_rfl) ?_
            repeat (go_big_quiet_step (fail))
            refine wpQuiet_nil ?_
            intro _ hw'
            obtain ⟨⟨dq, osq⟩, hw''⟩ := hw'
            subst hw''
            have HB2 : Hid (Below w1.heap.size w1 (grow (redrawn wr dq) osq)) := Below.onto HBr.out (below_regrown wr dq osq)
            clear r0 r1 r2 r3 r4 r5
            generalize grow (redrawn wr dq) osq = w3 at *
            go_wp2_with fail
            go_ret
            refine ⟨?_, Below.onto HB.out HB2.out⟩
            rw [E.out, if_pos ⟨HE.out, by rw [HFI.out]; exact hkN⟩, HFI.out]
            rfl
          · have hp : pB A.st q s m = false := by unfold pB; simp [h2]
            have HFM : Hid (k + 1 ≤ l.findIdx (pB A.st q s)) := find_more HF'.out HM.out hp
            generalize m.is = mi at *
            clear h1 hp
            rcases Nat.lt_or_ge mi s with h3 | h3
            · have h4 : ¬ (s : Int) ≤ (mi : Int) := by omega
              have h5 : decide ((s : Int) ≤ (mi : Int)) = false := by simp; omega
              have h8 : ¬ s ≤ mi := by omega
              have h9 : decide (s ≤ mi) = false := by simp; omega
              go_wp2_with fail
              refine wp_region_quiet_below (by kernel_rfl) (by kernel_rfl) ?_
              repeat (go_big_quiet_step (fail))
              refine wpQuiet_nil ?_
              intro _ hw'
              obtain ⟨⟨dq, osq⟩, hw''⟩ := hw'
              subst hw''
              have HB2 : Hid (Below w1.heap.size w1 (grow (redrawn wr dq) osq)) := Below.onto HBr.out (below_regrown wr dq osq)
              clear r0 r1 r2 r3 r4 r5
              generalize grow (redrawn wr dq) osq = w3 at *
              go_wp2_with fail
              go_roundw
              case rel => exact ⟨k + 1, by omega, by go_num, HB2, fun _ => HFM.out⟩
              case measure => simp [intOf]; omega
            · have h4 : (s : Int) ≤ (mi : Int) := by omega
              have h5 : decide ((s : Int) ≤ (mi : Int)) = true := by simp; omega
              have h6 : ¬ (mi : Int) ≤ (s : Int) := by omega
              have h7 : decide ((mi : Int) ≤ (s : Int)) = false := by simp; omega
              clear h3
              go_wp2_with fail
              refine wp_region_quiet_below (by kernel_rfl) (by kernel_rfl) ?_
              repeat (go_big_quiet_step (fail))
              refine wpQuiet_nil ?_
              intro _ hw'
              obtain ⟨⟨dq, osq⟩, hw''⟩ := hw'
              subst hw''
              have HB2 : Hid (Below w1.heap.size w1 (grow (redrawn wr dq) osq)) := Below.onto HBr.out (below_regrown wr dq osq)
              clear r0 r1 r2 r3 r4 r5
              generalize grow (redrawn wr dq) osq = w3 at *
              go_wp2_with fail
              go_roundw
              case rel => exact ⟨k + 1, by omega, by go_num, HB2, fun _ => HFM.out⟩
              case measure => simp [intOf]; omega
        · have hp : pB A.st q s m = false := by unfold pB; simp [h1]
          have HFM : Hid (k + 1 ≤ l.findIdx (pB A.st q s)) := find_more HF'.out HM.out hp
          generalize sqI A.st m.k = sq at *
          have h2 : (sq == q) = false := by simp [h1]
          clear hp
          go_wp2_with fail
          refine wp_region_quiet_below (by kernel_rfl) (by kernel_rfl) ?_
          repeat (go_big_quiet_step (fail))
          refine wpQuiet_nil ?_
          intro _ hw'
          obtain ⟨⟨dq, osq⟩, hw''⟩ := hw'
          subst hw''
          have HB2 : Hid (Below w1.heap.size w1 (grow (redrawn wr dq) osq)) := Below.onto HBr.out (below_regrown wr dq osq)
          clear r0 r1 r2 r3 r4 r5
          generalize grow (redrawn wr dq) osq = w3 at *
          go_wp2_with fail
          go_roundw
          case rel => exact ⟨k + 1, by omega, by go_num, HB2, fun _ => HFM.out⟩
          case measure => simp [intOf]; omega
      · have HE : Hid (¬ e = A.ep) := he
        generalize A.ep = ep at *
        have h2 : (e == ep) = false := by simp [he]
        go_wp2_with fail
        refine wp_region_quiet_below (by kernel_rfl) (by kernel_rfl) ?_
        repeat (go_big_quiet_step (fail))
        refine wpQuiet_nil ?_
        intro _ hw'
        obtain ⟨⟨dq, osq⟩, hw''⟩ := hw'
        subst hw''
        have HB2 : Hid (Below w1.heap.size w1 (grow (redrawn wr dq) osq)) := Below.onto HBr.out (below_regrown wr dq osq)
        clear r0 r1 r2 r3 r4 r5
        generalize grow (redrawn wr dq) osq = w3 at *
        go_wp2_with fail
        go_roundw
        case rel => exact ⟨k + 1, by omega, by go_num, HB2, fun h => absurd h HE.out⟩
        case measure => simp [intOf]; omega
    · go_wp2_with fail
      go_ret
      refine ⟨?_, Below.onto HB.out HBr.out⟩
      rw [E.out, if_neg]
      · rfl
      · rintro ⟨h1, h2⟩
        have := HF.out h1
        omega
end Go.Proofs.Ytilahfomiofgcaa
