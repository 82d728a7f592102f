/- Add, whole. -/
import Derived.Test.YtcfmbppnghlkaaaYAdd
import Derived.Test.YtcfmbppnghlkaaaOStamp
namespace Go.Proofs.Ytcfmbppnghlkaaa
open Go.RowKit Go.Sort
set_option maxRecDepth 100000

set_option maxHeartbeats 1000000 in
theorem ypassed (t s : Int) (r : Rc) (w : World) : Calls Try.prog 29 #[stV t s, recV r] w fun e w' => e = .returned (.bool (decide (cmpI t s r.t r.s < 0))) ∧ Below w.heap.size w w' := by
  obtain ⟨w1, hw1⟩ : ∃ w1, (w.alloc (.cells #[.int .i64 t, .int .i64 s] 69)).alloc (.cells #[.int .i64 r.t, .int .i64 r.s, .int .i64 r.g, .int .u64 r.p] 38) = w1 := ⟨_, rfl⟩
  have hc := fun W => cmp_any t s r.t r.s W
  have HB : Hid (∀ W, w1 = W → Below w.heap.size w W) := fun W h => by rw [← h, ← hw1]; exact ((Below.refl _ w).alloc (Nat.le_refl _) _).alloc (by simp) _
  clear hw1
  generalize cmpI t s r.t r.s = ci at *
  unfold recV
  have HB2 : Hid (Below w.heap.size w ((w.alloc (.cells #[.int .i64 t, .int .i64 s] 69)).alloc (.cells #[.int .i64 r.t, .int .i64 r.s, .int .i64 r.g, .int .u64 r.p] 38))) := ((Below.refl _ w).alloc (Nat.le_refl _) _).alloc (by simp) _
  clear HB
  go_enter Try.func29, Try.ntmps29
  go_wp2_with fail
  refine (hc _).mono ?_
  rintro e w2 ⟨rfl, hb⟩
  have HE : Hid (Below w.heap.size w w2) := Below.onto HB2.out hb
  clear hb hc
  go_wp2_with fail
  go_ret
  exact ⟨rfl, HE.out⟩

/-- what belongs to logs -/
def Yo.has (o : Yo) (R : List Int) (p b : Nat) : Prop := b = p ∨ b = o.lb ∨ (∃ i, i < R.length ∧ b = o.gb i) ∨ ∃ i, i < R.length ∧ (o.v i).ownBlock = some b
theorem ownR_snoc (L : List Rc) (r : Rc) (i : Nat) : ownR (L ++ [r]) i = if r.g = (i : Int) then ownR L i ++ [r] else ownR L i := by
  unfold ownR
  rw [List.filter_append]
  by_cases h : r.g = (i : Int) <;> simp [h]
section
variable {w w' : World} {p : Nat} {o : Yo} {R : List Int} {L : List Rc} {r : Rc}
theorem Yx.lt (x : Yx w p o R L) {b : Nat} (h : o.has R p b) : b < w.heap.size := by
  rcases h with rfl | rfl | ⟨i, hi, rfl⟩ | ⟨i, hi, h⟩
  · exact x.pb.lt
  · exact x.lb.lt
  · exact (x.gb i hi).lt
  · exact ((x.ow i hi).lt b h).2
theorem Yx.but {S : Nat → Prop} (x : Yx w p o R L) (hb : But S w w') (hS : ∀ b, o.has R p b → ¬ S b) : Yx w' p o R L :=
  ⟨x.pb.but hb (hS _ (.inl rfl)), x.lb.but hb (hS _ (.inr (.inl rfl))), fun i hi => (x.gb i hi).but hb (hS _ (.inr (.inr (.inl ⟨i, hi, rfl⟩)))), fun i hi => eown_block (x.ow i hi) fun b h => hb.block b ((x.ow i hi).lt b h).2 (hS b (.inr (.inr (.inr ⟨i, hi, h⟩)))), x.ap, x.ok⟩
/-- blocks of unlike types lie apart -/
theorem Yx.ne (x : Yx w p o R L) {i : Nat} (hi : i < R.length) : o.gb i ≠ p ∧ o.gb i ≠ o.lb ∧ (o.v i).ownBlock ≠ some p ∧ (o.v i).ownBlock ≠ some o.lb ∧ ∀ j, j < R.length → (o.v i).ownBlock ≠ some (o.gb j) := by
  have h1 : w.heap[p]? = _ := x.pb
  have h2 : w.heap[o.lb]? = _ := x.lb
  have h3 : w.heap[o.gb i]? = _ := x.gb i hi
  refine ⟨fun e => ?_, fun e => ?_, fun e => ?_, fun e => ?_, fun j hj e => ?_⟩
  · rw [e, h1] at h3; injection h3 with h3; injection h3 with _ h3; cases h3
  · rw [e, h2] at h3; injection h3 with h3; injection h3 with _ h3; cases h3
  · obtain ⟨cur, h⟩ := own_cells (x.ow i hi) e; rw [h] at h1; injection h1 with h1; injection h1 with _ h1; cases h1
  · obtain ⟨cur, h⟩ := own_cells (x.ow i hi) e; rw [h] at h2; injection h2 with h2; injection h2 with _ h2; cases h2
  · have h4 : w.heap[o.gb j]? = _ := x.gb j hj
    obtain ⟨cur, h⟩ := own_cells (x.ow i hi) e; rw [h] at h4; injection h4 with h4; injection h4 with _ h4; cases h4
/-- one record more -/
theorem Yx.added (x : Yx w p o R L) (hr : r.Ok) {k : Nat} (hk : k < R.length) (hg : r.g = (k : Int)) (hl : ∀ q, q ∈ L → q.key < r.key) (hf : ((ownR L k).length : Int) < atR R k)
    {v' : Value} (h1 : Blk w' (o.gb k) 63 [.int .i64 (atR R k), v']) (h2 : w'.ownsRow 0 38 4 v' (ownR L k ++ [r]).length (encRs (ownR L k ++ [r]))) (hb : But (fun i => (o.v k).ownBlock = some i ∨ i = o.gb k) w w') (hv : v'.ownBlock = (o.v k).ownBlock ∨ ∃ i, v'.ownBlock = some i ∧ w.heap.size ≤ i) :
    ∃ o', Yx w' p o' R (L ++ [r]) ∧ But (o.has R p) w w' ∧ ∀ b, o'.has R p b → o.has R p b ∨ w.heap.size ≤ b := by
  obtain ⟨n1, n2, n3, n4, n5⟩ := x.ne hk
  have hov : ∀ i, i ≠ k → (fun i => if i = k then v' else o.v i) i = o.v i := fun i hi => if_neg hi
  have hok : (fun i => if i = k then v' else o.v i) k = v' := if_pos rfl
  have hoth : ∀ i, i ≠ k → ownR (L ++ [r]) i = ownR L i := fun i hi => by rw [ownR_snoc, if_neg (by omega)]
  have hown : ownR (L ++ [r]) k = ownR L k ++ [r] := by rw [ownR_snoc, if_pos hg]
  refine ⟨⟨o.lb, o.gb, fun i => if i = k then v' else o.v i⟩, ⟨?_, ?_, fun i hi => ?_, fun i hi => ?_, fun i j hi hj hij => ⟨(x.ap i j hi hj hij).1, fun b h => ?_⟩, ?_⟩, hb.mono fun b h => ?_, fun b h => ?_⟩
  · exact x.pb.but hb (fun h => h.elim n3 (Ne.symm n1))
  · exact x.lb.but hb (fun h => h.elim n4 (Ne.symm n2))
  · by_cases e : i = k
    · subst e; simp only [if_pos]; exact h1
    · simp only [if_neg e]
      exact (x.gb i hi).but hb (fun h => h.elim (n5 i hi) (x.ap i k hi hk e).1)
  · by_cases e : i = k
    · subst e; simp only [if_pos]; rw [hown]; exact h2
    · simp only [if_neg e]; rw [hoth i e]
      refine eown_block (x.ow i hi) fun b h => hb.block b ((x.ow i hi).lt b h).2 ?_
      rintro (h' | rfl)
      · exact (x.ap i k hi hk e).2 b h h'
      · exact (x.ne hi).2.2.2.2 k hk h
  · by_cases ei : i = k <;> by_cases ej : j = k
    · exact absurd (ei.trans ej.symm) hij
    · subst ei
      simp only [if_pos, if_neg ej] at h ⊢
      rcases hv with e | ⟨q, e, hq⟩
      · exact (x.ap i j hi hj hij).2 b (by rw [← e]; exact h)
      · intro h'
        rw [e] at h
        injection h with h
        have := ((x.ow j hj).lt b h').2
        omega
    · subst ej
      simp only [if_pos, if_neg ei] at h ⊢
      intro h'
      rcases hv with e | ⟨q, e, hq⟩
      · exact (x.ap i j hi hj hij).2 b h (by rw [← e]; exact h')
      · rw [e] at h'
        injection h' with h'
        have := ((x.ow i hi).lt b h).2
        omega
    · simp only [if_neg ei, if_neg ej] at h ⊢
      exact (x.ap i j hi hj hij).2 b h
  · refine ⟨x.ok.few, x.ok.room, ?_, fun q hq => ?_, fun q hq => ?_, fun i hi => ?_⟩
    · unfold RiseR
      rw [List.pairwise_append]
      exact ⟨x.ok.rise, by simp, fun a ha b hb => by simp at hb; rw [hb]; exact hl a ha⟩
    · rcases List.mem_append.1 hq with h | h
      · exact x.ok.rok q h
      · simp at h; rw [h]; exact hr
    · rcases List.mem_append.1 hq with h | h
      · exact x.ok.gate q h
      · simp at h; rw [h, hg]; omega
    · by_cases e : i = k
      · subst e; rw [hown, List.length_append]; simp; omega
      · rw [hoth i e]; exact x.ok.full i hi
  · rcases h with h | rfl
    · exact .inr (.inr (.inr ⟨k, hk, h⟩))
    · exact .inr (.inr (.inl ⟨k, hk, rfl⟩))
  · rcases h with h | h | ⟨i, hi, h⟩ | ⟨i, hi, h⟩
    · exact .inl (.inl h)
    · exact .inl (.inr (.inl h))
    · exact .inl (.inr (.inr (.inl ⟨i, hi, h⟩)))
    · by_cases e : i = k
      · subst e
        simp only [if_pos] at h
        rcases hv with e | ⟨q, e, hq⟩
        · exact .inl (.inr (.inr (.inr ⟨i, hi, by rw [← e]; exact h⟩)))
        · rw [e] at h; injection h with h; exact .inr (by omega)
      · simp only [if_neg e] at h
        exact .inl (.inr (.inr (.inr ⟨i, hi, h⟩)))
end
end Go.Proofs.Ytcfmbppnghlkaaa
