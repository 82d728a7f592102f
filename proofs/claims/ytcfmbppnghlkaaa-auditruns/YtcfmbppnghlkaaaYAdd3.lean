/- Add, whole. -/
import Derived.Test.YtcfmbppnghlkaaaYAdd
import Derived.Test.YtcfmbppnghlkaaaOStamp
import Derived.Test.YtcfmbppnghlkaaaYLess
namespace Go.Proofs.Ytcfmbppnghlkaaa
open Go.RowKit Go.Sort
set_option maxRecDepth 100000

set_option maxHeartbeats 1000000 in
theorem ypassed (t s : Int) (r : Rc) (w : World) : Calls Try.prog 29 #[stV t s, recV r] w fun e w' => e = .returned (.bool (decide (cmpI t s r.t r.s < 0))) ∧ Below w.heap.size w w' := by
  obtain ⟨w1, hw1⟩ : ∃ w1, (w.alloc (.cells #[.int .i64 t, .int .i64 s] 69)).alloc (.cells #[.int .i64 r.t, .int .i64 r.s, .int .i64 r.g, .int .u64 r.p] 38) = w1 := ⟨_, rfl⟩
  have hc := fun W => cmp_any t s r.t r.s W
  have HB : Hid (∀ W, w1 = W → Below w.heap.size w W) := fun W h => by rw [← h, ← hw1]; exact ((Below.refl _ w).alloc (Nat.le_refl _) _).alloc (by simp) _
  clear hw1
  generalize cmpI t s r.t r.s = ci at *
  unfold recV
  have HB2 : Hid (Below w.heap.size w ((w.alloc (.cells #[.int .i64 t, .int .i64 s] 69)).alloc (.cells #[.int .i64 r.t, .int .i64 r.s, .int .i64 r.g, .int .u64 r.p] 38))) := ((Below.refl _ w).alloc (Nat.le_refl _) _).alloc (by simp) _
  clear HB
  go_enter Try.func29, Try.ntmps29
  go_wp2_with fail
  refine (hc _).mono ?_
  rintro e w2 ⟨rfl, hb⟩
  have HE : Hid (Below w.heap.size w w2) := Below.onto HB2.out hb
  clear hb hc
  go_wp2_with fail
  go_ret
  exact ⟨rfl, HE.out⟩

/-- what belongs to logs -/
def Yo.has (o : Yo) (R : List Int) (p b : Nat) : Prop := b = p ∨ b = o.lb ∨ (∃ i, i < R.length ∧ b = o.gb i) ∨ ∃ i, i < R.length ∧ (o.v i).ownBlock = some b
theorem ownR_snoc (L : List Rc) (r : Rc) (i : Nat) : ownR (L ++ [r]) i = if r.g = (i : Int) then ownR L i ++ [r] else ownR L i := by
  unfold ownR
  rw [List.filter_append]
  by_cases h : r.g = (i : Int) <;> simp [h]
section
variable {w w' : World} {p : Nat} {o : Yo} {R : List Int} {L : List Rc} {r : Rc}
theorem Yx.lt (x : Yx w p o R L) {b : Nat} (h : o.has R p b) : b < w.heap.size := by
  rcases h with rfl | rfl | ⟨i, hi, rfl⟩ | ⟨i, hi, h⟩
  · exact x.pb.lt
  · exact x.lb.lt
  · exact (x.gb i hi).lt
  · exact ((x.ow i hi).lt b h).2
theorem Yx.but {S : Nat → Prop} (x : Yx w p o R L) (hb : But S w w') (hS : ∀ b, o.has R p b → ¬ S b) : Yx w' p o R L :=
  ⟨x.pb.but hb (hS _ (.inl rfl)), x.lb.but hb (hS _ (.inr (.inl rfl))), fun i hi => (x.gb i hi).but hb (hS _ (.inr (.inr (.inl ⟨i, hi, rfl⟩)))), fun i hi => eown_block (x.ow i hi) fun b h => hb.block b ((x.ow i hi).lt b h).2 (hS b (.inr (.inr (.inr ⟨i, hi, h⟩)))), x.ap, x.ok⟩
/-- blocks of unlike types lie apart -/
theorem Yx.ne (x : Yx w p o R L) {i : Nat} (hi : i < R.length) : o.gb i ≠ p ∧ o.gb i ≠ o.lb ∧ (o.v i).ownBlock ≠ some p ∧ (o.v i).ownBlock ≠ some o.lb ∧ ∀ j, j < R.length → (o.v i).ownBlock ≠ some (o.gb j) := by
  have h1 : w.heap[p]? = _ := x.pb
  have h2 : w.heap[o.lb]? = _ := x.lb
  have h3 : w.heap[o.gb i]? = _ := x.gb i hi
  refine ⟨fun e => ?_, fun e => ?_, fun e => ?_, fun e => ?_, fun j hj e => ?_⟩
  · rw [e, h1] at h3; injection h3 with h3; injection h3 with _ h3; cases h3
  · rw [e, h2] at h3; injection h3 with h3; injection h3 with _ h3; cases h3
  · obtain ⟨cur, h⟩ := own_cells (x.ow i hi) e; rw [h] at h1; injection h1 with h1; injection h1 with _ h1; cases h1
  · obtain ⟨cur, h⟩ := own_cells (x.ow i hi) e; rw [h] at h2; injection h2 with h2; injection h2 with _ h2; cases h2
  · have h4 : w.heap[o.gb j]? = _ := x.gb j hj
    obtain ⟨cur, h⟩ := own_cells (x.ow i hi) e; rw [h] at h4; injection h4 with h4; injection h4 with _ h4; cases h4
/-- one record more -/
theorem Yx.added (x : Yx w p o R L) (hr : r.Ok) {k : Nat} (hk : k < R.length) (hg : r.g = (k : Int)) (hl : ∀ q, q ∈ L → q.key < r.key) (hf : ((ownR L k).length : Int) < atR R k)
    {v' : Value} (h1 : Blk w' (o.gb k) 63 [.int .i64 (atR R k), v']) (h2 : w'.ownsRow 0 38 4 v' (ownR L k ++ [r]).length (encRs (ownR L k ++ [r]))) (hb : But (fun i => (o.v k).ownBlock = some i ∨ i = o.gb k) w w') (hv : v'.ownBlock = (o.v k).ownBlock ∨ ∃ i, v'.ownBlock = some i ∧ w.heap.size ≤ i) :
    ∃ o', Yx w' p o' R (L ++ [r]) ∧ But (o.has R p) w w' ∧ ∀ b, o'.has R p b → o.has R p b ∨ w.heap.size ≤ b := by
  obtain ⟨n1, n2, n3, n4, n5⟩ := x.ne hk
  have hov : ∀ i, i ≠ k → (fun i => if i = k then v' else o.v i) i = o.v i := fun i hi => if_neg hi
  have hok : (fun i => if i = k then v' else o.v i) k = v' := if_pos rfl
  have hoth : ∀ i, i ≠ k → ownR (L ++ [r]) i = ownR L i := fun i hi => by rw [ownR_snoc, if_neg (by omega)]
  have hown : ownR (L ++ [r]) k = ownR L k ++ [r] := by rw [ownR_snoc, if_pos hg]
  refine ⟨⟨o.lb, o.gb, fun i => if i = k then v' else o.v i⟩, ⟨?_, ?_, fun i hi => ?_, fun i hi => ?_, fun i j hi hj hij => ⟨(x.ap i j hi hj hij).1, fun b h => ?_⟩, ?_⟩, hb.mono fun b h => ?_, fun b h => ?_⟩
  · exact x.pb.but hb (fun h => h.elim n3 (Ne.symm n1))
  · exact x.lb.but hb (fun h => h.elim n4 (Ne.symm n2))
  · by_cases e : i = k
    · subst e; simp only [if_pos]; exact h1
    · simp only [if_neg e]
      exact (x.gb i hi).but hb (fun h => h.elim (n5 i hi) (x.ap i k hi hk e).1)
  · by_cases e : i = k
    · subst e; simp only [if_pos]; rw [hown]; exact h2
    · simp only [if_neg e]; rw [hoth i e]
      refine eown_block (x.ow i hi) fun b h => hb.block b ((x.ow i hi).lt b h).2 ?_
      rintro (h' | rfl)
      · exact (x.ap i k hi hk e).2 b h h'
      · exact (x.ne hi).2.2.2.2 k hk h
  · by_cases ei : i = k <;> by_cases ej : j = k
    · exact absurd (ei.trans ej.symm) hij
    · subst ei
      simp only [if_pos, if_neg ej] at h ⊢
      rcases hv with e | ⟨q, e, hq⟩
      · exact (x.ap i j hi hj hij).2 b (by rw [← e]; exact h)
      · intro h'
        rw [e] at h
        injection h with h
        have := ((x.ow j hj).lt b h').2
        omega
    · subst ej
      simp only [if_pos, if_neg ei] at h ⊢
      intro h'
      rcases hv with e | ⟨q, e, hq⟩
      · exact (x.ap i j hi hj hij).2 b h (by rw [← e]; exact h')
      · rw [e] at h'
        injection h' with h'
        have := ((x.ow i hi).lt b h).2
        omega
    · simp only [if_neg ei, if_neg ej] at h ⊢
      exact (x.ap i j hi hj hij).2 b h
  · refine ⟨x.ok.few, x.ok.room, ?_, fun q hq => ?_, fun q hq => ?_, fun i hi => ?_⟩
    · unfold RiseR
      rw [List.pairwise_append]
      exact ⟨x.ok.rise, by simp, fun a ha b hb => by simp at hb; rw [hb]; exact hl a ha⟩
    · rcases List.mem_append.1 hq with h | h
      · exact x.ok.rok q h
      · simp at h; rw [h]; exact hr
    · rcases List.mem_append.1 hq with h | h
      · exact x.ok.gate q h
      · simp at h; rw [h, hg]; omega
    · by_cases e : i = k
      · subst e; rw [hown, List.length_append]; simp; omega
      · rw [hoth i e]; exact x.ok.full i hi
  · rcases h with h | rfl
    · exact .inr (.inr (.inr ⟨k, hk, h⟩))
    · exact .inr (.inr (.inl ⟨k, hk, rfl⟩))
  · rcases h with h | h | ⟨i, hi, h⟩ | ⟨i, hi, h⟩
    · exact .inl (.inl h)
    · exact .inl (.inr (.inl h))
    · exact .inl (.inr (.inr (.inl ⟨i, hi, h⟩)))
    · by_cases e : i = k
      · subst e
        simp only [if_pos] at h
        rcases hv with e | ⟨q, e, hq⟩
        · exact .inl (.inr (.inr (.inr ⟨i, hi, by rw [← e]; exact h⟩)))
        · rw [e] at h; injection h with h; exact .inr (by omega)
      · simp only [if_neg e] at h
        exact .inl (.inr (.inr (.inr ⟨i, hi, h⟩)))
end
end Go.Proofs.Ytcfmbppnghlkaaa
namespace Go.Proofs.Ytcfmbppnghlkaaa
open Go.RowKit Go.Sort
set_option maxRecDepth 100000

set_option maxHeartbeats 1000000 in
theorem yAdd_bad (w : World) (P : Value) (r : Rc) (er : Int) (her : er ≠ 0) (c : Calls Try.prog 28 #[P, .int .i64 r.g] (bxQ w r) fun e w' => e = .returned (.tuple #[.pointer none, .int .i64 er]) ∧ w' = bxQ w r) :
    Calls Try.prog 12 #[P, recV r] w fun e w' => e = .returned (.int .i64 er) ∧ Below w.heap.size w w' := by
  have HB : Hid (Below w.heap.size w (bxQ w r)) := bxQ_below w r
  have q2 := (bxQ_blk w r).cell (i := 2) rfl
  unfold recV
  generalize hw1 : bxQ w r = w1 at *
  unfold bxQ at hw1
  go_enter Try.func12, Try.ntmps12
  go_wp2_with fail
  refine c.mono ?_
  rintro e w' ⟨rfl, hw⟩
  subst hw
  clear c
  go_wp2_with fail
  go_ret
  exact ⟨rfl, HB.out⟩
set_option maxHeartbeats 2000000 in
theorem yAdd_w (w : World) (P : Value) (r q : Rc) (b : Nat) (bl : Bool) (S : Value → World → World → Prop) (c : Calls Try.prog 28 #[P, .int .i64 r.g] (bxQ w r) fun e w' => e = .returned (.tuple #[ptr b, .int .i64 0]) ∧ w' = bxQ w r)
    (cL : Calls Try.prog 14 #[P] (bxQ w r) fun e w' => e = .returned (.tuple #[recV q, .bool bl]) ∧ Below (bxQ w r).heap.size (bxQ w r) w')
    (cA : ∀ W, Below w.heap.size w W → Calls Try.prog 30 #[ptr b, recV r] W fun e w' => ∃ er : Int, e = .returned (.int .i64 er) ∧ S (.int .i64 er) W w') :
    Calls Try.prog 12 #[P, recV r] w fun e w' => ∃ er : Int, e = .returned (.int .i64 er) ∧ (((bl = true ∧ ¬ cmpI q.t q.s r.t r.s < 0) ∧ er = 151 ∧ Below w.heap.size w w') ∨ (¬ (bl = true ∧ ¬ cmpI q.t q.s r.t r.s < 0) ∧ ∃ W, Below w.heap.size w W ∧ S (.int .i64 er) W w')) := by
  have HB : Hid (Below w.heap.size w (bxQ w r) ∧ Blk (bxQ w r) w.heap.size 38 [.int .i64 r.t, .int .i64 r.s, .int .i64 r.g, .int .u64 r.p]) := ⟨bxQ_below w r, bxQ_blk w r⟩
  have p2 := (bxQ_blk w r).cell (i := 2) rfl
  have HA : Hid (∀ W, Below w.heap.size w W → Calls Try.prog 30 #[ptr b, recV r] W fun e w' => ∃ er : Int, e = .returned (.int .i64 er) ∧ S (.int .i64 er) W w') := cA
  have cp := fun W => ypassed q.t q.s r W
  clear cA
  unfold recV at *
  generalize hw1 : bxQ w r = w1 at *
  unfold bxQ at hw1
  go_enter Try.func12, Try.ntmps12
  go_wp2_with fail
  refine c.mono ?_
  rintro e w' ⟨rfl, hw⟩
  subst hw
  clear c
  go_wp2_with fail
  refine cL.mono ?_
  rintro e w2 ⟨rfl, hb2⟩
  clear cL hw1 p2
  obtain ⟨w3, hw3⟩ : ∃ w3, w2.alloc (.cells #[.int .i64 q.t, .int .i64 q.s, .int .i64 q.g, .int .u64 q.p] 38) = w3 := ⟨_, rfl⟩
  have hb3 : Below w2.heap.size w2 w3 := by rw [← hw3]; exact (Below.refl _ w2).alloc (Nat.le_refl _) _
  have l3 : Blk w3 w2.heap.size 38 [.int .i64 q.t, .int .i64 q.s, .int .i64 q.g, .int .u64 q.p] := by rw [← hw3]; exact blk_new w2 _ _
  have r3 := (HB.out.2.below hb2).below hb3
  have HE : Hid (Below w.heap.size w w3 ∧ Blk w3 w.heap.size 38 [.int .i64 r.t, .int .i64 r.s, .int .i64 r.g, .int .u64 r.p]) := ⟨Below.onto (Below.onto HB.out.1 hb2) hb3, r3⟩
  have z0 := (blk_new w2 [.int .i64 0, .int .i64 0, .int .i64 0, .int .u64 0] 38).cell (i := 0) rfl
  have z1 := (blk_new w2 [.int .i64 0, .int .i64 0, .int .i64 0, .int .u64 0] 38).cell (i := 1) rfl
  have z2 := (blk_new w2 [.int .i64 0, .int .i64 0, .int .i64 0, .int .u64 0] 38).cell (i := 2) rfl
  have z3 := (blk_new w2 [.int .i64 0, .int .i64 0, .int .i64 0, .int .u64 0] 38).cell (i := 3) rfl
  have zf := (blk_new w2 [.int .i64 0, .int .i64 0, .int .i64 0, .int .u64 0] 38).fz
  have l0 := l3.cell (i := 0) rfl
  have l1 := l3.cell (i := 1) rfl
  have k0 := r3.cell (i := 0) rfl
  have k1 := r3.cell (i := 1) rfl
  have k2 := r3.cell (i := 2) rfl
  have k3 := r3.cell (i := 3) rfl
  clear hb2 hb3 r3 l3
  cases hbl : bl
  · subst hbl
    have ca := HA.out w3 HE.out.1
    go_wp2_with fail
    refine ca.mono ?_
    rintro e w4 ⟨er, rfl, hS⟩
    have HS : Hid (S (.int .i64 er) w3 w4) := hS
    clear ca hS
    go_wp2_with fail
    go_ret
    exact ⟨er, rfl, w3, HE.out.1, HS.out⟩
  · subst hbl
    have cp3 := cp w3
    go_wp2_with fail
    refine cp3.mono ?_
    rintro e w4 ⟨rfl, hb4⟩
    have HE4 : Hid (Below w.heap.size w w4) := Below.onto HE.out.1 hb4
    have r4 := HE.out.2.below hb4
    have j0 := r4.cell (i := 0) rfl
    have j1 := r4.cell (i := 1) rfl
    have j2 := r4.cell (i := 2) rfl
    have j3 := r4.cell (i := 3) rfl
    clear cp3 cp hb4 r4 hw3 z0 z1 z2 z3 zf
    by_cases hc : cmpI q.t q.s r.t r.s < 0
    · have ca := HA.out w4 HE4.out
      have hd : decide (cmpI q.t q.s r.t r.s < 0) = true := decide_eq_true hc
      rw [hd]
      go_wp2_with fail
      refine ca.mono ?_
      rintro e w5 ⟨er, rfl, hS⟩
      have HS : Hid (S (.int .i64 er) w4 w5) := hS
      clear ca hS
      go_wp2_with fail
      go_ret
      exact ⟨er, rfl, .inr ⟨w4, HE4.out, HS.out⟩⟩
    · have hd : decide (cmpI q.t q.s r.t r.s < 0) = false := decide_eq_false hc
      rw [hd]
      go_wp2_with fail
      go_ret
      exact ⟨151, rfl, rfl, HE4.out⟩

/-- why a record is not logged -/
def addE (R : List Int) (L : List Rc) (r : Rc) : Int :=
  if ¬ (0 ≤ r.g ∧ r.g < R.length) then 5 else if L ≠ [] ∧ ¬ (lastR L).key < r.key then 151 else if ((ownR L r.g.toNat).length : Int) < atR R r.g.toNat then 0 else 150
/-- the records behind an Add -/
def addL (R : List Int) (L : List Rc) (r : Rc) : List Rc := if addE R L r = 0 then L ++ [r] else L
theorem yAdd (w : World) (p : Nat) (o : Yo) (R : List Int) (L : List Rc) (r : Rc) (x : Yx w p o R L) (hr : r.Ok) :
    Calls Try.prog 12 #[ptr p, recV r] w fun e w' => e = .returned (.int .i64 (addE R L r)) ∧ ∃ o', Yx w' p o' R (addL R L r) ∧ But (o.has R p) w w' ∧ ∀ b, o'.has R p b → o.has R p b ∨ w.heap.size ≤ b := by
  have x1 := x.below (bxQ_below w r)
  have keep : ∀ w', Below w.heap.size w w' → ∃ o', Yx w' p o' R L ∧ But (o.has R p) w w' ∧ ∀ b, o'.has R p b → o.has R p b ∨ w.heap.size ≤ b := fun w' hb => ⟨o, x.below hb, But.of hb, fun b h => .inl h⟩
  by_cases hg : 0 ≤ r.g ∧ r.g < R.length
  · have hk : r.g.toNat < R.length := by omega
    have hgk : r.g = (r.g.toNat : Int) := by omega
    have c := ylog (bxQ w r) p o R L x1 r.g
    rw [logV, if_pos hg] at c
    have cL := yLast (bxQ w r) p o R L x1
    obtain ⟨a, cp, hv, hle, _⟩ := x.form hk
    have hroom := x.ok.room _ hk
    have hlen := x.ok.len hk
    have hkey : ∀ q, q ∈ L → (cmpI (lastR L).t (lastR L).s r.t r.s < 0 ↔ (lastR L).key < r.key) := fun q hq => by
      have := cmpI_key (x.ok.rok _ (x.ok.rise.last hq).1) hr
      rw [decide_eq_decide] at this
      exact this
    have hbl : (!L.isEmpty) = true ↔ L ≠ [] := by cases L <;> simp
    by_cases hf : ((ownR L r.g.toNat).length : Int) < atR R r.g.toNat
    · refine (yAdd_w w (ptr p) r (lastR L) (o.gb r.g.toNat) (!L.isEmpty) (fun er W w' => er = .int .i64 0 ∧ ∃ v', Blk w' (o.gb r.g.toNat) 63 [.int .i64 (atR R r.g.toNat), v'] ∧ w'.ownsRow 0 38 4 v' (ownR L r.g.toNat ++ [r]).length (encRs (ownR L r.g.toNat ++ [r])) ∧ But (fun i => (o.v r.g.toNat).ownBlock = some i ∨ i = o.gb r.g.toNat) W w' ∧ (v'.ownBlock = (o.v r.g.toNat).ownBlock ∨ ∃ i, v'.ownBlock = some i ∧ W.heap.size ≤ i)) c cL ?_).mono ?_
      · intro W hW
        have xW := x.below hW
        refine (yadd W (o.gb r.g.toNat) _ (o.v r.g.toNat) (ownR L r.g.toNat) r (xW.gb _ hk) (xW.ow _ hk) hroom hlen hf).mono ?_
        rintro e w' ⟨rfl, h⟩
        exact ⟨0, rfl, rfl, h⟩
      · rintro e w' ⟨er, rfl, ⟨⟨h1, h2⟩, rfl, hb⟩ | ⟨h1, W, hW, he, v', q1, q2, q3, q4⟩⟩
        · have hL := hbl.1 h1
          rw [hkey _ (List.head_mem hL)] at h2
          have e1 : addE R L r = 151 := by unfold addE; rw [if_neg (fun h => h hg), if_pos ⟨hL, h2⟩]
          have e2 : addL R L r = L := by unfold addL; rw [e1, if_neg (by decide)]
          rw [e1, e2]
          exact ⟨rfl, keep w' hb⟩
        · injection he with _ he
          subst he
          have hno : ¬ (L ≠ [] ∧ ¬ (lastR L).key < r.key) := fun h => h1 ⟨hbl.2 h.1, fun h' => h.2 ((hkey _ (List.head_mem h.1)).1 h')⟩
          have e1 : addE R L r = 0 := by unfold addE; rw [if_neg (fun h => h hg), if_neg hno, if_pos hf]
          have e2 : addL R L r = L ++ [r] := by unfold addL; rw [e1, if_pos rfl]
          rw [e1, e2]
          obtain ⟨o', y1, y2, y3⟩ := (x.below hW).added hr hk hgk (fun q hq => by
            have h3 := (x.ok.rise.last hq).2
            have h4 : (lastR L).key < r.key := Decidable.not_not.1 fun h => hno ⟨List.ne_nil_of_mem hq, h⟩
            omega) hf q1 q2 q3 q4
          exact ⟨rfl, o', y1, (But.of hW).trans y2, fun b hb => (y3 b hb).imp id (fun h => Nat.le_trans hW.size h)⟩
    · have hfull : ((ownR L r.g.toNat).length : Int) = atR R r.g.toNat := by have := x.ok.full _ hk; omega
      refine (yAdd_w w (ptr p) r (lastR L) (o.gb r.g.toNat) (!L.isEmpty) (fun er W w' => er = .int .i64 150 ∧ Below W.heap.size W w') c cL ?_).mono ?_
      · intro W hW
        have xg := (x.below hW).gb _ hk
        rw [hv] at xg
        refine (yadd_full W (o.gb r.g.toNat) _ a _ cp r xg hroom hlen hfull).mono ?_
        rintro e w' ⟨rfl, h⟩
        exact ⟨150, rfl, rfl, h⟩
      · rintro e w' ⟨er, rfl, ⟨⟨h1, h2⟩, rfl, hb⟩ | ⟨h1, W, hW, he, hb⟩⟩
        · have hL := hbl.1 h1
          rw [hkey _ (List.head_mem hL)] at h2
          have e1 : addE R L r = 151 := by unfold addE; rw [if_neg (fun h => h hg), if_pos ⟨hL, h2⟩]
          have e2 : addL R L r = L := by unfold addL; rw [e1, if_neg (by decide)]
          rw [e1, e2]
          exact ⟨rfl, keep w' hb⟩
        · injection he with _ he
          subst he
          have hno : ¬ (L ≠ [] ∧ ¬ (lastR L).key < r.key) := fun h => h1 ⟨hbl.2 h.1, fun h' => h.2 ((hkey _ (List.head_mem h.1)).1 h')⟩
          have e1 : addE R L r = 150 := by unfold addE; rw [if_neg (fun h => h hg), if_neg hno, if_neg hf]
          have e2 : addL R L r = L := by unfold addL; rw [e1, if_neg (by decide)]
          rw [e1, e2]
          exact ⟨rfl, keep w' (Below.onto hW hb)⟩
  · have e1 : addE R L r = 5 := by unfold addE; rw [if_pos hg]
    have e2 : addL R L r = L := by unfold addL; rw [e1, if_neg (by decide)]
    have c := ylog (bxQ w r) p o R L x1 r.g
    rw [logV, if_neg hg] at c
    rw [e1, e2]
    refine (yAdd_bad w (ptr p) r 5 (by decide) c).mono ?_
    rintro e w' ⟨rfl, hb⟩
    exact ⟨rfl, keep w' hb⟩
theorem yAdd_no (w : World) (P : Value) (h : NbL w P) (r : Rc) : Calls Try.prog 12 #[P, recV r] w fun e w' => e = .returned (.int .i64 4) ∧ Below w.heap.size w w' :=
  yAdd_bad w P r 4 (by decide) (ylog_no _ P (h.below (bxQ_below w r)) r.g)
end Go.Proofs.Ytcfmbppnghlkaaa
