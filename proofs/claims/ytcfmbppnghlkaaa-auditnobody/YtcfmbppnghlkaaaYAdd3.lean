/- Add, whole. -/
import Derived.Test.YtcfmbppnghlkaaaYAdd2
import Derived.Test.YtcfmbppnghlkaaaYLess
namespace Go.Proofs.Ytcfmbppnghlkaaa
open Go.RowKit Go.Sort
set_option maxRecDepth 100000

set_option maxHeartbeats 1000000 in
theorem yAdd_bad (w : World) (P : Value) (r : Rc) (er : Int) (her : er ≠ 0) (c : Calls Try.prog 28 #[P, .int .i64 r.g] (bxQ w r) fun e w' => e = .returned (.tuple #[.pointer none, .int .i64 er]) ∧ w' = bxQ w r) :
    Calls Try.prog 12 #[P, recV r] w fun e w' => e = .returned (.int .i64 er) ∧ Below w.heap.size w w' := by
  have HB : Hid (Below w.heap.size w (bxQ w r)) := bxQ_below w r
  have q2 := (bxQ_blk w r).cell (i := 2) rfl
  unfold recV
  generalize hw1 : bxQ w r = w1 at *
  unfold bxQ at hw1
  go_enter Try.func12, Try.ntmps12
  go_wp2_with fail
  refine c.mono ?_
  rintro e w' ⟨rfl, hw⟩
  subst hw
  clear c
  go_wp2_with fail
  go_ret
  exact ⟨rfl, HB.out⟩
set_option maxHeartbeats 2000000 in
theorem yAdd_w (w : World) (P : Value) (r q : Rc) (b : Nat) (bl : Bool) (S : Value → World → World → Prop) (c : Calls Try.prog 28 #[P, .int .i64 r.g] (bxQ w r) fun e w' => e = .returned (.tuple #[ptr b, .int .i64 0]) ∧ w' = bxQ w r)
    (cL : Calls Try.prog 14 #[P] (bxQ w r) fun e w' => e = .returned (.tuple #[recV q, .bool bl]) ∧ Below (bxQ w r).heap.size (bxQ w r) w')
    (cA : ∀ W, Below w.heap.size w W → Calls Try.prog 30 #[ptr b, recV r] W fun e w' => ∃ er : Int, e = .returned (.int .i64 er) ∧ S (.int .i64 er) W w') :
    Calls Try.prog 12 #[P, recV r] w fun e w' => ∃ er : Int, e = .returned (.int .i64 er) ∧ (((bl = true ∧ ¬ cmpI q.t q.s r.t r.s < 0) ∧ er = 151 ∧ Below w.heap.size w w') ∨ (¬ (bl = true ∧ ¬ cmpI q.t q.s r.t r.s < 0) ∧ ∃ W, Below w.heap.size w W ∧ S (.int .i64 er) W w')) := by
  have HB : Hid (Below w.heap.size w (bxQ w r) ∧ Blk (bxQ w r) w.heap.size 38 [.int .i64 r.t, .int .i64 r.s, .int .i64 r.g, .int .u64 r.p]) := ⟨bxQ_below w r, bxQ_blk w r⟩
  have p2 := (bxQ_blk w r).cell (i := 2) rfl
  have HA : Hid (∀ W, Below w.heap.size w W → Calls Try.prog 30 #[ptr b, recV r] W fun e w' => ∃ er : Int, e = .returned (.int .i64 er) ∧ S (.int .i64 er) W w') := cA
  have cp := fun W => ypassed q.t q.s r W
  clear cA
  unfold recV at *
  generalize hw1 : bxQ w r = w1 at *
  unfold bxQ at hw1
  go_enter Try.func12, Try.ntmps12
  go_wp2_with fail
  refine c.mono ?_
  rintro e w' ⟨rfl, hw⟩
  subst hw
  clear c
  go_wp2_with fail
  refine cL.mono ?_
  rintro e w2 ⟨rfl, hb2⟩
  clear cL hw1 p2
  obtain ⟨w3, hw3⟩ : ∃ w3, w2.alloc (.cells #[.int .i64 q.t, .int .i64 q.s, .int .i64 q.g, .int .u64 q.p] 38) = w3 := ⟨_, rfl⟩
  have hb3 : Below w2.heap.size w2 w3 := by rw [← hw3]; exact (Below.refl _ w2).alloc (Nat.le_refl _) _
  have l3 : Blk w3 w2.heap.size 38 [.int .i64 q.t, .int .i64 q.s, .int .i64 q.g, .int .u64 q.p] := by rw [← hw3]; exact blk_new w2 _ _
  have r3 := (HB.out.2.below hb2).below hb3
  have HE : Hid (Below w.heap.size w w3 ∧ Blk w3 w.heap.size 38 [.int .i64 r.t, .int .i64 r.s, .int .i64 r.g, .int .u64 r.p]) := ⟨Below.onto (Below.onto HB.out.1 hb2) hb3, r3⟩
  have z0 := (blk_new w2 [.int .i64 0, .int .i64 0, .int .i64 0, .int .u64 0] 38).cell (i := 0) rfl
  have z1 := (blk_new w2 [.int .i64 0, .int .i64 0, .int .i64 0, .int .u64 0] 38).cell (i := 1) rfl
  have z2 := (blk_new w2 [.int .i64 0, .int .i64 0, .int .i64 0, .int .u64 0] 38).cell (i := 2) rfl
  have z3 := (blk_new w2 [.int .i64 0, .int .i64 0, .int .i64 0, .int .u64 0] 38).cell (i := 3) rfl
  have zf := (blk_new w2 [.int .i64 0, .int .i64 0, .int .i64 0, .int .u64 0] 38).fz
  have l0 := l3.cell (i := 0) rfl
  have l1 := l3.cell (i := 1) rfl
  have k0 := r3.cell (i := 0) rfl
  have k1 := r3.cell (i := 1) rfl
  have k2 := r3.cell (i := 2) rfl
  have k3 := r3.cell (i := 3) rfl
  clear hb2 hb3 r3 l3
  cases hbl : bl
  · subst hbl
    have ca := HA.out w3 HE.out.1
    go_wp2_with fail
    refine ca.mono ?_
    rintro e w4 ⟨er, rfl, hS⟩
    have HS : Hid (S (.int .i64 er) w3 w4) := hS
    clear ca hS
    go_wp2_with fail
    go_ret
    exact ⟨er, rfl, w3, HE.out.1, HS.out⟩
  · subst hbl
    have cp3 := cp w3
    go_wp2_with fail
    refine cp3.mono ?_
    rintro e w4 ⟨rfl, hb4⟩
    have HE4 : Hid (Below w.heap.size w w4) := Below.onto HE.out.1 hb4
    have r4 := HE.out.2.below hb4
    have j0 := r4.cell (i := 0) rfl
    have j1 := r4.cell (i := 1) rfl
    have j2 := r4.cell (i := 2) rfl
    have j3 := r4.cell (i := 3) rfl
    clear cp3 cp hb4 r4 hw3 z0 z1 z2 z3 zf
    by_cases hc : cmpI q.t q.s r.t r.s < 0
    · have ca := HA.out w4 HE4.out
      have hd : decide (cmpI q.t q.s r.t r.s < 0) = true := decide_eq_true hc
      rw [hd]
      go_wp2_with fail
      refine ca.mono ?_
      rintro e w5 ⟨er, rfl, hS⟩
      have HS : Hid (S (.int .i64 er) w4 w5) := hS
      clear ca hS
      go_wp2_with fail
      go_ret
      exact ⟨er, rfl, .inr ⟨w4, HE4.out, HS.out⟩⟩
    · have hd : decide (cmpI q.t q.s r.t r.s < 0) = false := decide_eq_false hc
      rw [hd]
      go_wp2_with fail
      go_ret
      exact ⟨151, rfl, rfl, HE4.out⟩

/-- why a record is not logged -/
def addE (R : List Int) (L : List Rc) (r : Rc) : Int :=
  if ¬ (0 ≤ r.g ∧ r.g < R.length) then 5 else if L ≠ [] ∧ ¬ (lastR L).key < r.key then 151 else if ((ownR L r.g.toNat).length : Int) < atR R r.g.toNat then 0 else 150
/-- the records behind an Add -/
def addL (R : List Int) (L : List Rc) (r : Rc) : List Rc := if addE R L r = 0 then L ++ [r] else L
theorem yAdd (w : World) (p : Nat) (o : Yo) (R : List Int) (L : List Rc) (r : Rc) (x : Yx w p o R L) (hr : r.Ok) :
    Calls Try.prog 12 #[ptr p, recV r] w fun e w' => e = .returned (.int .i64 (addE R L r)) ∧ ∃ o', Yx w' p o' R (addL R L r) ∧ But (o.has R p) w w' ∧ ∀ b, o'.has R p b → o.has R p b ∨ w.heap.size ≤ b := by
  have x1 := x.below (bxQ_below w r)
  have keep : ∀ w', Below w.heap.size w w' → ∃ o', Yx w' p o' R L ∧ But (o.has R p) w w' ∧ ∀ b, o'.has R p b → o.has R p b ∨ w.heap.size ≤ b := fun w' hb => ⟨o, x.below hb, But.of hb, fun b h => .inl h⟩
  by_cases hg : 0 ≤ r.g ∧ r.g < R.length
  · have hk : r.g.toNat < R.length := by omega
    have hgk : r.g = (r.g.toNat : Int) := by omega
    have c := ylog (bxQ w r) p o R L x1 r.g
    rw [logV, if_pos hg] at c
    have cL := yLast (bxQ w r) p o R L x1
    obtain ⟨a, cp, hv, hle, _⟩ := x.form hk
    have hroom := x.ok.room _ hk
    have hlen := x.ok.len hk
    have hkey : ∀ q, q ∈ L → (cmpI (lastR L).t (lastR L).s r.t r.s < 0 ↔ (lastR L).key < r.key) := fun q hq => by
      have := cmpI_key (x.ok.rok _ (x.ok.rise.last hq).1) hr
      rw [decide_eq_decide] at this
      exact this
    have hbl : (!L.isEmpty) = true ↔ L ≠ [] := by cases L <;> simp
    by_cases hf : ((ownR L r.g.toNat).length : Int) < atR R r.g.toNat
    · refine (yAdd_w w (ptr p) r (lastR L) (o.gb r.g.toNat) (!L.isEmpty) (fun er W w' => er = .int .i64 0 ∧ ∃ v', Blk w' (o.gb r.g.toNat) 63 [.int .i64 (atR R r.g.toNat), v'] ∧ w'.ownsRow 0 38 4 v' (ownR L r.g.toNat ++ [r]).length (encRs (ownR L r.g.toNat ++ [r])) ∧ But (fun i => (o.v r.g.toNat).ownBlock = some i ∨ i = o.gb r.g.toNat) W w' ∧ (v'.ownBlock = (o.v r.g.toNat).ownBlock ∨ ∃ i, v'.ownBlock = some i ∧ W.heap.size ≤ i)) c cL ?_).mono ?_
      · intro W hW
        have xW := x.below hW
        refine (yadd W (o.gb r.g.toNat) _ (o.v r.g.toNat) (ownR L r.g.toNat) r (xW.gb _ hk) (xW.ow _ hk) hroom hlen hf).mono ?_
        rintro e w' ⟨rfl, h⟩
        exact ⟨0, rfl, rfl, h⟩
      · rintro e w' ⟨er, rfl, ⟨⟨h1, h2⟩, rfl, hb⟩ | ⟨h1, W, hW, he, v', q1, q2, q3, q4⟩⟩
        · have hL := hbl.1 h1
          rw [hkey _ (List.head_mem hL)] at h2
          have e1 : addE R L r = 151 := by unfold addE; rw [if_neg (fun h => h hg), if_pos ⟨hL, h2⟩]
          have e2 : addL R L r = L := by unfold addL; rw [e1, if_neg (by decide)]
          rw [e1, e2]
          exact ⟨rfl, keep w' hb⟩
        · injection he with _ he
          subst he
          have hno : ¬ (L ≠ [] ∧ ¬ (lastR L).key < r.key) := fun h => h1 ⟨hbl.2 h.1, fun h' => h.2 ((hkey _ (List.head_mem h.1)).1 h')⟩
          have e1 : addE R L r = 0 := by unfold addE; rw [if_neg (fun h => h hg), if_neg hno, if_pos hf]
          have e2 : addL R L r = L ++ [r] := by unfold addL; rw [e1, if_pos rfl]
          rw [e1, e2]
          obtain ⟨o', y1, y2, y3⟩ := (x.below hW).added hr hk hgk (fun q hq => by
            have h3 := (x.ok.rise.last hq).2
            have h4 : (lastR L).key < r.key := Decidable.not_not.1 fun h => hno ⟨List.ne_nil_of_mem hq, h⟩
            omega) hf q1 q2 q3 q4
          exact ⟨rfl, o', y1, (But.of hW).trans y2, fun b hb => (y3 b hb).imp id (fun h => Nat.le_trans hW.size h)⟩
    · have hfull : ((ownR L r.g.toNat).length : Int) = atR R r.g.toNat := by have := x.ok.full _ hk; omega
      refine (yAdd_w w (ptr p) r (lastR L) (o.gb r.g.toNat) (!L.isEmpty) (fun er W w' => er = .int .i64 150 ∧ Below W.heap.size W w') c cL ?_).mono ?_
      · intro W hW
        have xg := (x.below hW).gb _ hk
        rw [hv] at xg
        refine (yadd_full W (o.gb r.g.toNat) _ a _ cp r xg hroom hlen hfull).mono ?_
        rintro e w' ⟨rfl, h⟩
        exact ⟨150, rfl, rfl, h⟩
      · rintro e w' ⟨er, rfl, ⟨⟨h1, h2⟩, rfl, hb⟩ | ⟨h1, W, hW, he, hb⟩⟩
        · have hL := hbl.1 h1
          rw [hkey _ (List.head_mem hL)] at h2
          have e1 : addE R L r = 151 := by unfold addE; rw [if_neg (fun h => h hg), if_pos ⟨hL, h2⟩]
          have e2 : addL R L r = L := by unfold addL; rw [e1, if_neg (by decide)]
          rw [e1, e2]
          exact ⟨rfl, keep w' hb⟩
        · injection he with _ he
          subst he
          have hno : ¬ (L ≠ [] ∧ ¬ (lastR L).key < r.key) := fun h => h1 ⟨hbl.2 h.1, fun h' => h.2 ((hkey _ (List.head_mem h.1)).1 h')⟩
          have e1 : addE R L r = 150 := by unfold addE; rw [if_neg (fun h => h hg), if_neg hno, if_neg hf]
          have e2 : addL R L r = L := by unfold addL; rw [e1, if_neg (by decide)]
          rw [e1, e2]
          exact ⟨rfl, keep w' (Below.onto hW hb)⟩
  · have e1 : addE R L r = 5 := by unfold addE; rw [if_pos hg]
    have e2 : addL R L r = L := by unfold addL; rw [e1, if_neg (by decide)]
    have c := ylog (bxQ w r) p o R L x1 r.g
    rw [logV, if_neg hg] at c
    rw [e1, e2]
    refine (yAdd_bad w (ptr p) r 5 (by decide) c).mono ?_
    rintro e w' ⟨rfl, hb⟩
    exact ⟨rfl, keep w' hb⟩
theorem yAdd_no (w : World) (P : Value) (h : NbL w P) (r : Rc) : Calls Try.prog 12 #[P, recV r] w fun e w' => e = .returned (.int .i64 4) ∧ Below w.heap.size w w' :=
  yAdd_bad w P r 4 (by decide) (ylog_no _ P (h.below (bxQ_below w r)) r.g)
end Go.Proofs.Ytcfmbppnghlkaaa
