/- Logs in memory; is, log, left, Left. -/
import Derived.Test.YtcfmbppnghlkaaaYMg
namespace Go.Proofs.Ytcfmbppnghlkaaa
open Go.RowKit Go.Sort
set_option maxRecDepth 100000

/-- a gate's own -/
def ownR (L : List Rc) (i : Nat) : List Rc := L.filter fun r => decide (r.g = (i : Int))
def atR (R : List Int) (i : Nat) : Int := R.getD i 0
/-- what logs are: rooms, and all records in order -/
structure Lo (R : List Int) (L : List Rc) : Prop where
  few : R.length ≤ 16
  room : ∀ i, i < R.length → 0 ≤ atR R i ∧ atR R i ≤ 1024
  rise : RiseR L
  rok : ∀ r, r ∈ L → r.Ok
  gate : ∀ r, r ∈ L → 0 ≤ r.g ∧ r.g < R.length
  full : ∀ i, i < R.length → ((ownR L i).length : Int) ≤ atR R i
/-- where they lie -/
structure Yo where
  lb : Nat
  gb : Nat → Nat
  v : Nat → Value
def ptrs (o : Yo) (n : Nat) : List Value := (List.range n).map fun i => ptr (o.gb i)
theorem ptrs_at {o : Yo} {n i : Nat} (h : i < n) : (ptrs o n)[i]? = some (ptr (o.gb i)) := by unfold ptrs; simp [h]
structure Yx (w : World) (p : Nat) (o : Yo) (R : List Int) (L : List Rc) : Prop where
  pb : Blk w p 57 [.slice (some ⟨o.lb, 0, none⟩) R.length R.length]
  lb : Blk w o.lb 60 (ptrs o R.length)
  gb : ∀ i, i < R.length → Blk w (o.gb i) 63 [.int .i64 (atR R i), o.v i]
  ow : ∀ i, i < R.length → w.ownsRow 0 38 4 (o.v i) (ownR L i).length (encRs (ownR L i))
  ap : ∀ i j, i < R.length → j < R.length → i ≠ j → o.gb i ≠ o.gb j ∧ ∀ b, (o.v i).ownBlock = some b → (o.v j).ownBlock ≠ some b
  ok : Lo R L
/-- logs that nobody made -/
def NbL (w : World) (P : Value) : Prop := P = .pointer none ∨ ∃ p, P = ptr p ∧ Blk w p 57 [.slice none 0 0]
theorem NbL.below {w w' : World} {P : Value} (h : NbL w P) (hb : Below w.heap.size w w') : NbL w' P := by
  rcases h with h | ⟨p, h, hp⟩
  · exact .inl h
  · exact .inr ⟨p, h, hp.below hb⟩
section
variable {w w' : World} {p : Nat} {o : Yo} {R : List Int} {L : List Rc}
theorem Yx.below (x : Yx w p o R L) (hb : Below w.heap.size w w') : Yx w' p o R L :=
  ⟨x.pb.below hb, x.lb.below hb, fun i hi => (x.gb i hi).below hb, fun i hi => eown_block (x.ow i hi) fun b h => hb.block b ((x.ow i hi).lt b h).2, x.ap, x.ok⟩
theorem Yx.form (x : Yx w p o R L) {i : Nat} (hi : i < R.length) : ∃ a c, o.v i = .slice a (ownR L i).length c ∧ (ownR L i).length ≤ c ∧ (0 < (ownR L i).length → ∃ g, a = some ⟨g, 0, none⟩) := by
  rcases (x.ow i hi).2 with ⟨h, hn⟩ | ⟨g, cap, cur, h, _, _, h3, _⟩
  · exact ⟨none, 0, by rw [h, hn], by omega, fun h => by omega⟩
  · exact ⟨some ⟨g, 0, none⟩, cap, h, h3, fun _ => ⟨g, rfl⟩⟩
theorem Lo.len (h : Lo R L) {i : Nat} (hi : i < R.length) : (ownR L i).length ≤ 1024 := by
  have := h.full i hi
  have := (h.room i hi).2
  omega
end
set_option maxHeartbeats 1000000 in
theorem yis (w : World) (p : Nat) (o : Yo) (R : List Int) (L : List Rc) (x : Yx w p o R L) : Calls Try.prog 43 #[ptr p] w fun e w' => e = .returned (.bool true) ∧ w' = w := by
  have h0 := x.pb.cell (i := 0) rfl
  clear x
  go_enter Try.func43, Try.ntmps43
  go_wp2_with fail
  go_ret
  exact ⟨rfl, rfl⟩
set_option maxHeartbeats 1000000 in
theorem yis_no (w : World) (P : Value) (h : NbL w P) : Calls Try.prog 43 #[P] w fun e w' => e = .returned (.bool false) ∧ w' = w := by
  rcases h with rfl | ⟨p, rfl, hp⟩
  · go_enter Try.func43, Try.ntmps43
    go_wp2_with fail
    go_ret
    exact ⟨rfl, rfl⟩
  · have h0 := hp.cell (i := 0) rfl
    clear hp
    go_enter Try.func43, Try.ntmps43
    go_wp2_with fail
    go_ret
    exact ⟨rfl, rfl⟩
/-- which log -/
def logV (o : Yo) (R : List Int) (g : Int) : Value := if 0 ≤ g ∧ g < R.length then .tuple #[ptr (o.gb g.toNat), .int .i64 0] else .tuple #[.pointer none, .int .i64 5]
set_option maxHeartbeats 1000000 in
theorem ylog (w : World) (p : Nat) (o : Yo) (R : List Int) (L : List Rc) (x : Yx w p o R L) (g : Int) : Calls Try.prog 28 #[ptr p, .int .i64 g] w fun e w' => e = .returned (logV o R g) ∧ w' = w := by
  have c := yis w p o R L x
  have h0 := x.pb.cell (i := 0) rfl
  have hp := fun i (hi : i < R.length) => x.lb.cell (ptrs_at (o := o) hi)
  clear x
  by_cases h1 : g < 0
  · rw [logV, if_neg (by omega)]
    go_enter Try.func28, Try.ntmps28
    go_wp2_with fail
    refine c.mono ?_
    rintro e w' ⟨rfl, hw⟩
    subst hw
    go_wp2_with fail
    go_ret2
    exact ⟨rfl, rfl⟩
  · by_cases h2 : (R.length : Int) ≤ g
    · rw [logV, if_neg (by omega)]
      go_enter Try.func28, Try.ntmps28
      go_wp2_with fail
      refine c.mono ?_
      rintro e w' ⟨rfl, hw⟩
      subst hw
      go_wp2_with fail
      go_ret2
      exact ⟨rfl, rfl⟩
    · rw [logV, if_pos (by omega)]
      obtain ⟨k, rfl⟩ : ∃ k : Nat, g = k := ⟨g.toNat, by omega⟩
      have hk : k < R.length := by omega
      have hpk := hp k hk
      clear hp h1 h2
      simp only [Int.toNat_natCast]
      go_enter Try.func28, Try.ntmps28
      go_wp2_with fail
      refine c.mono ?_
      rintro e w' ⟨rfl, hw⟩
      subst hw
      go_wp2_with fail
      go_ret2
      exact ⟨rfl, rfl⟩
set_option maxHeartbeats 1000000 in
theorem ylog_no (w : World) (P : Value) (h : NbL w P) (g : Int) : Calls Try.prog 28 #[P, .int .i64 g] w fun e w' => e = .returned (.tuple #[.pointer none, .int .i64 4]) ∧ w' = w := by
  have c := yis_no w P h
  clear h
  go_enter Try.func28, Try.ntmps28
  go_wp2_with fail
  refine c.mono ?_
  rintro e w' ⟨rfl, hw⟩
  subst hw
  go_wp2_with fail
  go_ret2
  exact ⟨rfl, rfl⟩
set_option maxHeartbeats 1000000 in
theorem yleft (w : World) (b : Nat) (r : Int) (a : Option Addr) (n c : Nat) (h : Blk w b 63 [.int .i64 r, .slice a n c]) (hr : 0 ≤ r ∧ r ≤ 1024) (hn : n ≤ 1024) : Calls Try.prog 35 #[ptr b] w fun e w' => e = .returned (.int .i64 (r - n)) ∧ Below w.heap.size w w' := by
  have h0 := h.cell (i := 0) rfl
  have h1 := h.cell (i := 1) rfl
  clear h
  go_enter Try.func35, Try.ntmps35
  go_wp2_with fail
  go_region
  go_wp2_with fail
  go_ret
  exact ⟨by go_num, (Below.refl _ _).drew⟩
end Go.Proofs.Ytcfmbppnghlkaaa
