/- drain: what is told, and what is left. -/
import Derived.Test.YtafcgbahdfaiiaaEDrain
namespace Go.Proofs.Ytafcgbahdfaiiaa
open Go.RowKit Go.Sort
set_option maxRecDepth 100000

theorem encT_snoc (T : List En) (e : En) : encT (T ++ [e]) = encT T ++ [.int .i8 e.k, .int .i64 e.m] := by simp [encT]
/-- where drain's own things lie -/
structure Db (W : World) (N1 N2 N3 p : Nat) (v : Value) (T : List En) (mo : Int) : Prop where
  b1 : Blk W N1 43 [v]
  b2 : Blk W N2 38 [.func (.func 23) #[ptr p] #[]]
  b3 : Blk W N3 3 [.int .i64 mo]
  ow : W.ownsRow 0 27 2 v T.length (encT T)
abbrev dY (Y : Nat → Prop) (N1 N2 N3 : Nat) (v : Value) : Nat → Prop := fun b => Y b ∨ b = N1 ∨ b = N2 ∨ b = N3 ∨ v.ownBlock = some b
section
variable {W W' : World} {N1 N2 N3 p : Nat} {v : Value} {T : List En} {mo : Int} {Y : Nat → Prop}
theorem Db.but {S : Nat → Prop} (d : Db W N1 N2 N3 p v T mo) (h : But S W W') (hS : ∀ b, dY (fun _ => False) N1 N2 N3 v b → ¬ S b) : Db W' N1 N2 N3 p v T mo :=
  ⟨d.b1.but h (hS _ (.inr (.inl rfl))), d.b2.but h (hS _ (.inr (.inr (.inl rfl)))), d.b3.but h (hS _ (.inr (.inr (.inr (.inl rfl))))), eown_block d.ow fun b hb => h.block b (d.ow.lt b hb).2 (hS b (.inr (.inr (.inr (.inr hb)))))⟩
theorem Db.els (d : Db W N1 N2 N3 p v T mo) (h : But (Els (dY Y N1 N2 N3 v)) W W') : Db W' N1 N2 N3 p v T mo := d.but h fun _ hb hn => hn (hb.elim False.elim .inr)
theorem Db.below (d : Db W N1 N2 N3 p v T mo) (h : Below W.heap.size W W') : Db W' N1 N2 N3 p v T mo := ⟨d.b1.below h, d.b2.below h, d.b3.below h, eown_block d.ow fun b hb => h.block b (d.ow.lt b hb).2⟩
theorem Db.n23 (d : Db W N1 N2 N3 p v T mo) : N2 ≠ N1 ∧ N3 ≠ N1 ∧ v.ownBlock ≠ some N2 ∧ v.ownBlock ≠ some N3 := by
  have h1 : W.heap[N1]? = _ := d.b1
  have h2 : W.heap[N2]? = _ := d.b2
  have h3 : W.heap[N3]? = _ := d.b3
  have hv : ∀ b, v.ownBlock = some b → ∃ cur, W.heap[b]? = some (.cells cur 27 (0, 0)) := fun b hb => by
    rcases d.ow.2 with ⟨h, _⟩ | ⟨g, cap, cur, h, _, hg, _⟩
    · rw [h] at hb; cases hb
    · rw [h] at hb; simp [Value.ownBlock] at hb; subst hb; exact ⟨cur, hg⟩
  refine ⟨fun e => ?_, fun e => ?_, fun e => ?_, fun e => ?_⟩
  · rw [e, h1] at h2; injection h2 with h2; injection h2 with _ h2; cases h2
  · rw [e, h1] at h3; injection h3 with h3; injection h3 with _ h3; cases h3
  · obtain ⟨cur, h⟩ := hv _ e; rw [h] at h2; injection h2 with h2; injection h2 with _ h2; cases h2
  · obtain ⟨cur, h⟩ := hv _ e; rw [h] at h3; injection h3 with h3; injection h3 with _ h3; cases h3
end
/-- how much has been told -/
def outN (N1 : Nat) (W : World) : Nat := match W.cell? ⟨N1, 0, none⟩ with
  | some (.slice _ n _) => n
  | _ => 0
theorem outN_eq {W : World} {N1 N2 N3 p : Nat} {v : Value} {T : List En} {mo : Int} (d : Db W N1 N2 N3 p v T mo) : outN N1 W = T.length := by
  obtain ⟨a, cap, hv⟩ := eown_form d.ow
  have := d.b1.cell (i := 0) rfl
  rw [hv] at this
  unfold outN
  rw [this]
/-- what drain keeps -/
structure DrK (l : Le) (p last : Nat) (Y : Nat → Prop) (N1 N2 N3 : Nat) (mo : Nat) (D : List En) (w0 W : World) (v : Value) (T D' : List En) : Prop where
  db : Db W N1 N2 N3 p v T mo
  ag : Ag l W p D' last (dY Y N1 N2 N3 v)
  dr : Dr l.Ord D T D'
  bu : But (Els Y) w0 W
  vb : v.ownBlock = none ∨ ∃ b, v.ownBlock = some b ∧ w0.heap.size ≤ b
theorem fpop : ∀ args W, (callFunc 23 args).run Try.prog W = .ok (.enter 23 args) W := enters_of Try.func23 (by kernel_rfl) rfl
theorem fyield : ∀ args W, (callFunc 41 args).run Try.prog W = .ok (.enter 41 args) W := enters_of Try.func41 (by kernel_rfl) rfl
theorem nilY (N1 N3 : Nat) (W : World) : (binOp .eql 79 (yV N1 N3) .nilFunc).run Try.prog W = .ok (.bool false) W := by kernel_rfl

set_option maxHeartbeats 4000000 in
theorem eeach (l : Le) (p last : Nat) (Y : Nat → Prop) (N1 N2 N3 mo : Nat) (hmo : mo ≤ 1000) (D : List En) (w0 : World) (v : Value) (k0 : DrK l p last Y N1 N2 N3 mo D w0 w0 v [] D) (hm : 0 < mo) (hY1 : ¬ Y N1) :
    Calls Try.prog 53 #[yV N1 N3, ptr N2] w0 fun e w' => e = .returned (.tuple #[]) ∧ ∃ v' T D', DrK l p last Y N1 N2 N3 mo D w0 w' v' T D' ∧ T.length ≤ mo ∧ (T.length = mo ∨ D' = []) := by
  have hf1 := fpop
  have hf2 := fyield
  have hny := nilY N1 N3
  have K0 : Hid (DrK l p last Y N1 N2 N3 mo D w0 w0 v [] D) := k0
  clear k0
  go_enter Try.func53, Try.ntmps53
  go_wp2_with fail
  go_loopw [4] (fun _ wr => ∃ (v' : Value) (T D' : List En), T.length < mo ∧ Hid (DrK l p last Y N1 N2 N3 mo D w0 wr v' T D')) (fun _ wr => mo - outN N1 wr)
  case atStart => exact ⟨v, [], D, hm, K0⟩
  case round =>
    obtain ⟨v1, T, D1, hT, K1⟩ := hrel
    have c2 := K1.out.db.b2.cell (i := 0) rfl
    have ON : Hid (outN N1 wr = T.length) := outN_eq K1.out.db
    by_cases hD : D1 = []
    · subst hD
      have cP := pop0 K1.out.ag
      unfold tl0 thV at cP
      go_wp2_with fail
      refine cP.mono ?_
      rintro e w2 ⟨rfl, a2, b2⟩
      clear cP
      have hb3 : Below w2.heap.size w2 (bxV w2 0 0) := (Below.refl _ w2).alloc (Nat.le_refl _) _
      have K3 : Hid (DrK l p last Y N1 N2 N3 mo D w0 (bxV w2 0 0) v1 T []) := ⟨(K1.out.db.els b2).below hb3, a2.below hb3, K1.out.dr, (K1.out.bu.trans (b2.mono fun b hb hy => hb (.inl hy))).trans (But.of hb3), K1.out.vb⟩
      clear a2 b2 hb3
      go_wp2_with fail
      refine bodyPost_ret (results_none rfl _ _ _) rfl ?_
      exact ⟨rfl, v1, T, [], K3.out, by omega, .inr rfl⟩
    · have cP := popA K1.out.ag hD
      unfold tlV thV at cP
      go_wp2_with fail
      refine cP.mono ?_
      rintro e w2 ⟨en, ⟨hen, hB⟩, rfl, a2, b2⟩
      clear cP
      obtain ⟨w3, hw3⟩ : ∃ w3, bxV w2 en.k en.m = w3 := ⟨_, rfl⟩
      have hb3 : Below w2.heap.size w2 w3 := by rw [← hw3]; exact (Below.refl _ w2).alloc (Nat.le_refl _) _
      have d3 := (K1.out.db.els b2).below hb3
      have a3 := a2.below hb3
      have u3 := (K1.out.bu.trans (b2.mono fun b hb hy => hb (.inl hy))).trans (But.of (S := Els Y) hb3)
      have cY := eyield N1 N3 v1 T.length (encT T) (mo : Int) en.k en.m w3 (by omega) d3.b1 d3.b3 d3.ow
      have H3 : Hid (Db w3 N1 N2 N3 p v1 T mo ∧ Ag l w3 p (dropD D1 en.n) last (dY Y N1 N2 N3 v1) ∧ But (Els Y) w0 w3) := ⟨d3, a3, u3⟩
      have HE : Hid (Dr l.Ord D (T ++ [en]) (dropD D1 en.n)) := K1.out.dr.snoc hen hB
      have HV := K1.out.vb
      have t0 : w3.cell? ⟨w2.heap.size, 0, none⟩ = some (.int .i8 en.k) := by rw [← hw3]; exact (blk_new w2 [.int .i8 en.k, .int .i64 en.m] _).cell (i := 0) rfl
      have t1 : w3.cell? ⟨w2.heap.size, 1, none⟩ = some (.int .i64 en.m) := by rw [← hw3]; exact (blk_new w2 [.int .i8 en.k, .int .i64 en.m] _).cell (i := 1) rfl
      clear a2 b2 hb3 d3 a3 u3 c2
      unfold bxV at hw3
      unfold thV at cY
      go_wp2_with fail
      refine cY.mono ?_
      rintro e w4 ⟨rfl, v4, q1, q2, q3, q4⟩
      clear cY hw3 t0 t1
      obtain ⟨d3, a3, u3⟩ := H3.out
      obtain ⟨n21, n31, nv2, nv3⟩ := d3.n23
      have K4 : Hid (DrK l p last Y N1 N2 N3 mo D w0 w4 v4 (T ++ [en]) (dropD D1 en.n)) := by
        have hV4 : v4.ownBlock = none ∨ ∃ b, v4.ownBlock = some b ∧ w0.heap.size ≤ b := by
          rcases q4 with h | ⟨b, h, hb⟩
          · rw [h]; exact HV
          · exact .inr ⟨b, h, Nat.le_trans u3.size hb⟩
        refine ⟨⟨q1, d3.b2.but q3 (fun h => h.elim n21 nv2), d3.b3.but q3 (fun h => h.elim n31 nv3), ?_⟩, ?_, HE.out, ?_, hV4⟩
        · rw [encT_snoc, List.length_append]; exact q2
        · refine (a3.grow q3 (fun b hb => hb.elim (fun h => .inr (.inl h)) (fun h => .inr (.inr (.inr (.inr h)))))).less fun b hb => ?_
          rcases hb with h | h | h | h | h
          · exact .inl (.inl h)
          · exact .inl (.inr (.inl h))
          · exact .inl (.inr (.inr (.inl h)))
          · exact .inl (.inr (.inr (.inr (.inl h))))
          · rcases q4 with e | ⟨b', e, hb'⟩
            · exact .inl (.inr (.inr (.inr (.inr (by rw [← e]; exact h)))))
            · rw [e] at h; injection h with h; subst h
              exact .inr ⟨hb', (q2.lt b' e).2⟩
        · refine u3.onto q3 fun b hb => ?_
          rcases hb with rfl | hb
          · exact .inl hY1
          · rcases HV with h | ⟨b', h, hb'⟩
            · rw [h] at hb; cases hb
            · rw [h] at hb; injection hb with hb; subst hb; exact .inr hb'
      have ON4 : Hid (outN N1 w4 = T.length + 1) := by have := outN_eq K4.out.db; rw [List.length_append] at this; exact this
      clear d3 a3 u3 n21 n31 nv2 nv3 q1 q2 q3 q4 HE H3 K1
      by_cases hlt : T.length + 1 < mo
      · have hd : decide ((T.length : Int) + 1 < (mo : Int)) = true := by simp; omega
        rw [hd]
        go_wp2_with fail
        go_roundw
        case rel => exact ⟨v4, T ++ [en], _, by simp; omega, K4⟩
        case measure => rw [ON.out, ON4.out]; omega
      · have hd : decide ((T.length : Int) + 1 < (mo : Int)) = false := by simp; omega
        rw [hd]
        go_wp2_with fail
        refine bodyPost_ret (results_none rfl _ _ _) rfl ?_
        exact ⟨rfl, v4, T ++ [en], _, K4.out, by simp; omega, .inl (by simp; omega)⟩
end Go.Proofs.Ytafcgbahdfaiiaa
