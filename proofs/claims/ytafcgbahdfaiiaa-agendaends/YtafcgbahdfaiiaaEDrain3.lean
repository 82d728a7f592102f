/- drain, whole. -/
import Derived.Test.YtafcgbahdfaiiaaEDrain2
namespace Go.Proofs.Ytafcgbahdfaiiaa
open Go.RowKit Go.Sort
set_option maxRecDepth 100000

abbrev sqV (N2 : Nat) : Value := .func (.func 53) #[] #[ptr N2]
abbrev bx1 (w : World) (v : Value) (T : TypeId) : World := w.alloc (.cells #[v] T)
set_option maxHeartbeats 1000000 in
theorem eeach0 (a : Value) (g : Nat) (w : World) (ha : a = .func (.func 23) #[ptr g] #[]) : Calls Try.prog 47 #[a] w fun e w' => e = .returned (sqV w.heap.size) ∧ w' = bx1 w a 38 := by
  subst ha
  go_enter Try.func47, Try.ntmps47
  go_wp2_with fail
  go_ret
  exact ⟨rfl, rfl⟩
set_option maxHeartbeats 1000000 in
theorem eDrain (p : Nat) (w : World) : Calls Try.prog 40 #[ptr p] w fun e w' => e = .returned (sqV w.heap.size) ∧ w' = bx1 w (.func (.func 23) #[ptr p] #[]) 38 := by
  have c := eeach0 _ p w rfl
  go_enter Try.func40, Try.ntmps40
  go_wp2_with fail
  refine c.mono ?_
  rintro e w' ⟨rfl, rfl⟩
  go_wp2_with fail
  go_ret
  exact ⟨rfl, rfl⟩
theorem feach : ∀ args W, (callFunc 53 args).run Try.prog W = .ok (.enter 53 args) W := enters_of Try.func53 (by kernel_rfl) rfl
theorem nilS (N2 : Nat) (W : World) : (binOp .eql 77 (sqV N2) .nilFunc).run Try.prog W = .ok (.bool false) W := by kernel_rfl
/-- how many may be told -/
def moI (most : Int) : Nat := if most < 1 ∨ most > 120 then 120 else most.toNat
theorem moI_b (most : Int) : 0 < moI most ∧ moI most ≤ 120 := by unfold moI; split <;> omega
/-- what drain tells -/
structure Told (l : Le) (p last : Nat) (Y : Nat → Prop) (mo : Nat) (D : List En) (w w' : World) (v : Value) (T D' : List En) : Prop where
  ow : w'.ownsRow 0 27 2 v T.length (encT T)
  ag : Ag l w' p D' last (fun b => Y b ∨ v.ownBlock = some b)
  dr : Dr l.Ord D T D'
  le : T.length ≤ mo
  al : T.length = mo ∨ D' = []
  bu : But (Els Y) w w'
  vb : ∀ b, v.ownBlock = some b → w.heap.size ≤ b
set_option maxHeartbeats 2000000 in
theorem drainA {l : Le} {w : World} {p : Nat} {D : List En} {last : Nat} {Y : Nat → Prop} (a : Ag l w p D last Y) (most : Int) (hYw : ∀ b, Y b → b < w.heap.size) :
    Calls Try.prog 20 #[ptr p, .int .i64 most] w fun e w' => ∃ v T D', e = .returned v ∧ Told l p last Y (moI most) D w w' v T D' := by
  have hm := moI_b most
  have hf := feach
  obtain ⟨w1, hw1⟩ : ∃ w1, bx1 w (.int .i64 most) 3 = w1 := ⟨_, rfl⟩
  obtain ⟨w2, hw2⟩ : ∃ w2, bx1 w1 (.slice none 0 0) 43 = w2 := ⟨_, rfl⟩
  have s1 : w1.heap.size = w.heap.size + 1 := by rw [← hw1]; simp
  have s2 : w2.heap.size = w.heap.size + 2 := by rw [← hw2]; simp [s1]
  have cD := eDrain p w2
  obtain ⟨w3, hw3⟩ : ∃ w3, bx1 w2 (.func (.func 23) #[ptr p] #[]) 38 = w3 := ⟨_, rfl⟩
  rw [hw3] at cD
  have a1 : Ag l (bx1 w (.int .i64 most) 3) p D last _ := a.box _
  rw [hw1] at a1
  have a2 : Ag l (bx1 w1 (.slice none 0 0) 43) p D last _ := a1.box _
  rw [hw2] at a2
  have a3 : Ag l (bx1 w2 (.func (.func 23) #[ptr p] #[]) 38) p D last _ := a2.box _
  rw [hw3] at a3
  have b1 : Below w.heap.size w w1 := by rw [← hw1]; exact (Below.refl _ w).alloc (Nat.le_refl _) _
  have b2 : Below w1.heap.size w1 w2 := by rw [← hw2]; exact (Below.refl _ w1).alloc (Nat.le_refl _) _
  have b3 : Below w2.heap.size w2 w3 := by rw [← hw3]; exact (Below.refl _ w2).alloc (Nat.le_refl _) _
  have k3 : Blk w3 w.heap.size 3 [.int .i64 most] := ((show Blk w1 w.heap.size _ _ by rw [← hw1]; exact blk_new w _ _).below b2).below b3
  have k1 : Blk w3 w1.heap.size 43 [.slice none 0 0] := (show Blk w2 w1.heap.size _ _ by rw [← hw2]; exact blk_new w1 _ _).below b3
  have k2 : Blk w3 w2.heap.size 38 [.func (.func 23) #[ptr p] #[]] := by rw [← hw3]; exact blk_new w2 _ _
  have b03 : But (Els Y) w w3 := ((But.of b1).trans (But.of b2)).trans (But.of b3)
  -- behind the store
  have fin : ∀ W, (W = w3 ∧ (moI most : Int) = most) ∨ (W = w3.setCell ⟨w.heap.size, 0, none⟩ (.int .i64 120) ∧ moI most = 120) → Calls Try.prog 53 #[yV w1.heap.size w.heap.size, ptr w2.heap.size] W fun e w' => e = .returned (.tuple #[]) ∧ ∃ v' T D', DrK l p last Y w1.heap.size w2.heap.size w.heap.size (moI most) D W w' v' T D' ∧ T.length ≤ moI most ∧ (T.length = moI most ∨ D' = []) := by
    intro W hW
    have hag : Ag l W p D last (dY Y w1.heap.size w2.heap.size w.heap.size (.slice none 0 0)) ∧ Db W w1.heap.size w2.heap.size w.heap.size p (.slice none 0 0) [] (moI most) := by
      rcases hW with ⟨rfl, hmo⟩ | ⟨rfl, hmo⟩
      · refine ⟨a3.less fun b hb => ?_, ⟨k1, k2, by rw [hmo]; exact k3, World.ownsRow_nil _ _ _ _⟩⟩
        rcases hb with h | h | h | h | h
        · exact .inl (.inl (.inl h))
        · exact .inl (.inr h)
        · exact .inr h
        · exact .inl (.inl (.inr h))
        · cases h
      · have hb : But (fun b => b = w.heap.size) w3 (w3.setCell ⟨w.heap.size, 0, none⟩ (.int .i64 120)) := (But.refl (fun b => b = w.heap.size) w3).setCell (p := ⟨w.heap.size, 0, none⟩) rfl _
        refine ⟨(a3.but hb fun b h => .inl (.inl (.inr h))).less fun b hb => ?_, ⟨k1.setO (by omega) _, k2.setO (by omega) _, by rw [hmo]; exact k3.set 0 _, World.ownsRow_nil _ _ _ _⟩⟩
        rcases hb with h | h | h | h | h
        · exact .inl (.inl (.inl h))
        · exact .inl (.inr h)
        · exact .inr h
        · exact .inl (.inl (.inr h))
        · cases h
    exact eeach l p last Y _ _ _ (moI most) (by omega) D W (.slice none 0 0) ⟨hag.2, hag.1, .nil, But.refl _ _, .inl rfl⟩ hm.1 (fun hy => by have := hYw _ hy; omega)
  have endK : ∀ W W' v' T D', ((W = w3 ∧ (moI most : Int) = most) ∨ (W = w3.setCell ⟨w.heap.size, 0, none⟩ (.int .i64 120) ∧ moI most = 120)) → DrK l p last Y w1.heap.size w2.heap.size w.heap.size (moI most) D W W' v' T D' → T.length ≤ moI most → (T.length = moI most ∨ D' = []) → Told l p last Y (moI most) D w W' v' T D' := by
    intro W W' v' T D' hW hK h1 h2
    have hb : But (Els Y) w W ∧ w.heap.size ≤ W.heap.size := by
      rcases hW with ⟨rfl, _⟩ | ⟨rfl, _⟩
      · exact ⟨b03, b03.size⟩
      · exact ⟨b03.setNew (Nat.le_refl _) _, by rw [hs_set]; exact b03.size⟩
    refine ⟨hK.db.ow, hK.ag.less fun b hb => hb.elim .inl (fun h => .inr (.inr (.inr (.inr h)))), hK.dr, h1, h2, hb.1.trans hK.bu, fun b e => ?_⟩
    rcases hK.vb with h | ⟨b', h, hb'⟩
    · rw [h] at e; cases e
    · rw [h] at e; injection e with e; subst e; omega
  have HF : Hid (∀ W, (W = w3 ∧ (moI most : Int) = most) ∨ (W = w3.setCell ⟨w.heap.size, 0, none⟩ (.int .i64 120) ∧ moI most = 120) → Calls Try.prog 53 #[yV w1.heap.size w.heap.size, ptr w2.heap.size] W fun e w' => e = .returned (.tuple #[]) ∧ ∃ v' T D', DrK l p last Y w1.heap.size w2.heap.size w.heap.size (moI most) D W w' v' T D' ∧ T.length ≤ moI most ∧ (T.length = moI most ∨ D' = [])) := fin
  have HK : Hid (∀ W W' v' T D', ((W = w3 ∧ (moI most : Int) = most) ∨ (W = w3.setCell ⟨w.heap.size, 0, none⟩ (.int .i64 120) ∧ moI most = 120)) → DrK l p last Y w1.heap.size w2.heap.size w.heap.size (moI most) D W W' v' T D' → T.length ≤ moI most → (T.length = moI most ∨ D' = []) → Told l p last Y (moI most) D w W' v' T D') := endK
  have hns := nilS w2.heap.size
  have t3 := k3.cell (i := 0) rfl
  have tf := k3.fz
  have HMO : Hid (moI most = if most < 1 ∨ most > 120 then 120 else most.toNat) := rfl
  clear a a1 a2 a3 b1 b2 b3 b03 k1 k2 k3 fin endK s1 s2 hYw
  unfold bx1 at hw1 hw2 hw3
  generalize hN2 : w2.heap.size = N2 at *
  generalize hN1 : w1.heap.size = N1 at *
  generalize hN3 : w.heap.size = N3 at *
  go_enter Try.func20, Try.ntmps20
  go_wp2_with fail
  refine cD.mono ?_
  rintro e w' ⟨rfl, hw'⟩
  subst hw'
  clear cD hw1 hw2 hw3
  by_cases hmm : most < 1 ∨ most > 120
  · have emo : moI most = 120 := by rw [HMO.out, if_pos hmm]
    have cE := HF.out _ (.inr ⟨rfl, emo⟩)
    rcases hmm with h | h
    · go_wp2_with fail
      refine cE.mono ?_
      rintro e w5 ⟨rfl, v', T, D', hK, h1, h2⟩
      have hO := HK.out _ _ _ _ _ (.inr ⟨rfl, emo⟩) hK h1 h2
      have c1 := hK.db.b1.cell (i := 0) rfl
      obtain ⟨ad, cp, hv'⟩ := eown_form hK.db.ow
      subst hv'
      have HO : Hid (Told l p last Y (moI most) D w w5 (.slice ad T.length cp) T D') := hO
      clear cE hK hO h2
      go_wp2_with fail
      go_ret
      exact ⟨_, T, D', rfl, HO.out⟩
    · have hnot : ¬ most < 1 := by omega
      go_wp2_with fail
      refine cE.mono ?_
      rintro e w5 ⟨rfl, v', T, D', hK, h1, h2⟩
      have hO := HK.out _ _ _ _ _ (.inr ⟨rfl, emo⟩) hK h1 h2
      have c1 := hK.db.b1.cell (i := 0) rfl
      obtain ⟨ad, cp, hv'⟩ := eown_form hK.db.ow
      subst hv'
      have HO : Hid (Told l p last Y (moI most) D w w5 (.slice ad T.length cp) T D') := hO
      clear cE hK hO h2
      go_wp2_with fail
      go_ret
      exact ⟨_, T, D', rfl, HO.out⟩
  · have emo : (moI most : Int) = most := by rw [HMO.out, if_neg hmm]; omega
    have cE := HF.out _ (.inl ⟨rfl, emo⟩)
    have hn1 : ¬ most < 1 := fun h => hmm (.inl h)
    have hn2 : ¬ most > 120 := fun h => hmm (.inr h)
    have hn3 : ¬ (120 : Int) < most := hn2
    clear hmm
    have HEM : Hid ((moI most : Int) = most) := emo
    clear emo
    go_wp2_with fail
    refine cE.mono ?_
    rintro e w5 ⟨rfl, v', T, D', hK, h1, h2⟩
    have hO := HK.out _ _ _ _ _ (.inl ⟨rfl, HEM.out⟩) hK h1 h2
    have c1 := hK.db.b1.cell (i := 0) rfl
    obtain ⟨ad, cp, hv'⟩ := eown_form hK.db.ow
    subst hv'
    have HO : Hid (Told l p last Y (moI most) D w w5 (.slice ad T.length cp) T D') := hO
    clear cE hK hO h2
    go_wp2_with fail
    go_ret
    exact ⟨_, T, D', rfl, HO.out⟩
end Go.Proofs.Ytafcgbahdfaiiaa
