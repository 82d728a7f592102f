/- An agenda is drained: the statements' own yield, and what it gathers. -/
import Derived.Test.YtafcgbahdfaiiaaEAlive
import Derived.Test.YtafcgbahdfaiiaaJSeq
namespace Go.Proofs.Ytafcgbahdfaiiaa
open Go.RowKit Go.Sort
set_option maxRecDepth 100000

/-- one behind the other was told: T; D' is left -/
def Dr (Ord : Prop) (D T D' : List En) : Prop :=
  ∀ R : List En → List En → Prop, R [] D → (∀ T D' e, R T D' → e ∈ D' → (Ord → IsB D' e) → R (T ++ [e]) (dropD D' e.n)) → R T D'
theorem Dr.nil {Ord : Prop} {D : List En} : Dr Ord D [] D := fun _ h _ => h
theorem Dr.snoc {Ord : Prop} {D T D' : List En} {e : En} (h : Dr Ord D T D') (he : e ∈ D') (hb : Ord → IsB D' e) : Dr Ord D (T ++ [e]) (dropD D' e.n) := fun R h0 h1 => h1 T D' e (h R h0 h1) he hb
theorem Dr.ind {Ord : Prop} {D T D' : List En} (h : Dr Ord D T D') {M : List En → List En → Prop} (h0 : M [] D)
    (h1 : ∀ T D' e, Dr Ord D T D' → e ∈ D' → (Ord → IsB D' e) → M T D' → M (T ++ [e]) (dropD D' e.n)) : M T D' :=
  (h (fun T D' => Dr Ord D T D' ∧ M T D') ⟨.nil, h0⟩ fun T D' e k he hb => ⟨k.1.snoc he hb, h1 T D' e k.1 he hb k.2⟩).2
theorem Dr.back {Ord : Prop} {D T D' : List En} (h : Dr Ord D T D') : (T = [] ∧ D' = D) ∨ ∃ T0 D0 e, T = T0 ++ [e] ∧ D' = dropD D0 e.n ∧ Dr Ord D T0 D0 ∧ e ∈ D0 ∧ (Ord → IsB D0 e) :=
  h.ind (M := fun T D' => (T = [] ∧ D' = D) ∨ ∃ T0 D0 e, T = T0 ++ [e] ∧ D' = dropD D0 e.n ∧ Dr Ord D T0 D0 ∧ e ∈ D0 ∧ (Ord → IsB D0 e)) (.inl ⟨rfl, rfl⟩) fun T D' e k he hb _ => .inr ⟨T, D', e, rfl, rfl, k, he, hb⟩
theorem Dr.srt {Ord : Prop} {D T D' : List En} (h : Dr Ord D T D') (s : Srt D) : Srt D' :=
  h.ind (M := fun _ D' => Srt D') s fun _ _ _ _ _ _ ih => drop_srt ih _
theorem Dr.len {Ord : Prop} {D T D' : List En} (h : Dr Ord D T D') (s : Srt D) : T.length + D'.length = D.length :=
  h.ind (M := fun T D' => T.length + D'.length = D.length) (by simp) fun T D' e k he _ ih => by
    have := drop_len (k.srt s) he
    rw [List.length_append, List.length_singleton]; omega
theorem Dr.mem {Ord : Prop} {D T D' : List En} (h : Dr Ord D T D') : ∀ y, y ∈ T → y ∈ D := by
  have : (∀ y, y ∈ D' → y ∈ D) ∧ ∀ y, y ∈ T → y ∈ D :=
    h.ind (M := fun T D' => (∀ y, y ∈ D' → y ∈ D) ∧ ∀ y, y ∈ T → y ∈ D) ⟨fun _ h => h, fun _ h => by simp at h⟩ fun T D' e k he _ ih => by
      refine ⟨fun y hy => ih.1 y (mem_drop.1 hy).1, fun y hy => ?_⟩
      rcases List.mem_append.1 hy with hy | hy
      · exact ih.2 y hy
      · rw [List.mem_singleton.1 hy]; exact ih.1 _ he
  exact this.2
/-- in order, the one of a length is one -/
theorem Dr.uniq {D T T2 D1 D2 : List En} (h : Dr True D T D1) (k : Dr True D T2 D2) (s : Srt D) (hl : T.length = T2.length) : T = T2 ∧ D1 = D2 :=
  h.ind (M := fun T D1 => ∀ T2 D2, Dr True D T2 D2 → T.length = T2.length → T = T2 ∧ D1 = D2) (fun T2 D2 k hl => by
    rcases k.back with ⟨rfl, rfl⟩ | ⟨T0, D0, e, rfl, _⟩
    · exact ⟨rfl, rfl⟩
    · simp at hl) (fun T D' e h he hb ih T2 D2 k hl => by
    rcases k.back with ⟨rfl, rfl⟩ | ⟨T0, D0, e0, rfl, rfl, k, ke, kb⟩
    · simp at hl
    · obtain ⟨rfl, rfl⟩ := ih T0 D0 k (by simpa using hl)
      have := isB_uniq (h.srt s) (hb trivial) (kb trivial)
      subst this
      exact ⟨rfl, rfl⟩) T2 D2 k hl
def encT (T : List En) : List Value := T.flatMap fun e => [.int .i8 e.k, .int .i64 e.m]
theorem encT_app (D E : List En) : encT (D ++ E) = encT D ++ encT E := by simp [encT]
theorem infoTh : (Try.prog.info? 27).map (fun i => (i.zero, i.size, i.bytes)) = some (some (.agg #[.int .i8 0, .int .i64 0]), 2, 16) := by kernel_rfl

section
variable {l : Le} {w w' : World} {p : Nat} {D : List En} {last : Nat} {Y : Nat → Prop}
/-- what is new is nobody's -/
theorem Ag.grow {S : Nat → Prop} (a : Ag l w p D last Y) (h : But S w w') (hS : ∀ b, S b → Y b) : Ag l w' p D last (fun b => Y b ∨ (w.heap.size ≤ b ∧ b < w'.heap.size)) := by
  obtain ⟨ok, o, A, x', e⟩ := a.but h hS
  obtain ⟨_, o2, A2, x2, _⟩ := a
  have a' := Ag.but (⟨ok, o2, A2, x2, rfl⟩ : Ag l w p D A2.last Y) h hS
  refine ⟨ok, o2, A2, ⟨x2.pb.but h fun hs => (x2.ny p (hS p hs)).2.2.1 rfl, x2.rx.but h fun b hb hs => (x2.ny b (hS b hs)).2.1 hb, x2.lv, ok.st _ _ _ x2.j (h.mono fun b hs hx => (x2.ny b (hS b hs)).2.2.2 hx), x2.nx, fun b hb => ?_, x2.np, x2.dn, x2.hp⟩, ‹A2.last = last›⟩
  rcases hb with hb | hb
  · exact ⟨Nat.lt_of_lt_of_le (x2.ny b hb).1 h.size, (x2.ny b hb).2⟩
  · exact ⟨hb.2, fun hh => by have := x2.rx.lt hh; omega, fun e => by have := x2.pb.lt; omega, fun hx => by have := ok.lt _ _ _ x2.j hx; omega⟩
end

abbrev yV (N1 N3 : Nat) : Value := .func (.func 41) #[] #[ptr N1, ptr N3]
set_option maxHeartbeats 1000000 in
theorem eyield (N1 N3 : Nat) (v : Value) (n : Nat) (xs : List Value) (mo : Int) (k m : Int) (W : World) (hn : n ≤ 100000) (h1 : Blk W N1 43 [v]) (h3 : Blk W N3 3 [.int .i64 mo]) (hv : W.ownsRow 0 27 2 v n xs) :
    Calls Try.prog 41 #[thV k m, ptr N1, ptr N3] W fun e W' => e = .returned (.bool (decide ((n : Int) + 1 < mo))) ∧ ∃ v', Blk W' N1 43 [v'] ∧ W'.ownsRow 0 27 2 v' (n + 1) (xs ++ [.int .i8 k, .int .i64 m]) ∧ But (fun b => b = N1 ∨ v.ownBlock = some b) W W' ∧ (v'.ownBlock = v.ownBlock ∨ ∃ b, v'.ownBlock = some b ∧ W.heap.size ≤ b) := by
  obtain ⟨i0, hi, hz0, hz1, hz2⟩ := info_parts infoTh
  obtain ⟨a, cap, hva⟩ := eown_form hv
  have nv1 : v.ownBlock ≠ some N1 := fun e => by
    have h1' : W.heap[N1]? = _ := h1
    rcases hv.2 with ⟨h, _⟩ | ⟨g, cap, cur, h, _, hg, _⟩
    · rw [h] at e; cases e
    · rw [h] at e; simp [Value.ownBlock] at e; subst e; rw [hg] at h1'; injection h1' with h1'; injection h1' with _ h1'; cases h1'
  have nv3 : v.ownBlock ≠ some N3 := fun e => by
    have h1' : W.heap[N3]? = _ := h3
    rcases hv.2 with ⟨h, _⟩ | ⟨g, cap, cur, h, _, hg, _⟩
    · rw [h] at e; cases e
    · rw [h] at e; simp [Value.ownBlock] at e; subst e; rw [hg] at h1'; injection h1' with h1'; injection h1' with _ h1'; cases h1'
  have n13 : N3 ≠ N1 := by
    rintro rfl
    have h1' : W.heap[N3]? = _ := h1
    have h3' : W.heap[N3]? = _ := h3
    rw [h1'] at h3'; injection h3' with h3'; injection h3' with _ h3'; cases h3'
  obtain ⟨w1, hw1⟩ : ∃ w1, bxV W k m = w1 := ⟨_, rfl⟩
  have b1 : Below W.heap.size W w1 := by rw [← hw1]; exact (Below.refl _ W).alloc (Nat.le_refl _) _
  obtain ⟨w2, hw2⟩ : ∃ w2, bxV w1 k m = w2 := ⟨_, rfl⟩
  have b2 : Below w1.heap.size w1 w2 := by rw [← hw2]; exact (Below.refl _ w1).alloc (Nat.le_refl _) _
  have b12 : Below W.heap.size W w2 := Below.onto b1 b2
  have k1 := (h1.below b1).cell (i := 0) rfl
  have t0 : w1.cell? ⟨W.heap.size, 0, none⟩ = some (.int .i8 k) := by rw [← hw1]; exact (blk_new W [.int .i8 k, .int .i64 m] _).cell (i := 0) rfl
  have t1 : w1.cell? ⟨W.heap.size, 1, none⟩ = some (.int .i64 m) := by rw [← hw1]; exact (blk_new W [.int .i8 k, .int .i64 m] _).cell (i := 1) rfl
  have hnews : ∀ j u, [Value.int .i8 k, .int .i64 m][j]? = some u → w2.cell? ((⟨w1.heap.size, 0, none⟩ : Addr).add j) = some u := fun j u hj => by
    rw [Go.WideShapes.add_plain, Nat.zero_add, ← hw2]
    exact (blk_new w1 [.int .i8 k, .int .i64 m] _).cell hj
  obtain ⟨v', w3, hrun, hown, hgrow, _, hloc⟩ := run_append_own_at (P := Try.prog) (w := w2) 0 43 43 27 i0 (.agg #[.int .i8 0, .int .i64 0]) 2 16 Try.underlying43 hi hz0 hz1 hz2 rfl (by decide) v n xs (eown_block hv fun b hb => b12.block b (hv.lt b hb).2) ⟨w1.heap.size, 0, none⟩ 1 1 [.int .i8 k, .int .i64 m] rfl hnews (by simp [Value.oneCell']) (by unfold maxLen; omega) (by omega) (Nat.zero_le _)
  have hN1 : Blk w3 N1 43 [v] := (h1.below b12).same (hgrow.block N1 (h1.below b12).lt (Ne.symm nv1))
  have hN3 : Blk w3 N3 3 [.int .i64 mo] := (h3.below b12).same (hgrow.block N3 (h3.below b12).lt (Ne.symm nv3))
  have hvN : v'.ownBlock ≠ some N1 := by
    rcases hloc with h | h
    · rw [h]; exact nv1
    · rw [h]; intro e; injection e with e; have := h1.lt; have := b12.size; omega
  have g4 := hN1.set 0 v'
  have g0 := hN1.cell (i := 0) rfl
  have gf := hN1.fz
  have g1 := g4.cell (i := 0) (v := v') rfl
  have g3 := (hN3.setO (b' := N1) (i := 0) n13 v').cell (i := 0) rfl
  have HR : Hid (Blk (w3.setCell ⟨N1, 0, none⟩ v') N1 43 [v'] ∧ (w3.setCell ⟨N1, 0, none⟩ v').ownsRow 0 27 2 v' (n + 1) (xs ++ [.int .i8 k, .int .i64 m]) ∧ But (fun b => b = N1 ∨ v.ownBlock = some b) W (w3.setCell ⟨N1, 0, none⟩ v') ∧ (v'.ownBlock = v.ownBlock ∨ ∃ b, v'.ownBlock = some b ∧ W.heap.size ≤ b)) := by
    refine ⟨g4, own_setO hown hvN _, ?_, hloc.imp id fun h => ⟨_, h, b12.size⟩⟩
    refine ((But.of b12).trans ⟨hgrow.os, hgrow.tape, hgrow.output, hgrow.size, fun b hb hn => hgrow.block b hb fun e => hn (.inr e.symm)⟩).setCell (p := ⟨N1, 0, none⟩) (.inl rfl) v'
  obtain ⟨g', cap', hv'⟩ := ownsRow_succ hown
  have HW : Hid (bxV W k m = w1 ∧ bxV w1 k m = w2) := ⟨hw1, hw2⟩
  clear b1 b2 b12 hnews hown hgrow hloc hN1 hN3 g4 h1 h3 hv hi hz0 hz1 hz2 nv1 nv3
  subst hva hv'
  unfold bxV at hw1 hw2
  generalize hM : w1.heap.size = M at *
  generalize hN : W.heap.size = N at *
  unfold thV
  go_enter Try.func41, Try.ntmps41
  go_wp2_with (at_builtin; refine wpList_append_run rfl (.tmp 5) (.tmp 7) 43 rfl _ _ _ rfl rfl hrun ?_)
  go_ret
  exact ⟨by simp, _, HR.out⟩
end Go.Proofs.Ytafcgbahdfaiiaa
