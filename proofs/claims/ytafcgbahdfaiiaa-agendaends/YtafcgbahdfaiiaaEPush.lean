/- An entry is laid at a row's end; the one at its end is taken away. -/
import Derived.Test.YtafcgbahdfaiiaaELeave
import Derived.Test.YtafcgbahdfaiiaaJSeq
import Derived.Maps.AppendAt
namespace Go.Proofs.Ytafcgbahdfaiiaa
open Go.RowKit Go.Sort
set_option maxRecDepth 100000

theorem infoEn : (Try.prog.info? 70).map (fun i => (i.zero, i.size, i.bytes)) = some (some (.pointer none), 1, 8) := by kernel_rfl
theorem ecell_one (w : World) (v : Value) (T : TypeId) : ∀ j u, [v][j]? = some u → (w.alloc (.cells #[v] T)).cell? ((⟨w.heap.size, 0, none⟩ : Addr).add j) = some u := by
  intro j u h
  match j, h with
  | 0, h => cases h; rw [Go.WideShapes.add_plain]; exact (blk_new w [v] T).cell (i := 0) rfl
  | j + 1, h => simp at h
abbrev puW (w : World) (B n : Nat) : World := (w.setCell ⟨B, 3, none⟩ (.int .i64 (n : Int))).alloc (.cells #[ptr B] 70)
set_option maxHeartbeats 1000000 in
theorem epush_w (r B : Nat) (v : Value) (n : Nat) (xs : List Value) (w : World) (hn : n ≤ 1000000) (e3 : Value)
    (h1 : w.cell? ⟨r, 1, none⟩ = some v) (f1 : w.frozen? ⟨r, 1, none⟩ = false) (hv : w.ownsRow 0 70 1 v n xs) (b3 : w.cell? ⟨B, 3, none⟩ = some e3) (f3 : w.frozen? ⟨B, 3, none⟩ = false) (hrB : r ≠ B) (hvr : v.ownBlock ≠ some r) (hvB : v.ownBlock ≠ some B) :
    Calls Try.prog 74 #[ptr r, .iface 70 (ptr B)] w fun e w' => e = .returned (.tuple #[]) ∧ ∃ v' w3, w3.ownsRow 0 70 1 v' (n + 1) (xs ++ [ptr B]) ∧ (puW w B n).grownBy w3 v.ownBlock ∧ (v'.ownBlock = v.ownBlock ∨ v'.ownBlock = some (puW w B n).heap.size) ∧ w' = w3.setCell ⟨r, 1, none⟩ v' := by
  obtain ⟨i0, hi, hz0, hz1, hz2⟩ := info_parts infoEn
  have hva : ∃ a cap, v = .slice a n cap := by
    rcases hv.2 with ⟨rfl, rfl⟩ | ⟨g, cap, cur, rfl, _⟩
    · exact ⟨none, 0, rfl⟩
    · exact ⟨_, cap, rfl⟩
  have hl : r < (w.setCell ⟨B, 3, none⟩ (.int .i64 (n : Int))).heap.size := by rw [hs_set]; exact cell_lt h1
  have hb := (Below.refl (w.setCell ⟨B, 3, none⟩ (.int .i64 (n : Int))).heap.size (w.setCell ⟨B, 3, none⟩ (.int .i64 (n : Int)))).alloc (Nat.le_refl _) (.cells #[ptr B] 70)
  have HC : (puW w B n).cell? ⟨r, 1, none⟩ = some v ∧ (puW w B n).frozen? ⟨r, 1, none⟩ = false ∧ r < (puW w B n).heap.size := by
    refine ⟨(hb.cell (p := ⟨r, 1, none⟩) hl).trans ((cell_set_ne (.inl hrB)).trans h1), ?_, Nat.lt_of_lt_of_le hl hb.size⟩
    have := World.frozen?_of_block (w := w.setCell ⟨B, 3, none⟩ (.int .i64 (n : Int))) (a := ⟨r, 1, none⟩) (hb.block r hl)
    exact this.trans (fz_set.trans f1)
  have HE : ∀ j u, [ptr B][j]? = some u → (puW w B n).cell? ((⟨w.heap.size, 0, none⟩ : Addr).add j) = some u := by
    have h := ecell_one (w.setCell ⟨B, 3, none⟩ (.int .i64 (n : Int))) (ptr B) 70
    rw [hs_set] at h
    exact h
  obtain ⟨v', w3, hrun, hown, hgrow, _, hloc⟩ := run_append_own_at (P := Try.prog) (w := puW w B n) 0 83 83 70 i0 (.pointer none) 1 8 Try.underlying83 hi hz0 hz1 hz2 rfl (by decide) v n xs ((own_setO hv hvB _).alloc _) ⟨w.heap.size, 0, none⟩ 1 1 [ptr B] rfl HE (by simp [Value.oneCell']) (by unfold maxLen; omega) (by omega) (Nat.zero_le _)
  have hc1 := hgrow.cell (a := ⟨r, 1, none⟩) HC.1 (Ne.symm hvr)
  have hf1 : w3.frozen? ⟨r, 1, none⟩ = false := (World.frozen?_of_block (a := ⟨r, 1, none⟩) (hgrow.block r HC.2.2 (Ne.symm hvr))).trans HC.2.1
  have HR : Hid (w3.ownsRow 0 70 1 v' (n + 1) (xs ++ [ptr B]) ∧ (puW w B n).grownBy w3 v.ownBlock ∧ (v'.ownBlock = v.ownBlock ∨ v'.ownBlock = some (puW w B n).heap.size)) := ⟨hown, hgrow, hloc⟩
  obtain ⟨g', cap', hv'⟩ := ownsRow_succ hown
  have hta : ∀ W : World, (Instr.typeAssert (.iface 70 (ptr B)) 20 70 false).run Try.prog W = .ok (ptr B) W := fun W => by kernel_rfl
  obtain ⟨a, cap, hva⟩ := hva
  subst hva hv'
  clear hv hvr hvB HC HE hown hgrow hloc hb hl hi hz0 hz1 hz2
  go_enter Try.func74, Try.ntmps74
  go_wp2_with (at_builtin; refine wpList_append_run rfl (.tmp 19) (.tmp 21) 83 rfl _ _ _ rfl rfl hrun ?_)
  refine bodyPost_end (results_none rfl _ _ _) rfl ?_
  exact ⟨rfl, _, w3, HR.out.1, HR.out.2.1, HR.out.2.2, rfl⟩

/-- a new entry has its number, its block, its place in the map, and is not in the row yet -/
structure Py (w : World) (o : Ro) (A : Ar) (B : Nat) (k m : Int) : Prop where
  rb : Blk w o.r 85 [o.lv, o.ev, .map (some o.bm), .int .i64 ((A.last + 1 : Nat) : Int)]
  ow : w.ownsRow 0 70 1 o.ev A.n (pts A o.bl)
  en : ∀ i, i < A.n → Blk w (o.bl (A.f i).n) 74 (enC (A.f i) i)
  mp : Mq w o.bm o.ml o.bl
  ms : ∀ x, x ∈ o.ml ↔ (∃ i, i < A.n ∧ (A.f i).n = x) ∨ x = A.last + 1
  ml : o.ml.length ≤ A.last + 1
  ok : A.Ok
  lb : A.last + 1 ≤ 1000000
  kb : -128 ≤ k ∧ k ≤ 127
  bB : o.bl (A.last + 1) = B
  eB : ∃ q, Blk w B 74 (enC ⟨k, m, A.last + 1⟩ q)
  nB : ∀ i, i < A.n → o.bl (A.f i).n ≠ B
def Ar.add (A : Ar) (k m : Int) : Ar := { f := fun j => if j = A.n then ⟨k, m, A.last + 1⟩ else A.f j, n := A.n + 1, last := A.last + 1 }
theorem add_lt {A : Ar} {k m : Int} {j : Nat} (h : j < A.n) : (A.add k m).f j = A.f j := if_neg (by omega)
theorem add_at (A : Ar) (k m : Int) : (A.add k m).f A.n = ⟨k, m, A.last + 1⟩ := if_pos rfl
theorem add_cases {A : Ar} {k m : Int} {j : Nat} (h : j < (A.add k m).n) : j < A.n ∨ j = A.n := by have : j < A.n + 1 := h; omega
theorem Ar.Ok.add {A : Ar} (h : A.Ok) {k m : Int} (hk : -128 ≤ k ∧ k ≤ 127) (hl : A.last + 1 ≤ 1000000) : (A.add k m).Ok := by
  refine ⟨fun i j hi hj e => ?_, fun i hi => ?_, ?_, fun i hi => ?_, hl⟩
  · rcases add_cases hi with hi | hi <;> rcases add_cases hj with hj | hj
    · rw [add_lt hi, add_lt hj] at e; exact h.inj i j hi hj e
    · subst hj; rw [add_lt hi, add_at] at e; have := h.nb i hi; simp only at e; omega
    · subst hi; rw [add_lt hj, add_at] at e; have := h.nb j hj; simp only at e; omega
    · omega
  · show 1 ≤ _ ∧ _ ≤ A.last + 1
    rcases add_cases hi with hi | hi
    · rw [add_lt hi]; have := h.nb i hi; omega
    · subst hi; rw [add_at]; simp only; omega
  · show A.n + 1 ≤ A.last + 1
    have := h.nl; omega
  · rcases add_cases hi with hi | hi
    · rw [add_lt hi]; exact h.kb i hi
    · subst hi; rw [add_at]; exact hk
theorem pts_add {A : Ar} {g : Nat → Nat} {k m : Int} : pts A g ++ [ptr (g (A.last + 1))] = pts (A.add k m) g := by
  apply List.ext_getElem?
  intro j
  by_cases hj : j < A.n
  · rw [List.getElem?_append_left (by rw [pts_len]; exact hj), pts_at hj, pts_at (A := A.add k m) (by show j < A.n + 1; omega), add_lt hj]
  · rw [List.getElem?_append_right (by rw [pts_len]; omega), pts_len]
    by_cases e : j = A.n
    · subst e
      rw [pts_at (A := A.add k m) (by show A.n < A.n + 1; omega), add_at]
      simp
    · rw [List.getElem?_eq_none (by simp; omega), List.getElem?_eq_none (by rw [pts_len]; show A.n + 1 ≤ j; omega)]
section
variable {w : World} {o : Ro} {A : Ar} {B : Nat} {k m : Int}
theorem Py.ne (y : Py w o A B k m) : o.r ≠ B ∧ o.ev.ownBlock ≠ some o.r ∧ o.ev.ownBlock ≠ some B ∧ o.r ≠ o.bm ∧ B ≠ o.bm ∧ o.ev.ownBlock ≠ some o.bm ∧ (∀ i, i < A.n → o.bl (A.f i).n ≠ o.r ∧ o.bl (A.f i).n ≠ o.bm ∧ o.ev.ownBlock ≠ some (o.bl (A.f i).n)) := by
  have hr : w.heap[o.r]? = _ := y.rb
  obtain ⟨es, c, hm, _⟩ := y.mp
  obtain ⟨q, hq⟩ := y.eB
  have hB : w.heap[B]? = _ := hq
  have hev : ∀ b, o.ev.ownBlock = some b → ∃ cur, w.heap[b]? = some (.cells cur 70 (0, 0)) := fun b hb => by
    rcases y.ow.2 with ⟨h, hn⟩ | ⟨g, cap, cur, h, _, hg, _⟩
    · rw [h] at hb; cases hb
    · rw [h] at hb; simp [Value.ownBlock] at hb; subst hb; exact ⟨cur, hg⟩
  refine ⟨fun e => ?_, fun e => ?_, fun e => ?_, fun e => ?_, fun e => ?_, fun e => ?_, fun i hi => ⟨fun e => ?_, fun e => ?_, fun e => ?_⟩⟩
  · rw [e, hB] at hr; injection hr with hr; injection hr with _ hr; cases hr
  · obtain ⟨cur, h⟩ := hev _ e; rw [h] at hr; injection hr with hr; injection hr with _ hr; cases hr
  · obtain ⟨cur, h⟩ := hev _ e; rw [h] at hB; injection hB with hB; injection hB with _ hB; cases hB
  · rw [e, hm] at hr; cases hr
  · rw [e, hm] at hB; cases hB
  · obtain ⟨cur, h⟩ := hev _ e; rw [h] at hm; cases hm
  · have h : w.heap[_]? = _ := y.en i hi; rw [e, hr] at h; injection h with h; injection h with _ h; cases h
  · have h : w.heap[_]? = _ := y.en i hi; rw [e, hm] at h; cases h
  · obtain ⟨cur, h'⟩ := hev _ e; have h : w.heap[_]? = _ := y.en i hi; rw [h'] at h; injection h with h; injection h with _ h; cases h
theorem epush_rx (y : Py w o A B k m) {v' : Value} {w3 : World} (hown : w3.ownsRow 0 70 1 v' (A.n + 1) (pts A o.bl ++ [ptr B])) (hg : (puW w B A.n).grownBy w3 o.ev.ownBlock) (hloc : v'.ownBlock = o.ev.ownBlock ∨ v'.ownBlock = some (puW w B A.n).heap.size) :
    Rx (w3.setCell ⟨o.r, 1, none⟩ v') { o with ev := v' } (A.add k m) ∧ But (fun b => o.has A b ∨ b = B) w (w3.setCell ⟨o.r, 1, none⟩ v') ∧ ∀ b, Ro.has { o with ev := v' } (A.add k m) b → (o.has A b ∨ b = B) ∨ w.heap.size ≤ b := by
  obtain ⟨n1, n2, n3, n4, n5, n6, n7⟩ := y.ne
  obtain ⟨q, hq⟩ := y.eB
  have hsz : (puW w B A.n).heap.size = w.heap.size + 1 := by simp [puW, World.setCell]
  have kp : ∀ b, b < w.heap.size → b ≠ B → o.ev.ownBlock ≠ some b → w3.heap[b]? = w.heap[b]? := fun b hb h1 h2 =>
    (hg.block b (by omega) (Ne.symm h2)).trans ((Below.heap_alloc _ _ _ (by rw [hs_set]; exact hb)).trans (Below.heap_setCell _ _ _ _ h1))
  have hB3 : Blk w3 B 74 (enC ⟨k, m, A.last + 1⟩ A.n) := by
    have h := hq.set 3 (.int .i64 (A.n : Int))
    rw [enC_set] at h
    exact h.same ((hg.block B (by have := hq.lt; omega) (Ne.symm n3)).trans (Below.heap_alloc _ _ _ (by rw [hs_set]; exact hq.lt)))
  have hr3 : Blk w3 o.r 85 [o.lv, o.ev, .map (some o.bm), .int .i64 ((A.last + 1 : Nat) : Int)] := y.rb.same (kp _ y.rb.lt n1 n2)
  have hvr : v'.ownBlock ≠ some o.r := by
    rcases hloc with h | h
    · rw [h]; exact n2
    · rw [h]; intro e; injection e with e; have := y.rb.lt; omega
  have hmp : Mq w3 o.bm o.ml o.bl := y.mp.same (kp _ y.mp.lt (Ne.symm n5) n6)
  refine ⟨⟨?_, ?_, ?_, ?_, ?_, y.ml, y.ok.add y.kb y.lb⟩, ?_, ?_⟩
  · exact hr3.set 1 v'
  · show World.ownsRow _ 0 _ 1 v' (A.n + 1) (pts (A.add k m) o.bl)
    rw [← pts_add, y.bB]
    exact own_setO hown hvr _
  · intro j hj
    show Blk _ (o.bl ((A.add k m).f j).n) _ _
    rcases add_cases hj with hj | hj
    · rw [add_lt hj]
      exact ((y.en j hj).same (kp _ (y.en j hj).lt (y.nB j hj) (n7 j hj).2.2)).setO (n7 j hj).1 _
    · subst hj
      rw [add_at, y.bB]
      exact hB3.setO (Ne.symm n1) _
  · exact hmp.same (Below.heap_setCell _ _ _ _ (Ne.symm n4))
  · intro z
    show z ∈ o.ml ↔ _
    rw [y.ms]
    constructor
    · rintro (⟨i, hi, e⟩ | rfl)
      · exact ⟨i, by show i < A.n + 1; omega, by rw [add_lt hi]; exact e⟩
      · exact ⟨A.n, by show A.n < A.n + 1; omega, by rw [add_at]⟩
    · rintro ⟨i, hi, e⟩
      rcases add_cases hi with hi | hi
      · rw [add_lt hi] at e; exact .inl ⟨i, hi, e⟩
      · subst hi; rw [add_at] at e; exact .inr e.symm
  · refine ⟨hg.os, hg.tape, hg.output, by rw [hs_set]; have := hg.size; omega, fun b hb hnb => ?_⟩
    have h1 : b ≠ B := fun h => hnb (.inr h)
    have h2 : o.ev.ownBlock ≠ some b := fun h => hnb (.inl (.inr (.inr (.inl h))))
    have h3 : b ≠ o.r := fun h => hnb (.inl (.inl h))
    exact (Below.heap_setCell _ _ _ _ h3).trans (kp b hb h1 h2)
  · rintro b (h | h | h | ⟨j, hj, h⟩)
    · exact .inl (.inl (.inl h))
    · exact .inl (.inl (.inr (.inl h)))
    · rcases hloc with e | e
      · exact .inl (.inl (.inr (.inr (.inl (e ▸ h)))))
      · have h' : v'.ownBlock = some b := h
        rw [e] at h'; injection h' with h'
        exact .inr (by omega)
    · rcases add_cases hj with hj | hj
      · rw [add_lt hj] at h
        exact .inl (.inl (.inr (.inr (.inr ⟨j, hj, h⟩))))
      · subst hj
        rw [add_at] at h
        exact .inl (.inr (h.symm.trans y.bB))
end
end Go.Proofs.Ytafcgbahdfaiiaa
