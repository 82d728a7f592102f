/- The document's set: a message is another one. -/
import Derived.Test.YtilahfomiofgcaaJRef
import Derived.Test.YtilahfomiofgcaaGRows
import Derived.Test.YtilahfomiofgcaaJQuiet
import Derived.Deep.Onto
namespace Go.Proofs.Ytilahfomiofgcaa
open Go.RowKit Go.Sort
set_option maxRecDepth 100000

theorem eltMr : Elt 61 72 7 56 (.agg #[.int .u64 0, .int .i64 0, .bool false, .int .i64 0, .int .u64 0, .int .i64 0, .int .i64 0]) := ⟨Try.underlying61, by kernel_rfl, rfl, by decide, by decide⟩
theorem run_append_src {t e : TypeId} {size bytes : Nat} {z : Value} (E0 : Elt t e size bytes z) {w : World} (ty : TypeId) (base : Nat) (v u : Value) (n m : Nat) (xs ys : List Value)
    (hown : w.ownsRow base e size v n xs) (hu : Src w u m ys) (hl2 : ys.length = m * size) (h1 : ∀ y ∈ ys, y.oneCell' = true) (hl : n + m ≤ 1000000) (hbase : base ≤ w.heap.size) :
    ∃ v' w', (Builtin.append_ #[t, t] ty #[v, u]).run Try.prog w = .ok v' w' ∧ w'.ownsRow base e size v' (n + m) (xs ++ ys) ∧ w.grownBy w' v.ownBlock := by
  obtain ⟨i0, hi, hz0, hz1, hz2⟩ := info_parts E0.hi
  rcases hu with ⟨rfl, rfl⟩ | ⟨g, off, c, rfl, hc⟩
  · have hys : ys = [] := List.length_eq_zero_iff.1 (by rw [hl2, Nat.zero_mul])
    subst hys
    exact ⟨v, w, run_append_owned_none (P := Try.prog) (w := w) base t ty e i0 size E0.ht hi v n xs hown, by simpa using hown, World.grownBy.refl w _⟩
  · have h64 : (n + m) * bytes ≤ 140737488355328 := by
      have := Nat.mul_le_mul hl E0.hb
      omega
    obtain ⟨v', w', h2, h3, h4, _⟩ := run_append_own_at (P := Try.prog) w base t ty e i0 z size bytes E0.ht hi hz0 hz1 hz2 E0.hz E0.hs v n xs hown ⟨g, off, none⟩ m c ys hl2 (fun j y hj => by rw [Go.WideShapes.add_plain]; exact hc j y hj) h1 (by unfold maxLen; omega) h64 hbase
    exact ⟨v', w', h2, h3, h4⟩
theorem encR_one (st : Int) (l : List Ms) : ∀ y ∈ encR st l, y.oneCell' = true := by
  intro y hy
  obtain ⟨m, _, hm⟩ := List.mem_flatMap.1 hy
  simp [mrC] at hm
  rcases hm with rfl | rfl | rfl | rfl | rfl | rfl | rfl <;> rfl
theorem encR_set {st : Int} {l : List Ms} {i : Nat} {m : Ms} (h : i < l.length) : encR st (l.set i m) = (((((((encR st l).set (i * 7) (.int .u64 (sqI st m.k))).set (i * 7 + 1) (.int .i64 (m.is : Int))).set (i * 7 + 2) (.bool m.laid)).set (i * 7 + 3) (.int .i64 m.n)).set (i * 7 + 4) (.int .u64 m.g)).set (i * 7 + 5) (.int .i64 m.tk)).set (i * 7 + 6) (.int .i64 m.sp) := by
  induction l generalizing i with
  | nil => simp at h
  | cons a l ih =>
    cases i with
    | zero => rw [List.set_cons_zero, encR_cons, encR_cons]; rfl
    | succ i =>
      rw [List.set_cons_succ, encR_cons, encR_cons, ih (by simpa using h)]
      have e : ∀ (j : Nat) (v : Value) (xs : List Value), (mrC st a ++ xs).set ((i + 1) * 7 + j) v = mrC st a ++ xs.set (i * 7 + j) v := fun j v xs => by
        rw [List.set_append, if_neg (by simp [mrC]; omega)]
        congr 2
        simp [mrC]
        omega
      have e0 := fun (v : Value) (xs : List Value) => e 0 v xs
      simp only [Nat.add_zero] at e0
      rw [e0, e, e, e, e, e, e]
section
variable {w w' : World} {r : Nat} {rv : Value} {A : La} {l : List Ms}
/-- the row is another one -/
theorem rq_put {base : Nat} {A' : La} {u v : Value} {l' : List Ms} (bl : w.heap[r]? = some (.cells #[.int .i64 (A'.cr : Int), .bool A'.two, .int .u64 (sqI A'.st A'.c), .int .u64 A'.ep, u] 63 (0, 0))) (o : w.ownsRow base 72 7 v l'.length (encR A'.st l')) (hne : ¬ v.ownBlock = some r) :
    Rq (w.setCell ⟨r, 4, none⟩ v) r v A' l' :=
  ⟨heap_setCell_same w r 4 _ _ v bl, (ownsRow_setCell_other o (a := ⟨r, 4, none⟩) (fun h => hne h) v).mono (Nat.zero_le _), hne⟩
theorem own_7 {base : Nat} {e : TypeId} {g cap n : Nat} {st : Int} {i : Nat} (m : Ms) (o : w.ownsRow base e 7 (.slice (some ⟨g, 0, none⟩) n cap) n (encR st l)) (hi : i < l.length) :
    ((((((((w.setCell ⟨g, i * 7, none⟩ (.int .u64 (sqI st m.k))).setCell ⟨g, i * 7 + 1, none⟩ (.int .i64 (m.is : Int))).setCell ⟨g, i * 7 + 2, none⟩ (.bool m.laid)).setCell ⟨g, i * 7 + 3, none⟩ (.int .i64 m.n)).setCell ⟨g, i * 7 + 4, none⟩ (.int .u64 m.g)).setCell ⟨g, i * 7 + 5, none⟩ (.int .i64 m.tk)).setCell ⟨g, i * 7 + 6, none⟩ (.int .i64 m.sp)).ownsRow base e 7 (.slice (some ⟨g, 0, none⟩) n cap) n (encR st (l.set i m))) ∧
    w.grownBy (((((((w.setCell ⟨g, i * 7, none⟩ (.int .u64 (sqI st m.k))).setCell ⟨g, i * 7 + 1, none⟩ (.int .i64 (m.is : Int))).setCell ⟨g, i * 7 + 2, none⟩ (.bool m.laid)).setCell ⟨g, i * 7 + 3, none⟩ (.int .i64 m.n)).setCell ⟨g, i * 7 + 4, none⟩ (.int .u64 m.g)).setCell ⟨g, i * 7 + 5, none⟩ (.int .i64 m.tk)).setCell ⟨g, i * 7 + 6, none⟩ (.int .i64 m.sp)) (some g) := by
  rw [encR_set hi]
  have h1 := o.stored (i * 7) (.int .u64 (sqI st m.k))
  have h2 := h1.1.stored (i * 7 + 1) (.int .i64 (m.is : Int))
  have h3 := h2.1.stored (i * 7 + 2) (.bool m.laid)
  have h4 := h3.1.stored (i * 7 + 3) (.int .i64 m.n)
  have h5 := h4.1.stored (i * 7 + 4) (.int .u64 m.g)
  have h6 := h5.1.stored (i * 7 + 5) (.int .i64 m.tk)
  have h7 := h6.1.stored (i * 7 + 6) (.int .i64 m.sp)
  exact ⟨h7.1, (((((h1.2.trans h2.2).trans h3.2).trans h4.2).trans h5.2).trans h6.2).trans h7.2⟩
theorem Rq.src (x : Rq w r rv A l) : Src w rv l.length (encR A.st l) := gsrc_own x.ow
end
def mrV (st : Int) (m : Ms) : Value := .agg #[.int .u64 (sqI st m.k), .int .i64 (m.is : Int), .bool m.laid, .int .i64 m.n, .int .u64 m.g, .int .i64 m.tk, .int .i64 m.sp]
set_option maxHeartbeats 4000000 in
theorem rset (w : World) (r : Nat) (rv : Value) (A : La) (l : List Ms) (x : Rq w r rv A l) (hl : l.length ≤ 1000) (i : Nat) (hi : i < l.length) (m : Ms) :
    Calls Try.prog 34 #[pV r, .int .i64 (i : Int), mrV A.st m] w fun v w' => v = .returned (.tuple #[]) ∧ RGo w r rv w' A (l.set i m) := by
  obtain ⟨a0, cap0, hv0⟩ := x.form
  subst hv0
  obtain ⟨B1, hB1⟩ : ∃ o : Obj, o = .cells #[.int .u64 (sqI A.st m.k), .int .i64 (m.is : Int), .bool m.laid, .int .i64 m.n, .int .u64 m.g, .int .i64 m.tk, .int .i64 m.sp] 72 := ⟨_, rfl⟩
  have hb1 := jalloc (Below.refl _ w) B1
  have nw := fun k hk => jnew_at w #[.int .u64 (sqI A.st m.k), .int .i64 (m.is : Int), .bool m.laid, .int .i64 m.n, .int .u64 m.g, .int .i64 m.tk, .int .i64 m.sp] 72 k hk
  rw [← hB1] at nw
  have hs1 : (w.alloc B1).heap.size = w.heap.size + 1 := by simp
  have o2 := gown_0 (w.alloc B1) (w.heap.size + 1) 72 7 (by omega)
  have x2 := (x.below hb1).below (jalloc (Below.refl _ _) (.cells #[] 72))
  have c4 := x2.cell 4
  simp only [List.getElem?_toArray, List.getElem?_cons_succ, List.getElem?_cons_zero] at c4
  obtain ⟨v', w3, hrun, own3, gr3⟩ := run_append_src eltMr (w := (w.alloc B1).alloc (.cells #[] 72)) 61 (w.heap.size + 1) _ _ 0 l.length [] (encR A.st l) o2 x2.src (encR_len _ _) (encR_one _ _) (by omega) (by simp)
  rw [Nat.zero_add, List.nil_append] at own3
  have gb : (Value.slice (some ⟨(w.alloc B1).heap.size, 0, none⟩) 0 0).ownBlock = some (w.heap.size + 1) := by rw [hs1]; rfl
  rw [gb] at gr3
  obtain ⟨g, cap, hv, hg1⟩ : ∃ g cap, v' = .slice (some ⟨g, 0, none⟩) l.length cap ∧ w.heap.size + 1 ≤ g := by
    rcases own3.2 with ⟨_, hn⟩ | ⟨g, cap, cur, rfl, h, _⟩
    · omega
    · exact ⟨g, cap, rfl, h⟩
  subst hv
  have hrl := x.lt
  have bl3 : w3.heap[r]? = some (.cells #[.int .i64 (A.cr : Int), .bool A.two, .int .u64 (sqI A.st A.c), .int .u64 A.ep, .slice a0 l.length cap0] 63 (0, 0)) := by
    rw [gr3.block r x2.lt (by simp; omega)]
    exact x2.bl
  have hbox : ∀ k v, #[Value.int .u64 (sqI A.st m.k), .int .i64 (m.is : Int), .bool m.laid, .int .i64 m.n, .int .u64 m.g, .int .i64 m.tk, .int .i64 m.sp][k]? = some v → w3.cell? ⟨w.heap.size, k, none⟩ = some v := fun k v hv => by
    have hk := (Array.getElem?_eq_some_iff.1 hv)
    rw [World.cell?_of_block (w := (w.alloc B1).alloc (.cells #[] 72)) (a := ⟨w.heap.size, k, none⟩) (gr3.block _ (by simp; omega) (by simp))]
    refine jcells (jalloc (Below.refl _ _) _) ?_
    rw [nw k hk.1]
    exact congrArg some hk.2
  have hgr : ¬ (Value.slice (some ⟨g, 0, none⟩) l.length cap).ownBlock = some r := by simp [Value.ownBlock]; omega
  have R4 := rq_put bl3 own3 hgr
  have k4 : w3.cell? ⟨r, 4, none⟩ = some (.slice a0 l.length cap0) := cell_of_row _ _ 4 _ _ (0, 0) bl3
  have f4 : w3.frozen? ⟨r, 4, none⟩ = false := by simp [World.frozen?, bl3]
  have hbox4 : ∀ k v, #[Value.int .u64 (sqI A.st m.k), .int .i64 (m.is : Int), .bool m.laid, .int .i64 m.n, .int .u64 m.g, .int .i64 m.tk, .int .i64 m.sp][k]? = some v → (w3.setCell ⟨r, 4, none⟩ (.slice (some ⟨g, 0, none⟩) l.length cap)).cell? ⟨w.heap.size, k, none⟩ = some v := fun k v hv => by
    rw [World.cell?_setCell_other _ _ _ _ (by intro h; injection h with h1 _ _; omega)]
    exact hbox k v hv
  have E3 : Below w.heap.size w w3 := (jalloc (jalloc (Below.refl _ w) B1) (.cells #[] 72)).grown gr3 (by simp; omega) (fun k e => by have := Option.some.inj e; omega)
  have E4 : But (fun b => b = r) w (w3.setCell ⟨r, 4, none⟩ (.slice (some ⟨g, 0, none⟩) l.length cap)) := (But.of E3).trans ⟨rfl, rfl, rfl, by simp [World.setCell], fun k hk hne => Below.heap_setCell _ _ _ _ hne⟩
  have HR4 : Hid (Rq (w3.setCell ⟨r, 4, none⟩ (.slice (some ⟨g, 0, none⟩) l.length cap)) r (.slice (some ⟨g, 0, none⟩) l.length cap) A l) := R4
  have HE4 : Hid (But (fun b => b = r) w (w3.setCell ⟨r, 4, none⟩ (.slice (some ⟨g, 0, none⟩) l.length cap))) := E4
  have HB4 : Hid (∀ k v, #[Value.int .u64 (sqI A.st m.k), .int .i64 (m.is : Int), .bool m.laid, .int .i64 m.n, .int .u64 m.g, .int .i64 m.tk, .int .i64 m.sp][k]? = some v → (w3.setCell ⟨r, 4, none⟩ (.slice (some ⟨g, 0, none⟩) l.length cap)).cell? ⟨w.heap.size, k, none⟩ = some v) := hbox4
  have HG : Hid (w.heap.size + 1 ≤ g) := hg1
  rw [hs1] at hrun
  subst hB1
  clear x2 x hb1 nw hs1 o2 own3 gr3 gb hg1 hrl bl3 hbox hgr R4 hbox4 E3 E4
  unfold mrV
  go_enter Try.func34, Try.ntmps34
  go_wp2_with (at_builtin; refine wpList_append_run rfl _ _ _ rfl _ _ _ rfl rfl hrun ?_)
  clear hrun k4 f4 c4
  generalize w3.setCell ⟨r, 4, none⟩ (.slice (some ⟨g, 0, none⟩) l.length cap) = w4 at *
  generalize hD : w.heap.size = D at *
  have r4 := HR4.out.cell 4
  simp only [List.getElem?_toArray, List.getElem?_cons_succ, List.getElem?_cons_zero] at r4
  have r4 := cell_regrown r4
  have b0 := cell_regrown (HB4.out 0 _ rfl)
  have b1 := cell_regrown (HB4.out 1 _ rfl)
  have b2 := cell_regrown (HB4.out 2 _ rfl)
  have b3 := cell_regrown (HB4.out 3 _ rfl)
  have b4 := cell_regrown (HB4.out 4 _ rfl)
  have b5 := cell_regrown (HB4.out 5 _ rfl)
  have b6 := cell_regrown (HB4.out 6 _ rfl)
  refine wp_region_quiet_last (by simp) (by kernel_rfl) (by kernel_rfl) (by kernel_rfl) ?_
  dsimp only [List.dropLast, List.getLast]
  repeat (go_big_quiet_step (fail))
  refine wpQuiet_nil ?_
  intro _ hw'
  obtain ⟨⟨dq, osq⟩, hw''⟩ := hw'
  subst hw''
  have R5 := HR4.out.below (below_regrown w4 dq osq)
  have HE5 : Hid (But (fun b => b = r) w (grow (redrawn w4 dq) osq)) := HE4.out.trans (But.of (below_regrown w4 dq osq))
  clear r4 b0 b1 b2 b3 b4 b5 b6 HR4 HE4 HB4
  generalize grow (redrawn w4 dq) osq = w5 at *
  obtain ⟨m0, hm0⟩ : ∃ m0, l[i]? = some m0 := ⟨l[i], List.getElem?_eq_getElem hi⟩
  obtain ⟨g2, cap2, hv2, _, _, c0, c1, c2, c3, c4, c5, c6⟩ := R5.at_ hm0
  injection hv2 with hv2 hv3 hv4
  injection hv2 with hv2
  injection hv2 with hv2 _ _
  subst hv2 hv4
  clear hv3
  have fz := fun j => R5.ow.frozenAt j
  obtain ⟨own6, gr6⟩ := own_7 m R5.ow hi
  have bl6 := (gr6.block r R5.lt (by simp; have := HG.out; have := R5.ne; simp [Value.ownBlock] at this; omega)).trans R5.bl
  have HF : Hid (RGo w r (.slice a0 l.length cap0) (((((((w5.setCell ⟨g, i * 7, none⟩ (.int .u64 (sqI A.st m.k))).setCell ⟨g, i * 7 + 1, none⟩ (.int .i64 (m.is : Int))).setCell ⟨g, i * 7 + 2, none⟩ (.bool m.laid)).setCell ⟨g, i * 7 + 3, none⟩ (.int .i64 m.n)).setCell ⟨g, i * 7 + 4, none⟩ (.int .u64 m.g)).setCell ⟨g, i * 7 + 5, none⟩ (.int .i64 m.tk)).setCell ⟨g, i * 7 + 6, none⟩ (.int .i64 m.sp)) A (l.set i m)) := by
    refine ⟨.slice (some ⟨g, 0, none⟩) l.length cap, ⟨bl6, by rw [List.length_set]; exact own6, R5.ne⟩, ?_, fun b e => ?_⟩
    · refine ⟨gr6.os.trans HE5.out.os, gr6.tape.trans HE5.out.tape, gr6.output.trans HE5.out.output, Nat.le_trans HE5.out.size gr6.size, fun k hk hne => ?_⟩
      rw [gr6.block k (Nat.lt_of_lt_of_le hk HE5.out.size) (by simp; have := HG.out; omega)]
      exact HE5.out.block k hk hne
    · have := HG.out
      simp [Value.ownBlock] at e
      right
      omega
  clear R5 own6 gr6 bl6 HE5 hm0
  intro K hK
  go_simp
  refine hK _ _ ?_
  clear hK
  go_wp2_with fail
  exact bodyPost_end (results_none rfl _ _ _) rfl ⟨rfl, HF.out⟩
end Go.Proofs.Ytilahfomiofgcaa
