/- Reset. -/
import Derived.Test.YtilahfomiofgcaaJSent
namespace Go.Proofs.Ytilahfomiofgcaa
open Go.RowKit Go.Lib
open Go.Sort hiding Below
set_option maxRecDepth 100000

set_option maxHeartbeats 1000000 in
theorem jreset_no (o : Lo) (A : La) (w : World) (x : Lx w o A) (hC : A.C.length ≠ 0) :
    Calls Try.prog 24 #[o.ptr] w fun e w' => e = .returned (.tuple #[.slice none 0 0, .int .i64 84]) ∧ Below w.heap.size w w' := by
  have cI := jis o A w x
  have r4 := cell_regrown x.lc.c4
  have r5 := cell_regrown x.lc.c5
  have hne : ¬ sqI A.st A.r = sqI A.st A.c := fun e => by
    have h1 := x.ok.bd
    have h2 := x.ok.hr
    have := sq_inj (s := A.st) (a := A.r) (b := A.c) (by omega) (by omega) e
    omega
  clear x
  generalize sqI A.st A.r = qr at *
  generalize sqI A.st A.c = qc at *
  go_enter Try.func24, Try.ntmps24
  go_wp2_with fail
  refine cI.mono ?_
  rintro v w' ⟨rfl, hw'⟩
  subst hw'
  go_wp2_with fail
  refine wp_region_quiet_below (by kernel_rfl) (by kernel_rfl) ?_
  repeat (go_big_quiet_step (fail))
  refine wpQuiet_nil ?_
  intro _ hw'
  obtain ⟨⟨dq, osq⟩, hw''⟩ := hw'
  subst hw''
  go_wp2_with fail
  go_ret2
  exact ⟨rfl, below_regrown w' dq osq⟩
/-- slots in a row -/
def encSl (l : List Ms) : List Value := l.flatMap fun m => [.int .i64 m.n, .int .u64 m.g]
theorem encSl_app (l k : List Ms) : encSl (l ++ k) = encSl l ++ encSl k := by simp [encSl]
theorem encSl_len (l : List Ms) : (encSl l).length = l.length * 2 := by
  induction l with
  | nil => rfl
  | cons m l ih => simp [encSl] at ih ⊢; omega
theorem Try.infoSl : (Try.prog.info? 36).map (fun i => (i.zero, i.size, i.bytes)) = some (some (.agg #[.int .i64 0, .int .u64 0]), 2, 16) := by kernel_rfl
theorem holds_at {W : World} {B : Nat} {st : Int} {l : List Ms} (h : HoldsK (encT st) 6 W B 0 (l.map mtOf).toArray) {j : Nat} {m : Ms} (hj : l[j]? = some m) (hk : m.k ≤ 1000000) :
    W.cell? ⟨B, j * 6, none⟩ = some (.int .u64 (sqI st m.k)) ∧ W.cell? ⟨B, j * 6 + 1, none⟩ = some (.int .i64 m.n) ∧ W.cell? ⟨B, j * 6 + 2, none⟩ = some (.int .u64 m.g) ∧ W.cell? ⟨B, j * 6 + 3, none⟩ = some (.bool m.laid) ∧ W.cell? ⟨B, j * 6 + 4, none⟩ = some (.int .i64 m.tk) ∧ W.cell? ⟨B, j * 6 + 5, none⟩ = some (.int .i64 m.sp) := by
  have hlt := (List.getElem?_eq_some_iff.1 hj).1
  have hjs : j < ((l.map mtOf).toArray).size := by simpa using hlt
  have e1 : (l.map mtOf).toArray[j]! = mtOf m := by
    have := (List.getElem?_eq_some_iff.1 hj).2
    simp [hlt, this]
  have hc := fun c (hc : c < 6) => (h.cell hjs (c := c) hc).1
  rw [e1, encT_of st hk] at hc
  simp only [Nat.zero_add] at hc
  exact ⟨hc 0 (by decide), hc 1 (by decide), hc 2 (by decide), hc 3 (by decide), hc 4 (by decide), hc 5 (by decide)⟩
/-- the ring is cleared -/
theorem Pt.wipe {w : World} {p : Nat} {f : Nat → Value} (h : Pt w p f) (ty : TypeId) : ∃ w' f', (Builtin.clear_ #[58] ty #[.slice (some ⟨p, 6, none⟩) 64 64]).run Try.prog w = .ok (.tuple #[]) w' ∧ Pt w' p f' ∧ (∀ i, (i < 6 ∨ 390 ≤ i) → i < 392 → f' i = f i) ∧ But (fun b => b = p) w w' ∧ w'.heap.size = w.heap.size ∧ ∀ i, i ≠ p → w'.heap[i]? = w.heap[i]? := by
  obtain ⟨cur, T, hb, hs⟩ := h.bl
  have hz : (zeroValue 56).run Try.prog w = .ok msZ w := zeroMs w
  obtain ⟨zs, hzs⟩ : ∃ zs, (Builtin.zeroCells msZ.cells 64).toList = zs := ⟨_, rfl⟩
  have hzl : zs.length = 384 := by rw [← hzs]; simp [Builtin.zeroCells, msZ, Value.cells]
  have h1 : ∀ v ∈ zs, v.oneCell' = true := by
    rw [← hzs]
    intro v hv
    simp only [Builtin.zeroCells, Array.toList_map, List.mem_map] at hv
    obtain ⟨i, _, rfl⟩ := hv
    have h6 : i % msZ.cells.size < 6 := Nat.mod_lt _ (by decide)
    generalize i % msZ.cells.size = j at h6
    match j, h6 with
    | 0, _ => rfl
    | 1, _ => rfl
    | 2, _ => rfl
    | 3, _ => rfl
    | 4, _ => rfl
    | 5, _ => rfl
  have hst := run_storeCells_at Try.prog p 6 T zs 0 cur w hb (by omega) h1
  obtain ⟨row, hrow⟩ : ∃ row, (cur.toList.take (6 + 0) ++ zs ++ cur.toList.drop (6 + 0 + zs.length)).toArray = row := ⟨_, rfl⟩
  rw [hrow] at hst
  have hrs : row.size = 392 := by rw [← hrow]; simp [hzl, hs]
  have hat : ∀ i, (i < 6 ∨ 390 ≤ i) → row[i]? = cur[i]? := fun i hi => by
    rw [← hrow, List.getElem?_toArray, ← Array.getElem?_toList]
    have hcl : cur.toList.length = 392 := by simpa using hs
    have h6 : (cur.toList.take (6 + 0)).length = 6 := by rw [List.length_take]; omega
    rcases hi with hi | hi
    · rw [List.append_assoc, List.getElem?_append_left (by omega), List.getElem?_take_of_lt (by omega)]
    · rw [List.getElem?_append_right (by rw [List.length_append]; omega), List.getElem?_drop]
      congr 1
      rw [List.length_append]
      omega
  have hbl : (w.setRow p row).heap[p]? = some (.cells row T (0, 0)) := setRow_heap w p _ _ _ _ hb
  have hoth : ∀ i, i ≠ p → (w.setRow p row).heap[i]? = w.heap[i]? := fun i hi => setRow_other w p i row hi
  refine ⟨w.setRow p row, fun i => row[i]?.getD undef, ?_, ⟨⟨row, T, hbl, hrs⟩, fun i hi => ?_⟩, fun i hi h392 => ?_, ⟨rfl, rfl, rfl, by simp [World.setRow], fun k _ hk => hoth k hk⟩, by simp [World.setRow], hoth⟩
  · simp [Builtin.clear_, run_underlying Try.underlying58, hz, hzs, hst]
  · rw [cell_of_row _ _ i _ T (0, 0) hbl, Array.getElem?_eq_getElem (by omega)]
    rfl
  · have h2 := h.at_ i h392
    rw [cell_of_row _ _ i _ T (0, 0) hb] at h2
    simp only [hat i hi, h2]
    rfl
theorem wpList_clear_run {P : Program} {ops : Array Oper} {rest : List Oper} {o : Oper} {a : Act} {w w' : World} {Q : Exit → Act → World → Prop} (hg : o.guard = none) (s : Operand) (t : TypeId) (hop : o.op = .call { callee := .builtin .clear, args := #[s], argTypes := #[t] })
    (v v' : Value) (hs : a.eval s = v) (hrun : (Builtin.clear_ #[t] o.type #[v]).run P w = .ok v' w') (h : wpList P ops Q rest (a.put o.dst v') w') : wpList P ops Q (o :: rest) a w := by
  refine wpList_plain hg fun K hK => ?_
  unfold Oper.wp execOp
  simp only [hop, resolve, invoke, builtin, Sem.run_bind, Sem.run_pure, Result.andThen_ok, List.map_toArray, List.map_cons, List.map_nil, hs, hrun]
  exact hK _ _ h
/-- all are gone -/
theorem Lx.gone {w w' : World} {o : Lo} {A : La} (x : Lx w o A) (hC : A.C.length = 0) {f' : Nat → Value} (hf : ∀ i, (i < 6 ∨ 390 ≤ i) → i < 392 → f' i = o.f i)
    (pt : Pt w' o.p (upd (upd (upd f' 391 (.slice none 0 0)) 3 (.int .u64 (sqI A.st A.c))) 2 (.int .u64 ((A.ep + 1) % 18446744073709551616)))) (mp : Mp w' o.bm A.st []) :
    Lx w' { o with f := upd (upd (upd f' 391 (.slice none 0 0)) 3 (.int .u64 (sqI A.st A.c))) 2 (.int .u64 ((A.ep + 1) % 18446744073709551616)), tl := [], hl := [], hv := .slice none 0 0 } (resA A) := by
  have es : resA A = { A with T := [], P := [], ep := (A.ep + 1) % 18446744073709551616 } := by unfold resA; rw [if_pos hC]
  have ok := resA_ok x.ok
  have hr := x.ok.hr
  rw [es] at ok ⊢
  have g : ∀ i, i ≠ 2 → i ≠ 3 → i ≠ 391 → (i < 6 ∨ 390 ≤ i) → i < 392 → upd (upd (upd f' 391 (.slice none 0 0)) 3 (.int .u64 (sqI A.st A.c))) 2 (.int .u64 ((A.ep + 1) % 18446744073709551616)) i = o.f i := fun i h2 h3 h391 hi h392 => by rw [upd_ne h2, upd_ne h3, upd_ne h391]; exact hf i hi h392
  have hC0 : A.C = [] := List.length_eq_zero_iff.1 hC
  have u2 := upd_at (upd (upd f' 391 (.slice none 0 0)) 3 (.int .u64 (sqI A.st A.c))) 2 (.int .u64 ((A.ep + 1) % 18446744073709551616))
  have u3 : upd (upd (upd f' 391 (.slice none 0 0)) 3 (.int .u64 (sqI A.st A.c))) 2 (.int .u64 ((A.ep + 1) % 18446744073709551616)) 3 = .int .u64 (sqI A.st A.c) := by
    rw [upd_ne (by decide)]
    exact upd_at (upd f' 391 (.slice none 0 0)) 3 (.int .u64 (sqI A.st A.c))
  have u9 : upd (upd (upd f' 391 (.slice none 0 0)) 3 (.int .u64 (sqI A.st A.c))) 2 (.int .u64 ((A.ep + 1) % 18446744073709551616)) 391 = .slice none 0 0 := by
    rw [upd_ne (by decide), upd_ne (by decide)]
    exact upd_at f' 391 (.slice none 0 0)
  refine ⟨pt, ⟨?_, ?_, ?_, ?_, ?_, ?_, ?_, ?_, ?_⟩, mp, World.ownsRow_nil _ _ _ _, by simp, by simp, x.ne, ok⟩
  · exact (g 0 (by decide) (by decide) (by decide) (.inl (by decide)) (by decide)).trans x.lf.f0
  · exact (g 1 (by decide) (by decide) (by decide) (.inl (by decide)) (by decide)).trans x.lf.f1
  · exact u2
  · refine u3.trans ?_
    congr 2
    simp [La.h, hC0]
  · refine (g 4 (by decide) (by decide) (by decide) (.inl (by decide)) (by decide)).trans (x.lf.f4.trans ?_)
    congr 2
  · exact (g 5 (by decide) (by decide) (by decide) (.inl (by decide)) (by decide)).trans x.lf.f5
  · intro m hm
    simp [hC0] at hm
  · exact (g 390 (by decide) (by decide) (by decide) (.inr (by decide)) (by decide)).trans x.lf.cm
  · exact u9
end Go.Proofs.Ytilahfomiofgcaa
