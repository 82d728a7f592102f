/- Rows of messages: made, copied, sorted; a map that is ranged over. -/
import Derived.Test.YtilahfomiofgcaaJSort
import Derived.Test.YtilahfomiofgcaaJSeq
import Derived.Laws.MakeOwn
import Derived.Lib.OwnBridge
namespace Go.Proofs.Ytilahfomiofgcaa
open Go.RowKit Go.Lib
open Go.Sort hiding Below
set_option maxRecDepth 100000

def mkC (n : Nat) : Array Value := madeCells msZ.cells (n * 6)
theorem mkC_size (n : Nat) : (mkC n).size = n * 6 := by simp [mkC, madeCells]
theorem make_msgs (w : World) (n : Nat) (hn : n ≤ 200000) : Sem.run Try.prog (Instr.makeSlice 58 (.int .u64 (n : Int)) (.int .u64 (n : Int))) w = .ok (.slice (some ⟨w.heap.size, 0, none⟩) n n) (w.alloc (.cells (mkC n) 56)) := by
  obtain ⟨i0, hi, hz0, hz1, hz2⟩ := info_parts Try.infoMs
  have := run_make (P := Try.prog) w 58 56 i0 _ Try.underlying58 hi hz0 .u64 .u64 n n (by omega) (Int.le_refl _) (by rw [hz2]; omega) (by omega)
  rw [hz1] at this
  exact this
theorem run_copy6 (w : World) (ty : TypeId) (g oo dLen dCap : Nat) (a : Addr) (sLen sCap m : Nat) (cur : Array Value) (T : TypeId) (cs : List Value) (hn : Nat.min sLen dLen = m) (hl : cs.length = m * 6)
    (hg : w.heap[g]? = some (.cells cur T (0, 0))) (hsrc : ∀ j v, cs[j]? = some v → w.cell? (a.add j) = some v) (hfit : oo + cs.length ≤ cur.size) (h1 : ∀ v ∈ cs, v.oneCell' = true) :
    (Builtin.copy_ #[58, 58] ty #[.slice (some ⟨g, oo, none⟩) dLen dCap, .slice (some a) sLen sCap]).run Try.prog w =
      .ok (.int .i64 (m : Int)) (w.setRow g (cur.toList.take oo ++ cs ++ cur.toList.drop (oo + cs.length)).toArray) := by
  have hld := run_loadCells_list (P := Try.prog) w a cs hsrc
  have hst := run_storeCells_at Try.prog g oo T cs 0 cur w hg (by simpa using hfit) h1
  obtain ⟨i0, hi, hz0, hz1, hz2⟩ := info_parts Try.infoMs
  rw [hl] at hld
  simp [Builtin.copy_, run_underlying Try.underlying58, Builtin.lenOf, Builtin.firstCells, sizeOf, typeInfo, hi, hz1, hn, hld, hst, goInt]
theorem jsetRow {B g : Nat} {w0 w : World} (hb : Below B w0 w) (hBg : B ≤ g) (cs : Array Value) : Below B w0 (w.setRow g cs) :=
  hb.trans ⟨rfl, rfl, rfl, by simp [World.setRow], fun k hk => setRow_other w g k cs (by omega)⟩
/-- a copy whose run is known -/
theorem wp_copy_run {P : Program} {o : Oper} {a : Act} {w w' : World} {K : Act → World → Prop} {Q : Exit → Act → World → Prop} (s x : Operand) (t : TypeId) (hop : o.op = .call { callee := .builtin .copy, args := #[s, x], argTypes := #[t, t] })
    (v u v' : Value) (hs : a.eval s = v) (hx : a.eval x = u) (hrun : (Builtin.copy_ #[t, t] o.type #[v, u]).run P w = .ok v' w') (h : K (a.put o.dst v') w') : o.wp P a w K Q := by
  unfold Oper.wp execOp
  simp only [hop, resolve, invoke, builtin, Sem.run_bind, Sem.run_pure, Result.andThen_ok, List.map_toArray, List.map_cons, List.map_nil, hs, hx, hrun]
  exact h
theorem slice_ring (p z : Nat) (hz : z < 64) (W : World) : (Instr.sliceAt 57 (.pointer (some ⟨p, 6, none⟩)) (some (.int .i64 (z : Int))) none none).run Try.prog W = .ok (.slice (some ⟨p, 6 + z * 6, none⟩) (64 - z) (64 - z)) W := by
  have h1 : Try.prog.arrayLen 57 = 64 := by kernel_rfl
  have h2 : Try.prog.elem 57 = 56 := by kernel_rfl
  have hu : Try.prog.underlying 57 = some (.array (Try.prog.arrayLen 57) (Try.prog.elem 57)) := by rw [h1, h2]; exact Try.underlying57
  have := run_sliceAt_array_l (P := Try.prog) W 57 ⟨p, 6, none⟩ hu .i64 (z : Int) (by omega) (by rw [h1]; omega)
  rw [this, h1, h2]
  simp only [Try.sizeOf56, Result.andThen, slicedAt]
  rw [show ((z : Int)).toNat = z by omega, if_neg (by omega), Go.WideShapes.add_plain]
theorem slice_ring0 (p : Nat) (W : World) : (Instr.sliceAt 57 (.pointer (some ⟨p, 6, none⟩)) none none none).run Try.prog W = .ok (.slice (some ⟨p, 6, none⟩) 64 64) W := by
  have h1 : Try.prog.arrayLen 57 = 64 := by kernel_rfl
  have h2 : Try.prog.elem 57 = 56 := by kernel_rfl
  have hu : Try.prog.underlying 57 = some (.array (Try.prog.arrayLen 57) (Try.prog.elem 57)) := by rw [h1, h2]; exact Try.underlying57
  have := run_sliceAt_array_all (P := Try.prog) W 57 ⟨p, 6, none⟩ hu
  rw [this, h1, h2]
  simp only [Try.sizeOf56, Result.andThen, slicedAt]
  rfl
theorem slice_row (G n m : Nat) (hm : m ≤ n) (W : World) : (Instr.sliceAt 58 (.slice (some ⟨G, 0, none⟩) n n) (some (.int .i64 (m : Int))) none none).run Try.prog W = .ok (.slice (some ⟨G, if n = m then 0 else m * 6, none⟩) (n - m) (n - m)) W := by
  have h2 : Try.prog.elem 58 = 56 := by kernel_rfl
  have hu : Try.prog.underlying 58 = some (.slice (Try.prog.elem 58)) := by rw [h2]; exact Try.underlying58
  rw [run_sliceAt_slice (P := Try.prog) W 58 _ _ _ _ hu, run_slice_l (P := Try.prog) W 58 (some ⟨G, 0, none⟩) n n hu .i64 (m : Int) (by omega) (by omega), h2]
  simp only [Try.sizeOf56, Result.andThen, sliced]
  rw [show ((m : Int)).toNat = m by omega]
  by_cases h : n = m
  · rw [if_pos h, if_pos h]
  · rw [if_neg h, if_neg h]
    simp only [Option.map_some, Go.WideShapes.add_plain, Nat.zero_add]
theorem encM_at {st : Int} : ∀ {l : List Ms} {j : Nat} {v : Value}, (encM st l)[j]? = some v → ∃ m, l[j / 6]? = some m ∧ (msC st m)[j % 6]? = some v
  | [], j, v, h => by simp [encM] at h
  | m :: l, j, v, h => by
    have e : encM st (m :: l) = msC st m ++ encM st l := by simp [encM]
    rw [e, List.getElem?_append] at h
    have hl : (msC st m).length = 6 := rfl
    rw [hl] at h
    split at h
    · rename_i hj
      have h0 : j / 6 = 0 := by omega
      have h1 : j % 6 = j := by omega
      exact ⟨m, by rw [h0]; rfl, by rw [h1]; exact h⟩
    · rename_i hj
      obtain ⟨m', h1, h2⟩ := encM_at h
      have e1 : j / 6 = (j - 6) / 6 + 1 := by omega
      have e2 : j % 6 = (j - 6) % 6 := by omega
      exact ⟨m', by rw [e1]; simpa using h1, by rw [e2]; exact h2⟩
theorem encM_one (st : Int) (l : List Ms) : ∀ v ∈ encM st l, v.oneCell' = true := by
  intro v hv
  simp only [encM, List.mem_flatMap] at hv
  obtain ⟨m, _, hm⟩ := hv
  simp [msC] at hm
  rcases hm with rfl | rfl | rfl | rfl | rfl | rfl <;> rfl
/-- a stretch of the ring -/
theorem Lx.seg {w : World} {o : Lo} {A : La} (x : Lx w o A) (a n z0 : Nat) (hz : ∀ i, i < n → pzN (sqI A.st (A.h + a + i)) = z0 + i) :
    ∀ j v, (encM A.st ((A.P.drop a).take n))[j]? = some v → w.cell? ⟨o.p, 6 + z0 * 6 + j, none⟩ = some v := by
  intro j v hj
  obtain ⟨m, h1, h2⟩ := encM_at hj
  have hlt := (List.getElem?_eq_some_iff.1 h1).1
  have hn : j / 6 < n := by rw [List.length_take] at hlt; omega
  rw [List.getElem?_take_of_lt hn, List.getElem?_drop] at h1
  have hk := (x.ok.kP _ m h1).1
  have hmem := List.mem_append_left A.C (List.mem_of_getElem? h1)
  have hp := hz (j / 6) hn
  have e : sqI A.st m.k = sqI A.st (A.h + a + j / 6) := by rw [hk]; congr 1; omega
  have h6 : j % 6 < 6 := Nat.mod_lt _ (by decide)
  have hc := x.pt.at_ (plN (sqI A.st m.k) + j % 6) (by have := plN_lt (sqI A.st m.k); omega)
  rw [x.lf.rg m hmem (j % 6) v h2] at hc
  rw [e] at hc
  unfold plN at hc
  rw [hp] at hc
  have e2 : 6 + (z0 + j / 6) * 6 + j % 6 = 6 + z0 * 6 + j := by omega
  rw [e2] at hc
  exact hc
theorem perm_left {p : MapEntry → Bool} {e : MapEntry} : ∀ {l : List MapEntry}, (l.map (·.born)).Nodup → e ∈ l → p e = true → (l.filter p).Perm (e :: l.filter fun x => p x && !(x.born == e.born))
  | [], _, he, _ => by simp at he
  | a :: l, hn, he, hp => by
    simp only [List.map_cons, List.nodup_cons] at hn
    by_cases hae : a = e
    · subst hae
      have h1 : l.filter p = l.filter fun x => p x && !(x.born == a.born) := by
        apply List.filter_congr
        intro x hx
        have : x.born ≠ a.born := fun h => hn.1 (by rw [← h]; exact List.mem_map.2 ⟨x, hx, rfl⟩)
        simp [this]
      rw [List.filter_cons_of_pos hp, List.filter_cons_of_neg (by simp), ← h1]
    · have hel : e ∈ l := by
        rcases List.mem_cons.1 he with h | h
        · exact absurd h.symm hae
        · exact h
      have hne : a.born ≠ e.born := fun h => hn.1 (by rw [h]; exact List.mem_map.2 ⟨e, hel, rfl⟩)
      have ih := perm_left hn.2 hel hp
      cases hpa : p a
      · rw [List.filter_cons_of_neg (by simp [hpa]), List.filter_cons_of_neg (by simp [hpa])]
        exact ih
      · rw [List.filter_cons_of_pos hpa, List.filter_cons_of_pos (by simp [hpa, hne])]
        exact (ih.cons a).trans (List.Perm.swap _ _ _)
theorem left_perm {es : Array MapEntry} {seen : Array Nat} {e : MapEntry} (hn : (es.toList.map (·.born)).Nodup) (he : e ∈ (leftOf es seen).toList) : (leftOf es seen).toList.Perm (e :: (leftOf es (seen.push e.born)).toList) := by
  obtain ⟨h1, h2⟩ := mem_left he
  have e1 : ∀ sn : Array Nat, (leftOf es sn).toList = es.toList.filter fun x => !sn.contains x.born := fun sn => by unfold leftOf; rw [Array.toList_filter]
  rw [e1, e1]
  refine (perm_left (p := fun x => !seen.contains x.born) hn h1 (by rw [h2]; rfl)).trans ?_
  refine List.Perm.cons _ (List.Perm.of_eq ?_)
  apply List.filter_congr
  intro x _
  rw [contains_push]
  cases seen.contains x.born <;> simp
/-- a list that is the same but for its order comes of one that is -/
theorem perm_map {α β : Type} (f : α → β) {l : List α} {k : List β} (h : k.Perm (l.map f)) : ∃ s : List α, s.Perm l ∧ s.map f = k := by
  generalize hm : l.map f = m at h
  induction h generalizing l with
  | nil => exact ⟨[], by simp at hm; rw [hm], rfl⟩
  | cons x h ih =>
    cases l with
    | nil => simp at hm
    | cons a l =>
      simp only [List.map_cons, List.cons.injEq] at hm
      obtain ⟨s, h1, h2⟩ := ih hm.2
      exact ⟨a :: s, h1.cons a, by simp [h2, hm.1]⟩
  | swap x y l' =>
    match l, hm with
    | a :: b :: l, hm =>
      simp only [List.map_cons, List.cons.injEq] at hm
      exact ⟨b :: a :: l, List.Perm.swap _ _ _, by simp [hm.1, hm.2.1, hm.2.2]⟩
  | trans h1 h2 ih1 ih2 =>
    obtain ⟨s, g1, g2⟩ := ih2 hm
    obtain ⟨s', g3, g4⟩ := ih1 g2
    exact ⟨s', g3.trans g1, g4⟩
/-- the cells of entries -/
def entC (l : List MapEntry) : List Value := l.flatMap fun e => e.val.cells.toList
/-- one order alone: what is sorted by how far, no two alike -/
theorem sorted_one : ∀ {l k : List Mt}, l.Perm k → l.Pairwise (fun x y => farT x ≤ farT y) → k.Pairwise (fun x y => farT x < farT y) → l = k
  | [], k, h, _, _ => h.nil_eq
  | a :: l, [], h, _, _ => by simpa using h.length_eq
  | a :: l, b :: k, h, h1, h2 => by
    rw [List.pairwise_cons] at h1 h2
    have hab : a = b := by
      rcases List.mem_cons.1 (h.mem_iff.1 (List.mem_cons_self ..)) with e | e
      · exact e
      · have h3 := h2.1 a e
        rcases List.mem_cons.1 (h.mem_iff.2 (List.mem_cons_self ..)) with e' | e'
        · exact e'.symm
        · have h4 := h1.1 b e'
          omega
    subst hab
    rw [sorted_one h.cons_inv h1.2 h2.2]
/-- the cells of a row that holds them -/
theorem own_holds {w : World} {base e n cap g : Nat} {st : Int} {l : List Ms} (h : w.ownsRow base e 6 (.slice (some ⟨g, 0, none⟩) n cap) n (encM st l)) (hn : l.length = n) (hk : ∀ m ∈ l, m.k ≤ 1000000) : HoldsK (encT st) 6 w g 0 (l.map mtOf).toArray := by
  intro t ht
  have hsz : ((l.map mtOf).toArray).size = n := by simp [hn]
  rw [size_flatK, hsz] at ht
  rw [get_flatK _ _ _ _ (by rw [hsz]; exact ht), Nat.zero_add]
  refine ⟨?_, h.frozenAt t⟩
  rw [h.cellAt t (by omega)]
  have hlt : t / 6 < l.length := by omega
  have e1 : (l.map mtOf).toArray[t / 6]! = mtOf l[t / 6] := by simp [hlt]
  rw [e1, encT_of st (hk _ (List.getElem_mem hlt))]
  have hh := List.getElem?_eq_getElem (l := encM st l) (i := t) (by rw [encM_len]; omega)
  obtain ⟨m, g1, g2⟩ := encM_at hh
  rw [hh]
  rw [List.getElem?_eq_getElem hlt] at g1
  have g3 := Option.some.inj g1
  subst g3
  simp [g2]
theorem jgrow {B : Nat} (w : World) (os : Array Obj) (h : B ≤ w.heap.size) : Below B w (grow w os) :=
  ⟨rfl, rfl, rfl, by show w.heap.size ≤ (w.heap ++ os).size; rw [Array.size_append]; omega, fun j hj => by show (w.heap ++ os)[j]? = _; rw [Array.getElem?_append_left (by omega)]⟩
theorem filter_perm : ∀ {l : List Ms}, (∀ m, m ∈ l → m.is = 3 ∨ m.is = 4) → (l.filter is3 ++ l.filter is4).Perm l
  | [], _ => by simp
  | m :: l, h => by
    have ih := filter_perm (l := l) fun x hx => h x (by simp [hx])
    rcases h m (by simp) with e | e
    · rw [List.filter_cons_of_pos (by simp [is3, e]), List.filter_cons_of_neg (by simp [is4, e]), List.cons_append]
      exact ih.cons m
    · rw [List.filter_cons_of_neg (by simp [is3, e]), List.filter_cons_of_pos (by simp [is4, e])]
      exact List.perm_middle.trans (ih.cons m)
theorem far_mt {m : Ms} (h : m.k ≤ 1000000) : farT (mtOf m) = m.k := by unfold farT mtOf; simp only; omega
theorem pair_idx {l : List Ms} {h : Nat} (hk : ∀ j m, l[j]? = some m → m.k = h + j ∧ m.is = 2) : l.Pairwise (fun x y => x.k < y.k) := by
  rw [List.pairwise_iff_getElem]
  intro i j hi hj hij
  have h1 := (hk i _ (List.getElem?_eq_getElem hi)).1
  have h2 := (hk j _ (List.getElem?_eq_getElem hj)).1
  omega
theorem La.Ok.rise {A : La} (o : A.Ok) : ((A.T ++ A.P).map mtOf).Pairwise (fun x y => farT x < farT y) := by
  have hb := o.bd
  have hr := o.hr
  rw [List.pairwise_map]
  have hkT : ∀ m ∈ A.T, m.k < A.h := fun m hm => (o.kT m hm).1
  have hkP : ∀ m ∈ A.P, A.h ≤ m.k ∧ m.k < A.r := fun m hm => ⟨(o.mem_P hm).1, (o.mem_P hm).2.1⟩
  have hall : (A.T ++ A.P).Pairwise (fun x y => x.k < y.k) := by
    rw [List.pairwise_append]
    refine ⟨o.up, pair_idx o.kP, fun x hx y hy => ?_⟩
    have h1 := hkT x hx
    have h2 := hkP y hy
    omega
  refine hall.imp_of_mem ?_
  intro x y hx hy hxy
  have hz : ∀ u : Ms, u ∈ A.T ++ A.P → u.k ≤ 1000000 := fun u hu => by
    rcases List.mem_append.1 hu with h | h
    · have := hkT u h; omega
    · have := hkP u h; omega
  have hbx := hz x hx
  have hby := hz y hy
  rw [far_mt hbx, far_mt hby]
  exact hxy
theorem entC_of {st : Int} {Vd : List MapEntry} {S : List Ms} (h : S.map (msV st) = Vd.map (·.val)) : entC Vd = encM st S := by
  have e1 : entC Vd = (Vd.map (·.val)).flatMap fun v => v.cells.toList := by unfold entC; rw [List.flatMap_map]
  rw [e1, ← h, List.flatMap_map]
  rfl
theorem sorted_is {d d' : Array Mt} (hp : PermIn 0 d.size d d') (hs : SortedIn (ltOf cfT) 0 d.size d') {k : List Mt} (hk : d.toList.Perm k) (hr : k.Pairwise (fun x y => farT x < farT y)) : d' = k.toArray := by
  have h1 : d'.toList.Perm d.toList := by
    have h := hp.2.2
    have e1 : d'.extract 0 d.size = d' := by rw [← hp.1]; simp
    have e2 : d.extract 0 d.size = d := by simp
    rwa [e1, e2] at h
  have h2 : d'.toList.Pairwise (fun x y => farT x ≤ farT y) := by
    rw [List.pairwise_iff_getElem]
    intro i j hi hj hij
    have hi' : i < d'.size := by simpa using hi
    have hj' : j < d'.size := by simpa using hj
    have := hs i j (Nat.zero_le _) hij (by rw [← hp.1]; exact hj')
    rw [cfT_lt] at this
    simp only [getElem!_pos d' i hi', getElem!_pos d' j hj', decide_eq_false_iff_not, Nat.not_lt] at this
    simpa using this
  have := sorted_one (h1.trans hk) h2 hr
  rw [← this]
end Go.Proofs.Ytilahfomiofgcaa
