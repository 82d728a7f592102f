/- An agenda's row in memory: its block, the entries' row, a block an entry, a map of numbers. -/
import Derived.Test.YtafcgbahdfaiiaaEMath
import Derived.Test.YtafcgbahdfaiiaaKMem
import Derived.Test.YtafcgbahdfaiiaaGRows
import Derived.Maps.Range
namespace Go.Proofs.Ytafcgbahdfaiiaa
open Go.RowKit Go.ChangeMaps Go.MapKept
open Go.WideElems (Fit rd_mk)
open Go.Maps (Keyed int_keyed keyOf_int_mk)
set_option maxRecDepth 100000

/-- a block of cells -/
def Blk (w : World) (b : Nat) (T : TypeId) (l : List Value) : Prop := w.heap[b]? = some (.cells l.toArray T (0, 0))
section
variable {w w' : World} {b : Nat} {T : TypeId} {l : List Value}
theorem Blk.lt (h : Blk w b T l) : b < w.heap.size := (Array.getElem?_eq_some_iff.1 h).1
theorem Blk.cell (h : Blk w b T l) {i : Nat} {v : Value} (hv : l[i]? = some v) : w.cell? ⟨b, i, none⟩ = some v := by
  rw [cell_of_row w b i _ T (0, 0) h]; simpa using hv
theorem Blk.fz (h : Blk w b T l) (i : Nat) : w.frozen? ⟨b, i, none⟩ = false := frozen_of_row _ _ i _ _ h
theorem Blk.same (h : Blk w b T l) (hb : w'.heap[b]? = w.heap[b]?) : Blk w' b T l := hb.trans h
theorem Blk.set (h : Blk w b T l) (i : Nat) (v : Value) : Blk (w.setCell ⟨b, i, none⟩ v) b T (l.set i v) := by
  unfold Blk
  rw [setCell_eq_setRow w b i _ T (0, 0) v h, setRow_heap w b _ _ T _ h]
  simp
theorem Blk.setO (h : Blk w b T l) {b' i : Nat} (hne : b ≠ b') (v : Value) : Blk (w.setCell ⟨b', i, none⟩ v) b T l := h.same (Below.heap_setCell _ _ _ _ hne)
theorem Blk.drew (h : Blk w b T l) : Blk w.drew b T l := h
theorem Blk.but {S : Nat → Prop} (h : Blk w b T l) (hb : But S w w') (hS : ¬ S b) : Blk w' b T l := h.same (hb.block b h.lt hS)
theorem Blk.below (h : Blk w b T l) (hb : Below w.heap.size w w') : Blk w' b T l := h.same (hb.block b h.lt)
theorem blk_new (w : World) (l : List Value) (T : TypeId) : Blk (w.alloc (.cells l.toArray T)) w.heap.size T l := World.alloc_heap_new w _
end

/-- a thing's value, an entry's cells -/
abbrev thV (k m : Int) : Value := .agg #[.int .i8 k, .int .i64 m]
def enC (e : En) (i : Nat) : List Value := [.int .i8 e.k, .int .i64 e.m, .int .i64 (e.n : Int), .int .i64 (i : Int)]
theorem enC_set (e : En) (i j : Nat) : (enC e i).set 3 (.int .i64 (j : Int)) = enC e j := rfl
abbrev ptr (b : Nat) : Value := .pointer (some ⟨b, 0, none⟩)

theorem keyI : Keyed Try.prog 3 := int_keyed Try.underlying3
def anyE (_ : Value) : Option (DataW Unit × List MemPlace) := some (.agg [], [])
theorem i64_wf {q : Int} (h0 : -9223372036854775808 ≤ q) (h1 : q < 9223372036854775808) : (Lit.int .i64 q).wf = true := by
  have e : IntKind.i64.max = 9223372036854775807 := by decide
  have e' : IntKind.i64.min = -9223372036854775808 := by decide
  simp [Lit.wf, e, e']
  omega
theorem keyN {q : Int} (h : (Lit.int .i64 q).wf = true) : keyOf Try.prog 3 (.int .i64 q) = some (.int .i64 q) := keyOf_int_mk Try.underlying3 h

/-- a map in block b: each of the numbers l leads to a block -/
def Mq (w : World) (b : Nat) (l : List Nat) (g : Nat → Nat) : Prop :=
  ∃ es clock, w.heap[b]? = some (.map es clock) ∧ Stamped es clock ∧ es.toList.map (·.key) = l.map (fun n : Nat => Value.int .i64 (n : Int)) ∧ es.toList.map (·.val) = l.map (fun n : Nat => ptr (g n))
section
variable {w w' : World} {b : Nat} {l : List Nat} {g : Nat → Nat}
theorem Mq.lt (h : Mq w b l g) : b < w.heap.size := by
  obtain ⟨es, clock, hb, _⟩ := h
  exact (Array.getElem?_eq_some_iff.1 hb).1
theorem Mq.same (h : Mq w b l g) (hb : w'.heap[b]? = w.heap[b]?) : Mq w' b l g := by
  obtain ⟨es, clock, h1, r⟩ := h
  exact ⟨es, clock, hb.trans h1, r⟩
theorem Mq.congr {g' : Nat → Nat} (h : Mq w b l g) (e : ∀ x, x ∈ l → g' x = g x) : Mq w b l g' := by
  obtain ⟨es, clock, h1, h2, h3, h4⟩ := h
  refine ⟨es, clock, h1, h2, h3, h4.trans ?_⟩
  exact List.map_congr_left fun x hx => by rw [e x hx]
theorem mq_len {es : Array MapEntry} (hk : es.toList.map (·.key) = l.map (fun n : Nat => Value.int .i64 (n : Int))) : es.size = l.length := by
  have := congrArg List.length hk
  simpa using this
theorem mq_at {es : Array MapEntry} (hk : es.toList.map (·.key) = l.map (fun n : Nat => Value.int .i64 (n : Int))) (hv : es.toList.map (·.val) = l.map (fun n : Nat => ptr (g n))) {j : Nat} {e : MapEntry} (he : es.toList[j]? = some e) :
    ∃ m, l[j]? = some m ∧ e.key = .int .i64 (m : Int) ∧ e.val = ptr (g m) := by
  have h1 := congrArg (fun x => x[j]?) hk
  have h2 := congrArg (fun x => x[j]?) hv
  simp only [List.getElem?_map, he, Option.map_some] at h1 h2
  cases hl : l[j]? with
  | none => rw [hl] at h1; cases h1
  | some m =>
    rw [hl] at h1 h2
    exact ⟨m, rfl, by simpa using h1, by simpa using h2⟩
theorem mq_fit {es : Array MapEntry} {clock : Nat} (hs : Stamped es clock) (hk : es.toList.map (·.key) = l.map (fun n : Nat => Value.int .i64 (n : Int))) (hv : es.toList.map (·.val) = l.map (fun n : Nat => ptr (g n))) (hl : l.length ≤ 1000000) (hn : ∀ x, x ∈ l → x ≤ 1000000) :
    Fit Try.prog 3 anyE es clock := by
  refine ⟨by rw [mq_len hk]; unfold maxLen; omega, hs, fun x hx => ?_⟩
  obtain ⟨j, hj⟩ := List.getElem?_of_mem hx
  obtain ⟨m, hm, h1, _⟩ := mq_at hk hv hj
  have hmb := hn m (List.mem_of_getElem? hm)
  obtain ⟨key, val, born⟩ := x
  simp only at h1
  subst h1
  exact ⟨_, rd_mk (keyN (i64_wf (by omega) (by omega))) rfl⟩
theorem zeroPt (w : World) : (zeroValue 70).run Try.prog w = .ok (.pointer none) w := by kernel_rfl
/-- looked up, and there -/
theorem Mq.look (h : Mq w b l g) (hl : l.length ≤ 1000000) (hn : ∀ x, x ∈ l → x ≤ 1000000) {m : Nat} (hm : m ∈ l) :
    (Instr.lookup 82 (.map (some b)) (.int .i64 (m : Int)) false).run Try.prog w = .ok (ptr (g m)) w := by
  obtain ⟨es, clock, hb, hs, h1, h2⟩ := h
  have hmb := hn m hm
  rcases Maps.fit_look false keyI Try.underlying82 (zeroPt w) hb (mq_fit hs h1 h2 hl hn) (keyN (i64_wf (q := (m : Int)) (by omega) (by omega))) with ⟨_, hno, _⟩ | ⟨e0, y, he, hkey, hrun, _⟩
  · exfalso
    obtain ⟨j, hj⟩ := List.getElem?_of_mem hm
    have hlt : j < es.toList.length := by
      have := (List.getElem?_eq_some_iff.1 hj).1
      have e := mq_len h1
      simp
      omega
    obtain ⟨m', hm', q1, _⟩ := mq_at h1 h2 (List.getElem?_eq_getElem hlt)
    rw [hj] at hm'
    cases hm'
    exact hno _ (List.getElem_mem hlt) q1
  · obtain ⟨j, hj⟩ := List.getElem?_of_mem he
    obtain ⟨m', hm', q1, q2⟩ := mq_at h1 h2 hj
    rw [hkey] at q1
    injection q1 with _ q1
    have : m' = m := by omega
    rw [hrun, q2, this]
    rfl
/-- looked up, and not there -/
theorem Mq.look_no (h : Mq w b l g) (hl : l.length ≤ 1000000) (hn : ∀ x, x ∈ l → x ≤ 1000000) {q : Int} (hq : (Lit.int .i64 q).wf = true) (hno : ∀ m ∈ l, (m : Int) ≠ q) :
    (Instr.lookup 82 (.map (some b)) (.int .i64 q) false).run Try.prog w = .ok (.pointer none) w := by
  obtain ⟨es, clock, hb, hs, h1, h2⟩ := h
  rcases Maps.fit_look false keyI Try.underlying82 (zeroPt w) hb (mq_fit hs h1 h2 hl hn) (keyN hq) with ⟨hrun, _⟩ | ⟨e0, y, he, hkey, hrun, _⟩
  · exact hrun
  · exfalso
    obtain ⟨j, hj⟩ := List.getElem?_of_mem he
    obtain ⟨m', hm', q1, q2⟩ := mq_at h1 h2 hj
    rw [hkey] at q1
    injection q1 with _ q1
    exact hno m' (List.mem_of_getElem? hm') q1.symm
/-- a new one is laid -/
theorem Mq.store (h : Mq w b l g) (hl : l.length ≤ 1000000) (hn : ∀ x, x ∈ l → x ≤ 1000000) {m B : Nat} (hm : m ≤ 1000000) (hno : m ∉ l) :
    ∃ w', (Instr.mapUpdate 82 (.map (some b)) (.int .i64 (m : Int)) (ptr B)).run Try.prog w = .ok () w' ∧ Mq w' b (l ++ [m]) (upd g m B) ∧ But (fun i => i = b) w w' ∧ w'.heap.size = w.heap.size ∧ ∀ i, i ≠ b → w'.heap[i]? = w.heap[i]? := by
  obtain ⟨es, clock, hb, hs, h1, h2⟩ := h
  have hkey := keyN (i64_wf (q := (m : Int)) (by omega) (by omega))
  rcases keyI.find w hkey es.toList (mq_fit hs h1 h2 hl hn).keys with ⟨f1, f2⟩ | ⟨j, e0, f1, f2, f3⟩
  · have hother := fun i (hi : i ≠ b) => heap_setBlock_other hb (.map (es.push ⟨.int .i64 (m : Int), ptr B, clock⟩) (clock + 1)) hi
    refine ⟨setBlock w b (.map (es.push ⟨.int .i64 (m : Int), ptr B, clock⟩) (clock + 1)), ?_, ⟨_, _, heap_setBlock_same hb _, stamped_push hs f2, ?_, ?_⟩, ⟨rfl, rfl, rfl, by simp [setBlock], fun i _ hi => hother i hi⟩, by simp [setBlock], hother⟩
    · simp [Instr.mapUpdate, run_underlying Try.underlying82, MapKept.run_getObj_map hb, keyI.check w false hkey, f1, MapKept.run_setObj_map _ hb, Result.andThen, setBlock]
    · simp [h1]
    · simp only [Array.toList_push, List.map_append, h2, List.map_cons, List.map_nil, upd_at]
      congr 1
      exact List.map_congr_left fun x hx => by rw [upd_ne (by rintro rfl; exact hno hx)]
  · exfalso
    obtain ⟨m', hm', q1, _⟩ := mq_at h1 h2 f2
    rw [f3] at q1
    injection q1 with _ q1
    have : m = m' := by omega
    subst this
    exact hno (List.mem_of_getElem? hm')
theorem emap_erase {α β : Type} (f : α → β) : ∀ (l : List α) (i : Nat), (l.eraseIdx i).map f = (l.map f).eraseIdx i
  | [], _ => by simp
  | _ :: _, 0 => by simp
  | a :: l, i + 1 => by simp [emap_erase f l i]
/-- one is dropped -/
theorem Mq.drop (h : Mq w b l g) (hl : l.length ≤ 1000000) (hn : ∀ x, x ∈ l → x ≤ 1000000) {m : Nat} (hm : m ∈ l) (ty : TypeId) :
    ∃ w', (Builtin.delete_ #[82, 3] ty #[.map (some b), .int .i64 (m : Int)]).run Try.prog w = .ok (.tuple #[]) w' ∧ (∃ l', Mq w' b l' g ∧ l'.length ≤ l.length ∧ ∀ x, x ∈ l' ↔ x ∈ l ∧ x ≠ m) ∧ But (fun i => i = b) w w' ∧ w'.heap.size = w.heap.size ∧ ∀ i, i ≠ b → w'.heap[i]? = w.heap[i]? := by
  obtain ⟨es, clock, hb, hs, h1, h2⟩ := h
  have hmb := hn m hm
  have hkey := keyN (i64_wf (q := (m : Int)) (by omega) (by omega))
  have hst := (stamped_iff es clock).1 hs
  have hnd : ∀ (i j : Nat) (x : Nat), l[i]? = some x → l[j]? = some x → i = j := by
    intro i j x hi hj
    have li : i < es.toList.length := by have := (List.getElem?_eq_some_iff.1 hi).1; have e := mq_len h1; simp; omega
    have lj : j < es.toList.length := by have := (List.getElem?_eq_some_iff.1 hj).1; have e := mq_len h1; simp; omega
    obtain ⟨x', hx', qx, _⟩ := mq_at h1 h2 (List.getElem?_eq_getElem li)
    obtain ⟨y', hy', qy, _⟩ := mq_at h1 h2 (List.getElem?_eq_getElem lj)
    rw [hi] at hx'; cases hx'
    rw [hj] at hy'; cases hy'
    have := entry_eq_of_key hst.2.2 (List.getElem_mem li) (List.getElem_mem lj) (by rw [qx, qy])
    have a1 : (es.toList.map (·.born))[i]'(by simpa using li) = (es.toList.map (·.born))[j]'(by simpa using lj) := by
      simp only [List.getElem_map]
      rw [this]
    exact (List.getElem_inj hst.2.1).1 a1
  rcases keyI.find w hkey es.toList (mq_fit hs h1 h2 hl hn).keys with ⟨f1, f2⟩ | ⟨j, e0, f1, f2, f3⟩
  · exfalso
    obtain ⟨j, hj⟩ := List.getElem?_of_mem hm
    have hlt : j < es.toList.length := by have := (List.getElem?_eq_some_iff.1 hj).1; have e := mq_len h1; simp; omega
    obtain ⟨m', hm', q1, _⟩ := mq_at h1 h2 (List.getElem?_eq_getElem hlt)
    rw [hj] at hm'; cases hm'
    exact f2 _ (List.getElem_mem hlt) q1
  · obtain ⟨m', hm', q1, _⟩ := mq_at h1 h2 f2
    rw [f3] at q1
    injection q1 with _ q1
    have : m' = m := by omega
    subst this
    have hjs : j < es.size := by have := (List.getElem?_eq_some_iff.1 f2).1; simpa using this
    have hsub : (es.eraseIdxIfInBounds j).toList = es.toList.eraseIdx j := by
      unfold Array.eraseIdxIfInBounds
      rw [dif_pos hjs]
      simp
    have hother := fun i (hi : i ≠ b) => heap_setBlock_other hb (.map (es.eraseIdxIfInBounds j) clock) hi
    refine ⟨setBlock w b (.map (es.eraseIdxIfInBounds j) clock), ?_, ⟨l.eraseIdx j, ⟨_, _, heap_setBlock_same hb _, stamped_erase hs _, ?_, ?_⟩, by rw [List.length_eraseIdx]; split <;> omega, fun x => ?_⟩, ⟨rfl, rfl, rfl, by simp [setBlock], fun i _ hi => hother i hi⟩, by simp [setBlock], hother⟩
    · simp [Builtin.delete_, run_underlying Try.underlying82, MapKept.run_getObj_map hb, keyI.check w _ hkey, f1, MapKept.run_setObj_map _ hb, Result.andThen, setBlock]
    · rw [hsub, emap_erase, emap_erase, h1]
    · rw [hsub, emap_erase, emap_erase, h2]
    · rw [List.mem_eraseIdx_iff_getElem?]
      constructor
      · rintro ⟨i, hij, hi⟩
        refine ⟨List.mem_of_getElem? hi, ?_⟩
        rintro rfl
        exact hij (hnd i j _ hi hm')
      · rintro ⟨hx, hne⟩
        obtain ⟨i, hi⟩ := List.getElem?_of_mem hx
        refine ⟨i, ?_, hi⟩
        rintro rfl
        rw [hm'] at hi
        cases hi
        exact hne rfl
end
theorem mq_new (w : World) (g : Nat → Nat) : Mq (w.alloc (.map #[] 0)) w.heap.size [] g :=
  ⟨#[], 0, (MapKept.heap_alloc w _).1, stamped_empty 0, by simp, by simp⟩

/-- where a row lies -/
structure Ro where
  r : Nat
  bm : Nat
  lv : Value
  ev : Value
  bl : Nat → Nat
  ml : List Nat
def pts (A : Ar) (g : Nat → Nat) : List Value := (List.range A.n).map fun i => ptr (g (A.f i).n)
theorem pts_at {A : Ar} {g : Nat → Nat} {i : Nat} (hi : i < A.n) : (pts A g)[i]? = some (ptr (g (A.f i).n)) := by
  unfold pts; simp [hi]
theorem pts_len (A : Ar) (g : Nat → Nat) : (pts A g).length = A.n := by simp [pts]
structure Rx (w : World) (o : Ro) (A : Ar) : Prop where
  rb : Blk w o.r 85 [o.lv, o.ev, .map (some o.bm), .int .i64 (A.last : Int)]
  ow : w.ownsRow 0 70 1 o.ev A.n (pts A o.bl)
  en : ∀ i, i < A.n → Blk w (o.bl (A.f i).n) 74 (enC (A.f i) i)
  mp : Mq w o.bm o.ml o.bl
  ms : ∀ x, x ∈ o.ml ↔ ∃ i, i < A.n ∧ (A.f i).n = x
  ml : o.ml.length ≤ A.last
  ok : A.Ok
def Ro.has (o : Ro) (A : Ar) (b : Nat) : Prop := b = o.r ∨ b = o.bm ∨ o.ev.ownBlock = some b ∨ ∃ i, i < A.n ∧ o.bl (A.f i).n = b
section
variable {w w' : World} {o : Ro} {A : Ar}
theorem Rx.mb (x : Rx w o A) : ∀ n, n ∈ o.ml → n ≤ 1000000 := fun n hn => by
  obtain ⟨i, hi, e⟩ := (x.ms n).1 hn
  have := x.ok.nb i hi
  have := x.ok.lb
  omega
theorem Rx.mlb (x : Rx w o A) : o.ml.length ≤ 1000000 := Nat.le_trans x.ml x.ok.lb
theorem Rx.lt (x : Rx w o A) {b : Nat} (h : o.has A b) : b < w.heap.size := by
  rcases h with rfl | rfl | h | ⟨i, hi, rfl⟩
  · exact x.rb.lt
  · exact x.mp.lt
  · exact (x.ow.lt b h).2
  · exact (x.en i hi).lt
theorem eown_block {base : Nat} {e : TypeId} {size : Nat} {v : Value} {n : Nat} {xs : List Value} (h : w.ownsRow base e size v n xs) (hb : ∀ b, v.ownBlock = some b → w'.heap[b]? = w.heap[b]?) : w'.ownsRow base e size v n xs := by
  refine ⟨h.1, ?_⟩
  rcases h.2 with hn | ⟨g, cap, cur, rfl, hbb, hg, rest⟩
  · exact .inl hn
  · exact .inr ⟨g, cap, cur, rfl, hbb, (hb g rfl).trans hg, rest⟩
theorem Rx.same (x : Rx w o A) (hb : ∀ b, o.has A b → w'.heap[b]? = w.heap[b]?) : Rx w' o A :=
  ⟨x.rb.same (hb _ (.inl rfl)), eown_block x.ow fun b h => hb b (.inr (.inr (.inl h))), fun i hi => (x.en i hi).same (hb _ (.inr (.inr (.inr ⟨i, hi, rfl⟩)))), x.mp.same (hb _ (.inr (.inl rfl))), x.ms, x.ml, x.ok⟩
theorem Rx.but {S : Nat → Prop} (x : Rx w o A) (hb : But S w w') (hS : ∀ b, o.has A b → ¬ S b) : Rx w' o A :=
  x.same fun b ho => hb.block b (x.lt ho) (hS b ho)
theorem Rx.below (x : Rx w o A) (hb : Below w.heap.size w w') : Rx w' o A := x.same fun b ho => hb.block b (x.lt ho)
theorem Rx.alloc (x : Rx w o A) (y : Obj) : Rx (w.alloc y) o A := x.below ((Below.refl _ w).alloc (Nat.le_refl _) _)
theorem Rx.drew (x : Rx w o A) : Rx w.drew o A := x.same fun _ _ => rfl
/-- the entries' slice -/
theorem Rx.sl (x : Rx w o A) : ∃ a cap, o.ev = .slice a A.n cap ∧ cap ≤ maxLen ∧ A.n ≤ cap := by
  rcases x.ow.2 with ⟨h, hn⟩ | ⟨g, cap, cur, h, _, _, h1, h2, _⟩
  · exact ⟨none, 0, by rw [h, hn], by unfold maxLen; omega, by omega⟩
  · exact ⟨_, cap, h, h2, h1⟩
theorem Rx.sl1 (x : Rx w o A) (h0 : 0 < A.n) : ∃ g cap, o.ev = .slice (some ⟨g, 0, none⟩) A.n cap ∧ cap ≤ maxLen ∧ A.n ≤ cap := by
  rcases x.ow.2 with ⟨h, hn⟩ | ⟨g, cap, cur, h, _, _, h1, h2, _⟩
  · omega
  · exact ⟨g, cap, h, h2, h1⟩
theorem Rx.pt (x : Rx w o A) {g cap : Nat} (hv : o.ev = .slice (some ⟨g, 0, none⟩) A.n cap) {i : Nat} (hi : i < A.n) : w.cell? ⟨g, i, none⟩ = some (ptr (o.bl (A.f i).n)) := by
  have := x.ow.cells (g := g) (by rw [hv]; rfl) i _ (pts_at hi)
  rwa [Go.WideShapes.add_plain, Nat.zero_add] at this
/-- no two blocks are the same -/
theorem Rx.ne (x : Rx w o A) : o.r ≠ o.bm ∧ o.ev.ownBlock ≠ some o.r ∧ o.ev.ownBlock ≠ some o.bm ∧ (∀ i, i < A.n → o.bl (A.f i).n ≠ o.r ∧ o.bl (A.f i).n ≠ o.bm ∧ o.ev.ownBlock ≠ some (o.bl (A.f i).n)) ∧ ∀ i j, i < A.n → j < A.n → o.bl (A.f i).n = o.bl (A.f j).n → i = j := by
  have hr : w.heap[o.r]? = _ := x.rb
  have hm : ∃ es c, w.heap[o.bm]? = some (.map es c) := by obtain ⟨es, c, h, _⟩ := x.mp; exact ⟨es, c, h⟩
  obtain ⟨es, c, hm⟩ := hm
  have hev : ∀ b, o.ev.ownBlock = some b → ∃ cur, w.heap[b]? = some (.cells cur 70 (0, 0)) := fun b hb => by
    rcases x.ow.2 with ⟨h, hn⟩ | ⟨g, cap, cur, h, _, hg, _⟩
    · rw [h] at hb; cases hb
    · rw [h] at hb; simp [Value.ownBlock] at hb; subst hb; exact ⟨cur, hg⟩
  have hen : ∀ i, i < A.n → w.heap[o.bl (A.f i).n]? = some (.cells (enC (A.f i) i).toArray 74 (0, 0)) := fun i hi => x.en i hi
  refine ⟨fun e => ?_, fun e => ?_, fun e => ?_, fun i hi => ⟨fun e => ?_, fun e => ?_, fun e => ?_⟩, fun i j hi hj e => ?_⟩
  · rw [e, hm] at hr; cases hr
  · obtain ⟨cur, h⟩ := hev _ e; rw [h] at hr; injection hr with hr; injection hr with _ hr; cases hr
  · obtain ⟨cur, h⟩ := hev _ e; rw [h] at hm; cases hm
  · have h := hen i hi; rw [e, hr] at h; injection h with h; injection h with _ h; cases h
  · have h := hen i hi; rw [e, hm] at h; cases h
  · obtain ⟨cur, h'⟩ := hev _ e; have h := hen i hi; rw [h'] at h; injection h with h; injection h with _ h; cases h
  · have h1 := hen i hi
    have h2 := hen j hj
    rw [e, h2] at h1
    injection h1 with h1
    injection h1 with h1
    simp [enC] at h1
    omega
end

/-- less: a function of things; J what it leans on, all in the blocks X, of which it may change some -/
structure Ls (g : Nat) (cs : Array Value) (J : Nat → World → Prop) (X : Nat → Prop) (Ord : Prop) : Prop where
  en : ∀ args W, (callFunc g args).run Try.prog W = .ok (.enter g args) W
  st : ∀ c W W', J c W → But (fun b => ¬ X b) W W' → J c W'
  lt : ∀ c W b, J c W → X b → b < W.heap.size
  mt : ∀ c c' W, c ≤ c' → J c' W → J c W
  call : ∀ c W k1 m1 k2 m2, J (c + 1) W → Calls Try.prog g (#[thV k1 m1, thV k2 m2] ++ cs) W fun e W' => ∃ t : Bool, e = .returned (.bool t) ∧ (Ord → t = decide (k1 < k2)) ∧ But X W W' ∧ J c W'
end Go.Proofs.Ytafcgbahdfaiiaa
