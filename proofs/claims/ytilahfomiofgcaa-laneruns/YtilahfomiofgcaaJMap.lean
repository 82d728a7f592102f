/- A map of messages in memory: what it holds, looked up, laid, dropped, cleared. -/
import Derived.Test.YtilahfomiofgcaaJMath
import Derived.Test.YtilahfomiofgcaaKMem
import Derived.Maps.Range
namespace Go.Proofs.Ytilahfomiofgcaa
open Go.RowKit Go.ChangeMaps Go.MapKept
open Go.WideElems (Fit rd_mk)
open Go.Maps (Keyed int_keyed keyOf_int_mk)
set_option maxRecDepth 100000

/-- a message's value, and its cells -/
def msV (st : Int) (m : Ms) : Value := .agg #[.int .u64 (sqI st m.k), .int .i64 m.n, .int .u64 m.g, .bool m.laid, .int .i64 m.tk, .int .i64 m.sp]
def msC (st : Int) (m : Ms) : List Value := [.int .u64 (sqI st m.k), .int .i64 m.n, .int .u64 m.g, .bool m.laid, .int .i64 m.tk, .int .i64 m.sp]
def msZ : Value := .agg #[.int .u64 0, .int .i64 0, .int .u64 0, .bool false, .int .i64 0, .int .i64 0]
theorem keyd : Keyed Try.prog 22 := int_keyed Try.underlying22
def anyR (_ : Value) : Option (DataW Unit × List MemPlace) := some (.agg [], [])
theorem u64_wf {q : Int} (h0 : 0 ≤ q) (h1 : q < 18446744073709551616) : (Lit.int .u64 q).wf = true := by
  have e : IntKind.u64.max = 18446744073709551615 := by decide
  have e' : IntKind.u64.min = 0 := by decide
  simp [Lit.wf, e, e']
  omega
theorem keyQ {q : Int} (h0 : 0 ≤ q) (h1 : q < 18446744073709551616) : keyOf Try.prog 22 (.int .u64 q) = some (.int .u64 q) := keyOf_int_mk Try.underlying22 (u64_wf h0 h1)

/-- a map in block b: the messages l, by their numbers -/
def Mp (w : World) (b : Nat) (st : Int) (l : List Ms) : Prop :=
  ∃ es clock, w.heap[b]? = some (.map es clock) ∧ Stamped es clock ∧ es.toList.map (·.key) = l.map (fun m => Value.int .u64 (sqI st m.k)) ∧ es.toList.map (·.val) = l.map (msV st)
theorem Mp.lt {w : World} {b : Nat} {st : Int} {l : List Ms} (h : Mp w b st l) : b < w.heap.size := by
  obtain ⟨es, clock, hb, _⟩ := h
  exact (Array.getElem?_eq_some_iff.1 hb).1
theorem Mp.same {w w' : World} {b : Nat} {st : Int} {l : List Ms} (h : Mp w b st l) (hb : w'.heap[b]? = w.heap[b]?) : Mp w' b st l := by
  obtain ⟨es, clock, h1, r⟩ := h
  exact ⟨es, clock, hb.trans h1, r⟩
theorem mp_len {es : Array MapEntry} {l : List Ms} {st : Int} (hk : es.toList.map (·.key) = l.map (fun m => Value.int .u64 (sqI st m.k))) : es.size = l.length := by
  have := congrArg List.length hk
  simpa using this
theorem mp_at {es : Array MapEntry} {l : List Ms} {st : Int} (hk : es.toList.map (·.key) = l.map (fun m => Value.int .u64 (sqI st m.k))) (hv : es.toList.map (·.val) = l.map (msV st)) {j : Nat} {e : MapEntry} (he : es.toList[j]? = some e) :
    ∃ m, l[j]? = some m ∧ e.key = .int .u64 (sqI st m.k) ∧ e.val = msV st m := by
  have h1 := congrArg (fun x => x[j]?) hk
  have h2 := congrArg (fun x => x[j]?) hv
  simp only [List.getElem?_map, he, Option.map_some] at h1 h2
  cases hl : l[j]? with
  | none => rw [hl] at h1; cases h1
  | some m =>
    rw [hl] at h1 h2
    exact ⟨m, rfl, by simpa using h1, by simpa using h2⟩
theorem mp_fit {es : Array MapEntry} {clock : Nat} {l : List Ms} {st : Int} (hs : Stamped es clock) (hk : es.toList.map (·.key) = l.map (fun m => Value.int .u64 (sqI st m.k))) (hv : es.toList.map (·.val) = l.map (msV st)) (hl : l.length ≤ 1000) :
    Fit Try.prog 22 anyR es clock := by
  refine ⟨by rw [mp_len hk]; unfold maxLen; omega, hs, fun x hx => ?_⟩
  obtain ⟨j, hj⟩ := List.getElem?_of_mem hx
  obtain ⟨m, _, h1, _⟩ := mp_at hk hv hj
  obtain ⟨key, val, born⟩ := x
  simp only at h1
  subst h1
  exact ⟨_, rd_mk (keyQ (sqI_0 _ _) (sqI_1 _ _)) rfl⟩
theorem zeroMs (w : World) : (zeroValue 56).run Try.prog w = .ok msZ w := by kernel_rfl

theorem map_erase {α β : Type} (f : α → β) : ∀ (l : List α) (i : Nat), (l.eraseIdx i).map f = (l.map f).eraseIdx i
  | [], _ => by simp
  | _ :: _, 0 => by simp
  | a :: l, i + 1 => by simp [map_erase f l i]
section
variable {w : World} {b : Nat} {st : Int} {l : List Ms}
/-- looked up, and there -/
theorem Mp.look (h : Mp w b st l) (hl : l.length ≤ 1000) {m : Ms} (hm : m ∈ l) (hk : ∀ x ∈ l, x.k ≤ 1000001) (c : Bool) :
    (Instr.lookup 54 (.map (some b)) (.int .u64 (sqI st m.k)) c).run Try.prog w = .ok (if c then .tuple #[msV st m, .bool true] else msV st m) w := by
  obtain ⟨es, clock, hb, hs, h1, h2⟩ := h
  rcases Maps.fit_look c keyd Try.underlying54 (zeroMs w) hb (mp_fit hs h1 h2 hl) (keyQ (sqI_0 st m.k) (sqI_1 st m.k)) with ⟨_, hno, _⟩ | ⟨e0, y, he, hkey, hrun, _⟩
  · exfalso
    obtain ⟨j, hj⟩ := List.getElem?_of_mem hm
    have hlt : j < es.toList.length := by
      have := (List.getElem?_eq_some_iff.1 hj).1
      have e := mp_len h1
      simp
      omega
    have hj2 := List.getElem?_eq_getElem hlt
    obtain ⟨m', hm', q1, _⟩ := mp_at h1 h2 hj2
    rw [hj] at hm'
    cases hm'
    exact hno _ (List.getElem_mem hlt) q1
  · obtain ⟨j, hj⟩ := List.getElem?_of_mem he
    obtain ⟨m', hm', q1, q2⟩ := mp_at h1 h2 hj
    have hm2 := List.mem_of_getElem? hm'
    have e1 : m'.k = m.k := sq_inj (hk m' hm2) (hk m hm) (by rw [hkey] at q1; injection q1 with _ q1; exact q1.symm)
    have e3 : m' = m := by
      obtain ⟨i, hi⟩ := List.getElem?_of_mem hm
      have hlt : i < es.toList.length := by
        have := (List.getElem?_eq_some_iff.1 hi).1
        have e := mp_len h1
        simp
        omega
      have hi2 := List.getElem?_eq_getElem hlt
      obtain ⟨m3, hm3, q3, _⟩ := mp_at h1 h2 hi2
      rw [hi] at hm3
      cases hm3
      have hst := (stamped_iff es clock).1 hs
      have : e0 = es.toList[i] := entry_eq_of_key hst.2.2 he (List.getElem_mem hlt) (by rw [q1, q3, e1])
      have hbn := hst.2.1
      have hij : j = i := by
        have hj3 := (List.getElem?_eq_some_iff.1 hj)
        have a1 : (es.toList.map (·.born))[j]'(by simpa using hj3.1) = (es.toList.map (·.born))[i]'(by simpa using hlt) := by
          simp only [List.getElem_map]
          rw [hj3.2, this]
        exact (List.getElem_inj hbn).1 a1
      rw [hij, hi] at hm'
      cases hm'
      rfl
    rw [hrun, q2, e3]
/-- looked up, and not there -/
theorem Mp.look_no (h : Mp w b st l) (hl : l.length ≤ 1000) {q : Int} (h0 : 0 ≤ q) (h1' : q < 18446744073709551616) (hno : ∀ m ∈ l, sqI st m.k ≠ q) (c : Bool) :
    (Instr.lookup 54 (.map (some b)) (.int .u64 q) c).run Try.prog w = .ok (if c then .tuple #[msZ, .bool false] else msZ) w := by
  obtain ⟨es, clock, hb, hs, h1, h2⟩ := h
  rcases Maps.fit_look c keyd Try.underlying54 (zeroMs w) hb (mp_fit hs h1 h2 hl) (keyQ h0 h1') with ⟨hrun, _⟩ | ⟨e0, y, he, hkey, hrun, _⟩
  · exact hrun
  · exfalso
    obtain ⟨j, hj⟩ := List.getElem?_of_mem he
    obtain ⟨m', hm', q1, q2⟩ := mp_at h1 h2 hj
    rw [hkey] at q1
    injection q1 with _ q1
    exact hno m' (List.mem_of_getElem? hm') q1.symm
theorem Mp.len (h : Mp w b st l) (ty : TypeId) : (Builtin.len_ #[54] ty #[.map (some b)]).run Try.prog w = .ok (.int .i64 (l.length : Int)) w := by
  obtain ⟨es, clock, hb, hs, h1, h2⟩ := h
  rw [← mp_len h1]
  simp [Builtin.len_, run_underlying Try.underlying54, MapKept.run_getObj_map hb, goInt, Result.andThen]
/-- a new one is laid -/
theorem Mp.store (h : Mp w b st l) (hl : l.length ≤ 1000) {m : Ms} (hno : ∀ x ∈ l, sqI st x.k ≠ sqI st m.k) :
    ∃ w', (Instr.mapUpdate 54 (.map (some b)) (.int .u64 (sqI st m.k)) (msV st m)).run Try.prog w = .ok () w' ∧ Mp w' b st (l ++ [m]) ∧ But (fun i => i = b) w w' ∧ w'.heap.size = w.heap.size ∧ ∀ i, i ≠ b → w'.heap[i]? = w.heap[i]? := by
  obtain ⟨es, clock, hb, hs, h1, h2⟩ := h
  have hkey := keyQ (sqI_0 st m.k) (sqI_1 st m.k)
  rcases keyd.find w hkey es.toList (mp_fit hs h1 h2 hl).keys with ⟨f1, f2⟩ | ⟨j, e0, f1, f2, f3⟩
  · have hother := fun i (hi : i ≠ b) => heap_setBlock_other hb (.map (es.push ⟨.int .u64 (sqI st m.k), msV st m, clock⟩) (clock + 1)) hi
    refine ⟨setBlock w b (.map (es.push ⟨.int .u64 (sqI st m.k), msV st m, clock⟩) (clock + 1)), ?_, ⟨_, _, heap_setBlock_same hb _, stamped_push hs f2, ?_, ?_⟩, ⟨rfl, rfl, rfl, by simp [setBlock], fun i _ hi => hother i hi⟩, by simp [setBlock], hother⟩
    · simp [Instr.mapUpdate, run_underlying Try.underlying54, MapKept.run_getObj_map hb, keyd.check w false hkey, f1, MapKept.run_setObj_map _ hb, Result.andThen, setBlock]
    · simp [h1]
    · simp [h2]
  · exfalso
    obtain ⟨m', hm', q1, _⟩ := mp_at h1 h2 f2
    rw [f3] at q1
    injection q1 with _ q1
    exact hno m' (List.mem_of_getElem? hm') q1.symm
/-- one is dropped -/
theorem Mp.drop (h : Mp w b st l) (hl : l.length ≤ 1000) (hk : ∀ x ∈ l, x.k ≤ 1000001) {U V : List Ms} {m : Ms} (e : l = U ++ m :: V) (ty : TypeId) :
    ∃ w', (Builtin.delete_ #[54, 22] ty #[.map (some b), .int .u64 (sqI st m.k)]).run Try.prog w = .ok (.tuple #[]) w' ∧ Mp w' b st (U ++ V) ∧ But (fun i => i = b) w w' ∧ w'.heap.size = w.heap.size ∧ ∀ i, i ≠ b → w'.heap[i]? = w.heap[i]? := by
  obtain ⟨es, clock, hb, hs, h1, h2⟩ := h
  have hkey := keyQ (sqI_0 st m.k) (sqI_1 st m.k)
  have hst := (stamped_iff es clock).1 hs
  have hnd : ∀ (i j : Nat) (x y : Ms), l[i]? = some x → l[j]? = some y → x.k = y.k → i = j := by
    intro i j x y hi hj hxy
    have li : i < es.toList.length := by have := (List.getElem?_eq_some_iff.1 hi).1; have e := mp_len h1; simp; omega
    have lj : j < es.toList.length := by have := (List.getElem?_eq_some_iff.1 hj).1; have e := mp_len h1; simp; omega
    obtain ⟨x', hx', qx, _⟩ := mp_at h1 h2 (List.getElem?_eq_getElem li)
    obtain ⟨y', hy', qy, _⟩ := mp_at h1 h2 (List.getElem?_eq_getElem lj)
    rw [hi] at hx'; cases hx'
    rw [hj] at hy'; cases hy'
    have := entry_eq_of_key hst.2.2 (List.getElem_mem li) (List.getElem_mem lj) (by rw [qx, qy, hxy])
    have a1 : (es.toList.map (·.born))[i]'(by simpa using li) = (es.toList.map (·.born))[j]'(by simpa using lj) := by
      simp only [List.getElem_map]
      rw [this]
    exact (List.getElem_inj hst.2.1).1 a1
  have hU : l[U.length]? = some m := by rw [e]; simp
  rcases keyd.find w hkey es.toList (mp_fit hs h1 h2 hl).keys with ⟨f1, f2⟩ | ⟨j, e0, f1, f2, f3⟩
  · exfalso
    have hlt : U.length < es.toList.length := by have := (List.getElem?_eq_some_iff.1 hU).1; have e := mp_len h1; simp; omega
    obtain ⟨m', hm', q1, _⟩ := mp_at h1 h2 (List.getElem?_eq_getElem hlt)
    rw [hU] at hm'; cases hm'
    exact f2 _ (List.getElem_mem hlt) q1
  · obtain ⟨m', hm', q1, _⟩ := mp_at h1 h2 f2
    rw [f3] at q1
    injection q1 with _ q1
    have hj : j = U.length := hnd j U.length m' m hm' hU (sq_inj (hk m' (List.mem_of_getElem? hm')) (hk m (List.mem_of_getElem? hU)) q1.symm)
    subst hj
    have hjs : U.length < es.size := by have := (List.getElem?_eq_some_iff.1 f2).1; simpa using this
    have hsub : (es.eraseIdxIfInBounds U.length).toList = es.toList.eraseIdx U.length := by
      unfold Array.eraseIdxIfInBounds
      rw [dif_pos hjs]
      simp
    have hel : l.eraseIdx U.length = U ++ V := by rw [e, List.eraseIdx_append_of_length_le (Nat.le_refl _)]; simp
    have hother := fun i (hi : i ≠ b) => heap_setBlock_other hb (.map (es.eraseIdxIfInBounds U.length) clock) hi
    refine ⟨setBlock w b (.map (es.eraseIdxIfInBounds U.length) clock), ?_, ⟨_, _, heap_setBlock_same hb _, stamped_erase hs _, ?_, ?_⟩, ⟨rfl, rfl, rfl, by simp [setBlock], fun i _ hi => hother i hi⟩, by simp [setBlock], hother⟩
    · simp [Builtin.delete_, run_underlying Try.underlying54, MapKept.run_getObj_map hb, keyd.check w _ hkey, f1, MapKept.run_setObj_map _ hb, Result.andThen, setBlock]
    · rw [hsub, ← hel, map_erase, map_erase, h1]
    · rw [hsub, ← hel, map_erase, map_erase, h2]
/-- all are dropped -/
theorem Mp.clear (h : Mp w b st l) (ty : TypeId) :
    ∃ w', (Builtin.clear_ #[54] ty #[.map (some b)]).run Try.prog w = .ok (.tuple #[]) w' ∧ Mp w' b st [] ∧ But (fun i => i = b) w w' ∧ w'.heap.size = w.heap.size ∧ ∀ i, i ≠ b → w'.heap[i]? = w.heap[i]? := by
  obtain ⟨es, clock, hb, hs, h1, h2⟩ := h
  have hother := fun i (hi : i ≠ b) => heap_setBlock_other hb (.map #[] clock) hi
  refine ⟨setBlock w b (.map #[] clock), ?_, ⟨_, _, heap_setBlock_same hb _, stamped_empty _, by simp, by simp⟩, ⟨rfl, rfl, rfl, by simp [setBlock], fun i _ hi => hother i hi⟩, by simp [setBlock], hother⟩
  simp [Builtin.clear_, run_underlying Try.underlying54, MapKept.run_getObj_map hb, MapKept.run_setObj_map _ hb, Result.andThen, setBlock]
end
/-- a new map -/
theorem mp_new (w : World) (st : Int) : Mp (w.alloc (.map #[] 0)) w.heap.size st [] :=
  ⟨#[], 0, (MapKept.heap_alloc w _).1, stamped_empty 0, by simp, by simp⟩
end Go.Proofs.Ytilahfomiofgcaa
