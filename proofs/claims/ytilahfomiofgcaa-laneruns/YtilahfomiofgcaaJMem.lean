/- Lanes in memory: one block of 392 cells, a map, a row. -/
import Derived.Test.YtilahfomiofgcaaJMap
import Derived.Test.YtilahfomiofgcaaGRows
namespace Go.Proofs.Ytilahfomiofgcaa
open Go.RowKit
set_option maxRecDepth 100000

/-- the cells of a lane's block -/
structure Pt (w : World) (p : Nat) (f : Nat → Value) : Prop where
  bl : ∃ cur T, w.heap[p]? = some (.cells cur T (0, 0)) ∧ cur.size = 392
  at_ : ∀ i, i < 392 → w.cell? ⟨p, i, none⟩ = some (f i)
theorem Pt.lt {w : World} {p : Nat} {f : Nat → Value} (h : Pt w p f) : p < w.heap.size := by
  obtain ⟨cur, T, hb, _⟩ := h.bl
  exact (Array.getElem?_eq_some_iff.1 hb).1
theorem Pt.fz {w : World} {p : Nat} {f : Nat → Value} (h : Pt w p f) (i : Nat) : w.frozen? ⟨p, i, none⟩ = false := by
  obtain ⟨cur, T, hb, _⟩ := h.bl
  simp [World.frozen?, hb]
theorem Pt.same {w w' : World} {p : Nat} {f : Nat → Value} (h : Pt w p f) (hb : w'.heap[p]? = w.heap[p]?) : Pt w' p f := by
  obtain ⟨cur, T, h1, h2⟩ := h.bl
  exact ⟨⟨cur, T, hb.trans h1, h2⟩, fun i hi => (World.cell?_of_block (w := w) (a := ⟨p, i, none⟩) hb).trans (h.at_ i hi)⟩
theorem Pt.set {w : World} {p : Nat} {f : Nat → Value} (h : Pt w p f) {i : Nat} (hi : i < 392) (v : Value) : Pt (w.setCell ⟨p, i, none⟩ v) p (upd f i v) := by
  obtain ⟨cur, T, h1, h2⟩ := h.bl
  refine ⟨⟨cur.setIfInBounds i v, T, ?_, by simpa using h2⟩, fun j hj => ?_⟩
  · rw [setCell_eq_setRow w p i cur T (0, 0) v h1]
    exact setRow_heap w p cur _ T _ h1
  · by_cases e : j = i
    · subst e
      rw [cell_set_eq (h.at_ j hj), upd_at]
    · rw [cell_set_ne (.inr e), upd_ne e]
      exact h.at_ j hj
/-- six cells side by side -/
def upd6 (f : Nat → Value) (i : Nat) (v0 v1 v2 v3 v4 v5 : Value) : Nat → Value := upd (upd (upd (upd (upd (upd f i v0) (i + 1) v1) (i + 2) v2) (i + 3) v3) (i + 4) v4) (i + 5) v5
theorem upd6_at {f : Nat → Value} {i : Nat} {v0 v1 v2 v3 v4 v5 : Value} {j : Nat} {v : Value} (h : [v0, v1, v2, v3, v4, v5][j]? = some v) : upd6 f i v0 v1 v2 v3 v4 v5 (i + j) = v := by
  match j, h with
  | 0, h => cases h; simp [upd6, upd]
  | 1, h => cases h; simp [upd6, upd]
  | 2, h => cases h; simp [upd6, upd]
  | 3, h => cases h; simp [upd6, upd]
  | 4, h => cases h; simp [upd6, upd]
  | 5, h => cases h; simp [upd6, upd]
theorem upd6_ne {f : Nat → Value} {i : Nat} {v0 v1 v2 v3 v4 v5 : Value} {j : Nat} (h : j < i ∨ i + 6 ≤ j) : upd6 f i v0 v1 v2 v3 v4 v5 j = f j := by
  unfold upd6
  rw [upd_ne (by omega), upd_ne (by omega), upd_ne (by omega), upd_ne (by omega), upd_ne (by omega), upd_ne (by omega)]
theorem Pt.set6 {w : World} {p : Nat} {f : Nat → Value} (h : Pt w p f) {i : Nat} (hi : i + 5 < 392) (v0 v1 v2 v3 v4 v5 : Value) :
    Pt ((((((w.setCell ⟨p, i, none⟩ v0).setCell ⟨p, i + 1, none⟩ v1).setCell ⟨p, i + 2, none⟩ v2).setCell ⟨p, i + 3, none⟩ v3).setCell ⟨p, i + 4, none⟩ v4).setCell ⟨p, i + 5, none⟩ v5) p (upd6 f i v0 v1 v2 v3 v4 v5) :=
  (((((h.set (by omega) v0).set (by omega) v1).set (by omega) v2).set (by omega) v3).set (by omega) v4).set (by omega) v5

/-- a number's place in the block -/
def plN (q : Int) : Nat := 6 + pzN q * 6
theorem plN_lt (q : Int) : 6 ≤ plN q ∧ plN q + 5 < 390 := by have := pz_lt q; unfold plN; omega
/-- what a lane's block says -/
structure Lf (f : Nat → Value) (A : La) (bm : Nat) (hv : Value) : Prop where
  f0 : f 0 = .int .i64 (A.cr : Int)
  f1 : f 1 = .bool A.two
  f2 : f 2 = .int .u64 A.ep
  f3 : f 3 = .int .u64 (sqI A.st A.h)
  f4 : f 4 = .int .u64 (sqI A.st A.r)
  f5 : f 5 = .int .u64 (sqI A.st A.c)
  rg : ∀ m, m ∈ A.P ++ A.C → ∀ j v, (msC A.st m)[j]? = some v → f (plN (sqI A.st m.k) + j) = v
  cm : f 390 = .map (some bm)
  ch : f 391 = hv
def encM (st : Int) (l : List Ms) : List Value := l.flatMap (msC st)
theorem encM_len (st : Int) (l : List Ms) : (encM st l).length = l.length * 6 := by
  induction l with
  | nil => rfl
  | cons m l ih => simp [encM, msC] at ih ⊢; omega
theorem encM_app (st : Int) (l k : List Ms) : encM st (l ++ k) = encM st l ++ encM st k := by simp [encM]

/-- where a lane lies, and in what order its taken and its held ones do -/
structure Lo where
  p : Nat
  bm : Nat
  hv : Value
  tl : List Ms
  hl : List Ms
  f : Nat → Value
def Lo.base (o : Lo) : Nat := max o.p o.bm + 1
def Lo.has (o : Lo) (b : Nat) : Prop := b = o.p ∨ b = o.bm ∨ o.hv.ownBlock = some b
abbrev Lo.ptr (o : Lo) : Value := .pointer (some ⟨o.p, 0, none⟩)
structure Lx (w : World) (o : Lo) (A : La) : Prop where
  pt : Pt w o.p o.f
  lf : Lf o.f A o.bm o.hv
  mp : Mp w o.bm A.st o.tl
  hd : w.ownsRow o.base 56 6 o.hv o.hl.length (encM A.st o.hl)
  tp : o.tl.Perm (A.T.filter is3)
  hp : o.hl.Perm (A.T.filter is4)
  ne : o.p < o.base ∧ o.bm < o.base ∧ o.p ≠ o.bm
  ok : A.Ok

theorem Lx.lt {w : World} {o : Lo} {A : La} (x : Lx w o A) {b : Nat} (h : o.has b) : b < w.heap.size := by
  rcases h with rfl | rfl | h
  · exact x.pt.lt
  · exact x.mp.lt
  · exact (x.hd.lt b h).2
theorem own_block {w w' : World} {base : Nat} {e : TypeId} {size : Nat} {v : Value} {n : Nat} {xs : List Value} (h : w.ownsRow base e size v n xs) (hb : ∀ b, v.ownBlock = some b → w'.heap[b]? = w.heap[b]?) : w'.ownsRow base e size v n xs := by
  refine ⟨h.1, ?_⟩
  rcases h.2 with hn | ⟨g, cap, cur, rfl, hbb, hg, rest⟩
  · exact .inl hn
  · exact .inr ⟨g, cap, cur, rfl, hbb, (hb g rfl).trans hg, rest⟩
theorem Lx.same {w w' : World} {o : Lo} {A : La} (x : Lx w o A) (hb : ∀ b, o.has b → w'.heap[b]? = w.heap[b]?) : Lx w' o A :=
  ⟨x.pt.same (hb _ (.inl rfl)), x.lf, x.mp.same (hb _ (.inr (.inl rfl))), own_block x.hd (fun b h => hb b (.inr (.inr h))), x.tp, x.hp, x.ne, x.ok⟩
theorem Lx.but {w w' : World} {o : Lo} {A : La} {S : Nat → Prop} (x : Lx w o A) (hb : But S w w') (hS : ∀ b, o.has b → ¬ S b) : Lx w' o A :=
  x.same fun b ho => hb.block b (x.lt ho) (hS b ho)
theorem Lx.below {w w' : World} {o : Lo} {A : La} (x : Lx w o A) (hb : Below w.heap.size w w') : Lx w' o A :=
  x.same fun b ho => hb.block b (x.lt ho)
theorem Lx.alloc {w : World} {o : Lo} {A : La} (x : Lx w o A) (y : Obj) : Lx (w.alloc y) o A := x.below ((Below.refl _ w).alloc (Nat.le_refl _) _)
theorem Lx.drew {w : World} {o : Lo} {A : La} (x : Lx w o A) : Lx w.drew o A := x.same fun _ _ => rfl
/-- a store into a block of another's -/
theorem Lx.setNew {w : World} {o : Lo} {A : La} (x : Lx w o A) {a : Addr} (ha : ¬ o.has a.block) (v : Value) : Lx (w.setCell a v) o A :=
  x.same fun b ho => Below.heap_setCell _ _ _ _ (by rintro rfl; exact ha ho)

/-- the lane's own cells, as they are read -/
structure Lc (w : World) (p : Nat) (A : La) (bm : Nat) (hv : Value) : Prop where
  c0 : w.cell? ⟨p, 0, none⟩ = some (.int .i64 (A.cr : Int))
  c1 : w.cell? ⟨p, 1, none⟩ = some (.bool A.two)
  c2 : w.cell? ⟨p, 2, none⟩ = some (.int .u64 A.ep)
  c3 : w.cell? ⟨p, 3, none⟩ = some (.int .u64 (sqI A.st A.h))
  c4 : w.cell? ⟨p, 4, none⟩ = some (.int .u64 (sqI A.st A.r))
  c5 : w.cell? ⟨p, 5, none⟩ = some (.int .u64 (sqI A.st A.c))
  cm : w.cell? ⟨p, 390, none⟩ = some (.map (some bm))
  ch : w.cell? ⟨p, 391, none⟩ = some hv
theorem Lx.lc {w : World} {o : Lo} {A : La} (x : Lx w o A) : Lc w o.p A o.bm o.hv :=
  ⟨(x.pt.at_ 0 (by decide)).trans (by rw [x.lf.f0]), (x.pt.at_ 1 (by decide)).trans (by rw [x.lf.f1]), (x.pt.at_ 2 (by decide)).trans (by rw [x.lf.f2]), (x.pt.at_ 3 (by decide)).trans (by rw [x.lf.f3]),
    (x.pt.at_ 4 (by decide)).trans (by rw [x.lf.f4]), (x.pt.at_ 5 (by decide)).trans (by rw [x.lf.f5]), (x.pt.at_ 390 (by decide)).trans (by rw [x.lf.cm]), (x.pt.at_ 391 (by decide)).trans (by rw [x.lf.ch])⟩
/-- a message in the ring -/
theorem Lx.ring {w : World} {o : Lo} {A : La} (x : Lx w o A) {m : Ms} (hm : m ∈ A.P ++ A.C) :
    w.cell? ⟨o.p, plN (sqI A.st m.k), none⟩ = some (.int .u64 (sqI A.st m.k)) ∧ w.cell? ⟨o.p, plN (sqI A.st m.k) + 1, none⟩ = some (.int .i64 m.n) ∧ w.cell? ⟨o.p, plN (sqI A.st m.k) + 2, none⟩ = some (.int .u64 m.g) ∧
    w.cell? ⟨o.p, plN (sqI A.st m.k) + 3, none⟩ = some (.bool m.laid) ∧ w.cell? ⟨o.p, plN (sqI A.st m.k) + 4, none⟩ = some (.int .i64 m.tk) ∧ w.cell? ⟨o.p, plN (sqI A.st m.k) + 5, none⟩ = some (.int .i64 m.sp) := by
  have hb := plN_lt (sqI A.st m.k)
  have h := fun j v hj => (x.pt.at_ (plN (sqI A.st m.k) + j) (by have := (List.getElem?_eq_some_iff.1 hj).1; simp [msC] at this; omega)).trans (congrArg some (x.lf.rg m hm j v hj))
  exact ⟨h 0 _ rfl, h 1 _ rfl, h 2 _ rfl, h 3 _ rfl, h 4 _ rfl, h 5 _ rfl⟩
/-- some cells lie at each place of the ring -/
theorem Lx.cel {w : World} {o : Lo} {A : La} (x : Lx w o A) (q : Int) (j : Nat) (hj : j < 6) : w.cell? ⟨o.p, plN q + j, none⟩ = some (o.f (plN q + j)) := x.pt.at_ _ (by have := plN_lt q; omega)
theorem Lx.tl_mem {w : World} {o : Lo} {A : La} (x : Lx w o A) {m : Ms} (h : m ∈ o.tl) : m ∈ A.T ∧ m.is = 3 := by
  have := (x.tp.mem_iff).1 h
  rw [List.mem_filter] at this
  exact ⟨this.1, by simpa [is3] using this.2⟩
theorem Lx.tl_k {w : World} {o : Lo} {A : La} (x : Lx w o A) : ∀ m ∈ o.tl, m.k ≤ 1000001 := fun m hm => by
  have h1 := x.ok.kT m (x.tl_mem hm).1
  have h2 := x.ok.bd
  omega
theorem filter_two {l : List Ms} (h : ∀ m, m ∈ l → m.is = 3 ∨ m.is = 4) : (l.filter is3).length + (l.filter is4).length = l.length := by
  induction l with
  | nil => rfl
  | cons m l ih =>
    have h1 := ih fun x hx => h x (by simp [hx])
    rcases h m (by simp) with e | e <;> simp [is3, is4, e] at h1 ⊢ <;> omega
theorem Lx.tl_len {w : World} {o : Lo} {A : La} (x : Lx w o A) : o.tl.length + o.hl.length = A.T.length ∧ A.T.length ≤ 64 := by
  have h1 := x.tp.length_eq
  have h2 := x.hp.length_eq
  have h3 := filter_two (l := A.T) fun m hm => (x.ok.kT m hm).2
  have h4 := x.ok.bd
  omega

/-! ### what is written -/
section
variable {f : Nat → Value} {A : La} {bm : Nat} {hv : Value}
theorem plN_ne {s : Int} {a b : Nat} (h1 : a < b) (h2 : b < a + 64) : plN (sqI s a) + 6 ≤ plN (sqI s b) ∨ plN (sqI s b) + 6 ≤ plN (sqI s a) := by
  have := pz_ne (s := s) h1 h2
  unfold plN
  omega
theorem La.Ok.span (ok : A.Ok) : A.c ≤ A.h + 64 := by
  have h1 := ok.hr
  have h2 := ok.room
  have h3 := ok.cr
  unfold La.len at h2
  omega
theorem La.Ok.pc {m : Ms} (ok : A.Ok) (h : m ∈ A.P ++ A.C) : A.h ≤ m.k ∧ m.k < A.c := by
  have h1 := ok.hr
  rcases List.mem_append.1 h with h | h
  · have := ok.mem_P h; omega
  · have := ok.mem_C h; omega
/-- two messages in the ring don't meet -/
theorem La.Ok.apart {m : Ms} {k : Nat} (ok : A.Ok) (h : m ∈ A.P ++ A.C) (hk : A.h ≤ k ∧ k < A.h + 64) (hne : m.k ≠ k) : plN (sqI A.st m.k) + 6 ≤ plN (sqI A.st k) ∨ plN (sqI A.st k) + 6 ≤ plN (sqI A.st m.k) := by
  have h1 := ok.pc h
  have h2 := ok.span
  by_cases e : m.k < k
  · exact plN_ne e (by omega)
  · have := plN_ne (s := A.st) (a := k) (b := m.k) (by omega) (by omega)
    omega
theorem Lf.claim (l : Lf f A bm hv) (ok : A.Ok) (hr : roomB A = true) :
    Lf (upd (upd6 f (plN (sqI A.st A.c)) (.int .u64 (sqI A.st A.c)) (.int .i64 0) (.int .u64 0) (.bool false) (.int .i64 0) (.int .i64 0)) 5 (.int .u64 (sqI A.st (A.c + 1)))) (claimA A) bm hv := by
  have hb := plN_lt (sqI A.st A.c)
  have hrm : A.len < A.cr := by simpa [roomB] using hr
  have h1 := ok.hr
  have h3 := ok.cr
  have e1 : (claimA A).r = A.r := by unfold claimA; rw [if_pos hr]; simp [La.r]
  have e2 : (claimA A).h = A.h := by unfold claimA; rw [if_pos hr]; simp [La.h]
  have es : (claimA A).st = A.st := (claimA_st A).1
  have low : ∀ i, i < 5 → upd (upd6 f (plN (sqI A.st A.c)) (.int .u64 (sqI A.st A.c)) (.int .i64 0) (.int .u64 0) (.bool false) (.int .i64 0) (.int .i64 0)) 5 (.int .u64 (sqI A.st (A.c + 1))) i = f i := fun i hi => by rw [upd_ne (by omega), upd6_ne (by omega)]
  refine ⟨?_, ?_, ?_, ?_, ?_, ?_, ?_, ?_, ?_⟩
  · rw [low 0 (by decide), l.f0, (claimA_st A).2.2.2.1]
  · rw [low 1 (by decide), l.f1, (claimA_st A).2.2.1]
  · rw [low 2 (by decide), l.f2, (claimA_st A).2.1]
  · rw [low 3 (by decide), l.f3, e2, es]
  · rw [low 4 (by decide), l.f4, e1, es]
  · rw [upd_at, es]; unfold claimA; rw [if_pos hr]
  · intro m hm j v hj
    rw [es] at hj ⊢
    have hj6 : j < 6 := by have := (List.getElem?_eq_some_iff.1 hj).1; simpa [msC] using this
    have hpl := plN_lt (sqI A.st m.k)
    rw [upd_ne (by omega)]
    unfold claimA at hm
    rw [if_pos hr] at hm
    simp only [← List.append_assoc, List.mem_append, List.mem_singleton] at hm
    rw [or_assoc] at hm
    rcases hm with hm | hm | hm
    · have := ok.apart (k := A.c) (List.mem_append_left _ hm) (by unfold La.len at hrm; omega) (by have := ok.mem_P hm; omega)
      rw [upd6_ne (by omega)]
      exact l.rg m (List.mem_append_left _ hm) j v hj
    · have := ok.apart (k := A.c) (List.mem_append_right _ hm) (by unfold La.len at hrm; omega) (by have := ok.mem_C hm; omega)
      rw [upd6_ne (by omega)]
      exact l.rg m (List.mem_append_right _ hm) j v hj
    · subst hm
      exact upd6_at hj
  · rw [upd_ne (by omega), upd6_ne (by omega), l.cm]
  · rw [upd_ne (by omega), upd6_ne (by omega), l.ch]
end
end Go.Proofs.Ytilahfomiofgcaa
