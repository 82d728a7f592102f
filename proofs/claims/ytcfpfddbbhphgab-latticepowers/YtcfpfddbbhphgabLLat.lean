/- lattice.Lattice: each two labels have a join and a meet, or the first two that have not. -/
import Derived.Test.YtcfpfddbbhphgabLJoin
import Derived.Test.YtcfpfddbbhphgabLPairs
namespace Go.Proofs.Ytcfpfddbbhphgab
open Go.RowKit Go.Shelf
attribute [local go_sem] Oper.semAt_some
attribute [local go_sem ↓] wp_at wp_succ wp_zero wpIn_at wpIn_succ wpIn_zero

/-- two labels without a join or a meet -/
def badB (n : Nat) (z : Nat → Int) (a b : Nat) : Bool := (jn n z a b == 0) || (mt n z a b == 0)
/-- what Lattice tells -/
def LatIs (n : Nat) (z : Nat → Int) (x y : Nat) (ok : Bool) : Prop :=
  (ok = true ∧ x = 0 ∧ y = 0 ∧ ∀ a b, a < n → b < n → badB n z a b = false) ∨
  (ok = false ∧ x < n ∧ y < n ∧ badB n z x y = true ∧ ∀ a b, b < n → (a < x ∨ (a = x ∧ b < y)) → badB n z a b = false)
theorem LatIs.one {n : Nat} {z : Nat → Int} {x y x' y' : Nat} {ok ok' : Bool} (h : LatIs n z x y ok) (h' : LatIs n z x' y' ok') : x = x' ∧ y = y' ∧ ok = ok' := by
  rcases h with ⟨h1, h2, h3, h4⟩ | ⟨h1, h2, h3, h4, h5⟩ <;> rcases h' with ⟨g1, g2, g3, g4⟩ | ⟨g1, g2, g3, g4, g5⟩
  · exact ⟨h2.trans g2.symm, h3.trans g3.symm, h1.trans g1.symm⟩
  · rw [h4 x' y' g2 g3] at g4; cases g4
  · rw [g4 x y h2 h3] at h4; cases h4
  · refine ⟨?_, ?_, h1.trans g1.symm⟩
    · rcases Nat.lt_trichotomy x x' with h | h | h
      · rw [g5 x y h3 (.inl h)] at h4; cases h4
      · exact h
      · rw [h5 x' y' g3 (.inl h)] at g4; cases g4
    · rcases Nat.lt_trichotomy x x' with h | h | h
      · rw [g5 x y h3 (.inl h)] at h4; cases h4
      · subst h
        rcases Nat.lt_trichotomy y y' with h | h | h
        · rw [g5 x y h3 (.inr ⟨rfl, h⟩)] at h4; cases h4
        · exact h
        · rw [h5 x y' g3 (.inr ⟨rfl, h⟩)] at g4; cases g4
      · rw [h5 x' y' g3 (.inl h)] at g4; cases g4

/-- the three answers, stored -/
theorem pbox_other {W : World} {B B' : Nat} {u d : Value} (h : PBox W B u d) (hne : B' ≠ B) (v : Value) : PBox (W.setCell ⟨B', 0, none⟩ v) B u d :=
  ⟨(World.cell?_setCell_other _ _ _ _ (by intro e; cases e; exact hne rfl)).trans h.1, (World.cell?_setCell_other _ _ _ _ (by intro e; cases e)).trans h.2⟩
def put3 (W : World) (B : Nat) (x y o e : Value) : World := (((W.setCell ⟨B, 0, none⟩ x).setCell ⟨B, 1, none⟩ y).setCell ⟨B + 1, 0, none⟩ o).setCell ⟨B + 1 + 1, 0, none⟩ e
theorem put3_flow {W : World} {B : Nat} {u d : Value} (h : PBox W B u d) (x y o e : Value) : PBox (put3 W B x y o e) B x y := pbox_other (pbox_other (pbox_set h x y) (by omega) _) (by omega) _
theorem put3_ok {W : World} {B : Nat} {t : TypeId} {o' : Value} (h : Boxed W (B + 1) t o') (x y o e : Value) : Boxed (put3 W B x y o e) (B + 1) t o :=
  Boxed.otherAt ((Boxed.otherAt (Boxed.otherAt h (by omega) 0 x) (by omega) 1 y).set o) (by omega) 0 e
theorem put3_err {W : World} {B : Nat} {t : TypeId} {e' : Value} (h : Boxed W (B + 1 + 1) t e') (x y o e : Value) : Boxed (put3 W B x y o e) (B + 1 + 1) t e :=
  (Boxed.otherAt (Boxed.otherAt (Boxed.otherAt h (by omega) 0 x) (by omega) 1 y) (by omega) 0 o).set e
theorem put3_keeps (W : World) (B : Nat) (x y o e : Value) : KeepsOthers W (put3 W B x y o e) :=
  (((KeepsOthers.setCell _ _ _).trans (KeepsOthers.setCell _ _ _)).trans (KeepsOthers.setCell _ _ _)).trans (KeepsOthers.setCell _ _ _)
theorem put3_below {w W : World} {B : Nat} (h : Below w.heap.size w W) (hB : w.heap.size ≤ B) (x y o e : Value) : Below w.heap.size w (put3 W B x y o e) :=
  (((h.setCell (p := ⟨B, 0, none⟩) hB _).setCell (p := ⟨B, 1, none⟩) hB _).setCell (p := ⟨B + 1, 0, none⟩) (by simp; omega) _).setCell (p := ⟨B + 1 + 1, 0, none⟩) (by simp; omega) _
theorem flow_new (w : World) (x y : Value) (t : TypeId) : PBox (w.alloc (.cells #[x, y] t)) w.heap.size x y := pbox_new w x y t

set_option maxRecDepth 100000 in
set_option maxHeartbeats 2000000 in
theorem lattice_ok (a : Option Addr) (n cap : Nat) (z : Nat → Int) (w : World) (hn : n < 9223372036854775807) (hc : Cells w .u64 a n z) (hz : Bds n z) (hk : polE n z = 0) :
    Calls Try.prog 8 #[.slice a n cap] w fun e w' => ∃ x y : Nat, ∃ ok, e = .returned (.tuple #[.agg #[.int .i64 x, .int .i64 y], .bool ok, .int .i64 0]) ∧ LatIs n z x y ok ∧ Below w.heap.size w w' := by
  have hP := pol_of hz hk
  have HP : Hid (Pol n z) := hP
  have HC : Hid (Cells w .u64 a n z) := hc
  have HK : Hid (polE n z = 0) := hk
  have hrd := fun w' h => read_un a n cap z w' hn h hz
  have hn16 := hP.le
  clear hc hz hP hk
  refine (callsIn_wide (n := 8)).1 ?_
  refine callsIn_of_wp_marks Try.func8 rfl trivial ?_ rfl
  simp only [Try.ntmps8, List.size_toArray, List.length_cons, List.length_nil, Nat.reduceAdd, Nat.reduceSub, Array.replicate_succ, Array.replicate_zero, List.push_toArray, List.append_toArray, List.nil_append, List.cons_append]
  obtain ⟨w0, hw0⟩ : ∃ w0, w0 = ((w.alloc (.cells #[.int .i64 0, .int .i64 0] 26)).alloc (.cells #[.bool false] 4)).alloc (.cells #[.int .i64 0] 27) := ⟨_, rfl⟩
  have hB0 : Below w.heap.size w w0 := by
    rw [hw0]; exact (((Below.refl _ w).alloc (Nat.le_refl _) _).alloc (by simp) _).alloc (by simp; omega) _
  have b1 := flow_new w (.int .i64 0) (.int .i64 0) 26
  have b2 := Boxed.new (w.alloc (.cells #[.int .i64 0, .int .i64 0] 26)) 4 (.bool false)
  have b3 := Boxed.new ((w.alloc (.cells #[.int .i64 0, .int .i64 0] 26)).alloc (.cells #[.bool false] 4)) 27 (.int .i64 0)
  simp only [World.size_alloc] at b2 b3
  gi_wp2_with fail
  rw [← hw0]
  have c1 : PBox w0 w.heap.size (.int .i64 0) (.int .i64 0) := by
    rw [hw0]; exact (b1.below ((Below.refl _ _).alloc (Nat.le_refl _) _)).below ((Below.refl _ _).alloc (Nat.le_refl _) _)
  have f1 : w0.heap[w.heap.size]? = some (.cells #[.int .i64 0, .int .i64 0] 26 (0, 0)) := by
    rw [hw0]
    exact (Below.block (((Below.refl _ _).alloc (Nat.le_refl _) _).alloc (by simp) _) w.heap.size (by simp)).trans (World.alloc_heap_new w _)
  have c2 : Boxed w0 (w.heap.size + 1) 4 (.bool false) := by rw [hw0]; exact b2.alloc _
  have c3 : Boxed w0 (w.heap.size + 1 + 1) 27 (.int .i64 0) := by rw [hw0]; exact b3
  have hs0 : w0.heap.size = w.heap.size + 3 := by rw [hw0]; simp
  clear b1 b2 b3 hw0
  refine ⟨trivial, (callsIn_wide.2 (hrd _ (HC.out.below hB0))).mono ?_⟩
  rintro e w1 ⟨hb, ⟨hk', _⟩ | ⟨_, d, dc, rfl, hd⟩⟩
  · exact absurd HK.out hk'
  clear hrd
  obtain ⟨wp, hwp⟩ : ∃ wp, wp = w1.alloc (.cells #[.slice a n cap, .slice d n dc] 51) := ⟨_, rfl⟩
  have hb1 : Below w1.heap.size w1 wp := by rw [hwp]; exact (Below.refl _ w1).alloc (Nat.le_refl _) _
  have HD : Hid (Cells wp .u64 d n (turnTo z n)) := hd.below hb1
  have hB1 : Below w.heap.size w wp := Below.onto (Below.onto hB0 hb) hb1
  have HA : Hid (Cells wp .u64 a n z) := HC.out.below hB1
  have hB01 : Below w0.heap.size w0 wp := Below.onto hb hb1
  have f1' : wp.heap[w.heap.size]? = some (.cells #[.int .i64 0, .int .i64 0] 26 (0, 0)) := (hB01.block _ (by omega)).trans f1
  have c2' : Boxed wp (w.heap.size + 1) 4 (.bool false) := Boxed.through c2 hB01
  have c3' : Boxed wp (w.heap.size + 1 + 1) 27 (.int .i64 0) := Boxed.through c3 hB01
  have hPx : PBox wp w1.heap.size (.slice a n cap) (.slice d n dc) := by rw [hwp]; exact pbox_new w1 _ _ _
  have hs1 : wp.heap.size = w1.heap.size + 1 := by rw [hwp]; simp
  have hs01 := hB01.size
  have hs02 := hb.size
  clear f1 c1 c2 c3 hd hB0 hb
  obtain ⟨g1, g2⟩ := hPx
  rw [hwp] at g1 g2
  gi_wp2_with (refine ⟨trivial, ?_⟩; gi_at_call 21; refine (callsIn_wide.2 (pairs_any _ _ _)).mono ?_; rintro e w2 ⟨rfl, rfl⟩)
  rw [← hwp] at g1 g2 ⊢
  have hQ : (wp.alloc (.cells #[.slice a n cap, .slice d n dc] 51)).heap[w1.heap.size + 1]? = some (.cells #[.slice a n cap, .slice d n dc] 51 (0, 0)) := by
    rw [← hs1]; exact World.alloc_heap_new wp _
  have hBq : Below wp.heap.size wp (wp.alloc (.cells #[.slice a n cap, .slice d n dc] 51)) := (Below.refl _ wp).alloc (Nat.le_refl _) _
  have HPx : Hid (PBox wp w1.heap.size (.slice a n cap) (.slice d n dc)) := ⟨g1, g2⟩
  clear g1 g2
  refine wpIn_rangeFunc_ownG rfl (by omega) (gf := 31) (lb := #[.pointer (some ⟨w1.heap.size + 1, 0, none⟩)]) rfl trivial (enters_of Try.func31 (by kernel_rfl) rfl)
    (pairs_stops 7 (by omega) (w1.heap.size + 1) a d n cap dc (by omega) _ hQ) keepsPol_t (fun W l o o' _ hl hc _ => keepsPol_b W l o o' hl hc) (Below.refl _ _) (fun _ => rfl)
    (fun pre W => (∀ p : Pr n, p ∈ pre → badB n z p.1.1 p.1.2 = false) ∧ Below wp.heap.size wp W)
    (fun c pre W => (c = .ret ∧ ∃ pre0 x, pre = pre0 ++ [x] ∧ badB n z x.1.1 x.1.2 = true ∧ (∀ p : Pr n, p ∈ pre0 → badB n z p.1.1 p.1.2 = false) ∧ PBox W w.heap.size (.int .i64 (x.1.1 : Int)) (.int .i64 (x.1.2 : Int)) ∧ Boxed W (w.heap.size + 1) 4 (.bool false) ∧ Boxed W (w.heap.size + 1 + 1) 27 (.int .i64 0)) ∧ Below w.heap.size w W)
    (OwnFrom.and (ownFrom_pure _ _) (ownFrom_below (Nat.le_refl _) (by simp)))
    (fun c => OwnFrom.and (fun pre A B row hs hg hr => ⟨hs.1, by
        obtain ⟨pre0, x, h1, h2, h3, h4, h5, h6⟩ := hs.2
        refine ⟨pre0, x, h1, h2, h3, ?_, ?_, ?_⟩
        · exact ⟨cell_kept h4.1 hg (fun r e => (hr r e).2), cell_kept h4.2 hg (fun r e => (hr r e).2)⟩
        · exact boxed_own (β := Unit) _ _ (fun _ => _) () A B row h5 hg (fun r e => (hr r e).2)
        · exact boxed_own (β := Unit) _ _ (fun _ => _) () A B row h6 hg (fun r e => (hr r e).2)⟩) (ownFrom_below (Nat.le_refl _) (by simp; omega)))
    ⟨fun p hp => absurd hp (by simp), hBq⟩
    (fun x => { tmps := #[.slice a n cap, undef, .pointer (some ⟨w.heap.size, 0, none⟩), .pointer (some ⟨w.heap.size + 1, 0, none⟩), .pointer (some ⟨w.heap.size + 1 + 1, 0, none⟩), .pointer (some ⟨w1.heap.size, 0, none⟩), .int .i64 0, .int .i64 (x.1.1 : Int), .int .i64 (x.1.2 : Int), .tuple #[.agg #[.slice a n cap, .slice d n dc], .int .i64 0], .slice a n cap, .tuple #[.agg #[.slice a n cap, .slice d n dc], .int .i64 0], .agg #[.slice a n cap, .slice d n dc], .int .i64 0, .int .i64 0, .bool false, undef, undef, .agg #[.slice a n cap, .slice d n dc], .func (.func 31) #[] #[.pointer (some ⟨w1.heap.size + 1, 0, none⟩)], .int .i64 (x.1.1 : Int), .int .i64 (x.1.2 : Int), undef, undef, undef, undef, undef, undef, undef, undef, undef, undef, undef, undef, undef, undef, undef, undef], defers := [] }) ?assign ?body ?done ?stop
  case assign =>
    intro l x W K hK
    gi_wp2
    exact hK
  case body =>
    rintro l pre x W ⟨hp, hBW⟩ hlen
    have hx := x.2.1
    have hy := x.2.2
    have hwP := HPx.out.below hBW
    obtain ⟨g1, g2⟩ := hwP
    have HPre : Hid (∀ p : Pr n, p ∈ pre → badB n z p.1.1 p.1.2 = false) := hp
    have hj := pjoins_at a d n cap dc z x.1.1 x.1.2 W hx hy (HA.out.below hBW) HP.out.bds (fun i j hi ht => HP.out.lt hi ht)
    have HBW : Hid (Below wp.heap.size wp W) := hBW
    have hQlt : w1.heap.size + 1 < W.heap.size ∨ True := .inr trivial
    clear hp hQ hBq hwp hb1 hlen
    gi_wp2_with fail
    refine ⟨trivial, (CallsIn.inRound l (callsIn_wide.2 hj)).mono ?_⟩
    rintro e W1 ⟨rfl, hb1⟩
    clear hj
    have hm := pmeets_at a d n cap dc (turnTo z n) x.1.1 x.1.2 W1 hx hy (HD.out.below (Below.onto HBW.out hb1)) HP.out.turn.bds (fun i j hi ht => HP.out.turn.lt hi ht)
    have HBd : Hid (badB n z x.1.1 x.1.2 = ((jn n z x.1.1 x.1.2 == 0) || (jn n (turnTo z n) x.1.1 x.1.2 == 0))) := rfl
    generalize jn n z x.1.1 x.1.2 = jv at *
    generalize jn n (turnTo z n) x.1.1 x.1.2 = mv at *
    cases hjz : (jv == 0)
    · obtain ⟨g3, g4⟩ := HPx.out.below (Below.onto HBW.out hb1)
      gi_wp2_with fail
      refine ⟨trivial, (CallsIn.inRound l (callsIn_wide.2 hm)).mono ?_⟩
      rintro e W2 ⟨rfl, hb2⟩
      clear hm
      have hb12 := Below.onto hb1 hb2
      cases hmz : (mv == 0)
      · have HBad : Hid (badB n z x.1.1 x.1.2 = false) := by show _ = _; rw [HBd.out, hjz, hmz]; rfl
        gi_wp2
        refine ⟨(keeps_below hb12).from _, fun h => (hb12.block _ (Array.getElem?_eq_some_iff.1 h).1).trans h, fun p hp => ?_, Below.onto HBW.out hb12⟩
        rcases List.mem_append.1 hp with hp | hp
        · exact HPre.out p hp
        · rw [List.mem_singleton.1 hp]; exact HBad.out
      · have HBad : Hid (badB n z x.1.1 x.1.2 = true) := by show _ = _; rw [HBd.out, hmz]; simp
        obtain rfl : mv = 0 := by simpa using hmz
        clear hmz HBd
        have f1 := (Below.block (Below.onto HBW.out hb12) w.heap.size (by omega)).trans f1'
        have hPF : PBox W2 w.heap.size (.int .i64 0) (.int .i64 0) := ⟨by rw [cell_of_row _ _ 0 _ _ _ f1]; rfl, by rw [cell_of_row _ _ 1 _ _ _ f1]; rfl⟩
        have HPF : Hid (PBox W2 w.heap.size (.int .i64 0) (.int .i64 0)) := hPF
        obtain ⟨p1, p2⟩ := hPF
        have q1 := frozen_of_row _ _ 0 _ _ f1
        have q2 := frozen_of_row _ _ 1 _ _ f1
        have c2 : Boxed W2 (w.heap.size + 1) 4 (.bool false) := Boxed.through c2' (Below.onto HBW.out hb12)
        have c3 : Boxed W2 (w.heap.size + 1 + 1) 27 (.int .i64 0) := Boxed.through c3' (Below.onto HBW.out hb12)
        have p3 := c2.cell
        have p4 := c3.cell
        have q3 := c2.frozen
        have q4 := c3.frozen
        clear f1
        gi_wp2
        exact ⟨((keeps_below hb12).trans (put3_keeps W2 w.heap.size _ _ _ _)).from _, ⟨rfl, pre, x, rfl, HBad.out, HPre.out, put3_flow HPF.out _ _ _ _, put3_ok c2 _ _ _ _, put3_err c3 _ _ _ _⟩, put3_below (Below.onto (Below.onto hB1 HBW.out) hb12) (Nat.le_refl _) _ _ _ _⟩
    · have HBad : Hid (badB n z x.1.1 x.1.2 = true) := by show _ = _; rw [HBd.out, hjz]; rfl
      obtain rfl : jv = 0 := by simpa using hjz
      clear hm hjz HBd
      have f1 := (Below.block (Below.onto HBW.out hb1) w.heap.size (by omega)).trans f1'
      have hPF : PBox W1 w.heap.size (.int .i64 0) (.int .i64 0) := ⟨by rw [cell_of_row _ _ 0 _ _ _ f1]; rfl, by rw [cell_of_row _ _ 1 _ _ _ f1]; rfl⟩
      have HPF : Hid (PBox W1 w.heap.size (.int .i64 0) (.int .i64 0)) := hPF
      obtain ⟨p1, p2⟩ := hPF
      have q1 := frozen_of_row _ _ 0 _ _ f1
      have q2 := frozen_of_row _ _ 1 _ _ f1
      have c2 : Boxed W1 (w.heap.size + 1) 4 (.bool false) := Boxed.through c2' (Below.onto HBW.out hb1)
      have c3 : Boxed W1 (w.heap.size + 1 + 1) 27 (.int .i64 0) := Boxed.through c3' (Below.onto HBW.out hb1)
      have p3 := c2.cell
      have p4 := c3.cell
      have q3 := c2.frozen
      have q4 := c3.frozen
      clear f1
      gi_wp2
      refine ⟨trivial, ?_⟩
      gi_wp2
      exact ⟨((keeps_below hb1).trans (put3_keeps W1 w.heap.size _ _ _ _)).from _, ⟨rfl, pre, x, rfl, HBad.out, HPre.out, put3_flow HPF.out _ _ _ _, put3_ok c2 _ _ _ _, put3_err c3 _ _ _ _⟩, put3_below (Below.onto (Below.onto hB1 HBW.out) hb1) (Nat.le_refl _) _ _ _ _⟩
  case done =>
    rintro D ys W hD rfl ⟨hp, hBW⟩ hK
    have HAll : Hid (∀ p q, p < n → q < n → badB n z p q = false) := fun p q hpn hqn => hp ⟨(p, q), hpn, hqn⟩ (mem_prS.2 (.inl hpn))
    have f1 := (Below.block hBW w.heap.size (by omega)).trans f1'
    have hPF : PBox W w.heap.size (.int .i64 0) (.int .i64 0) := ⟨by rw [cell_of_row _ _ 0 _ _ _ f1]; rfl, by rw [cell_of_row _ _ 1 _ _ _ f1]; rfl⟩
    have HPF : Hid (PBox W w.heap.size (.int .i64 0) (.int .i64 0)) := hPF
    obtain ⟨p1, p2⟩ := hPF
    have q1 := frozen_of_row _ _ 0 _ _ f1
    have q2 := frozen_of_row _ _ 1 _ _ f1
    have c2 : Boxed W (w.heap.size + 1) 4 (.bool false) := Boxed.through c2' hBW
    have c3 : Boxed W (w.heap.size + 1 + 1) 27 (.int .i64 0) := Boxed.through c3' hBW
    have p3 := c2.cell
    have p4 := c3.cell
    have q3 := c2.frozen
    have q4 := c3.frozen
    have HBWw : Hid (Below w.heap.size w W) := Below.onto hB1 hBW
    clear f1 hp hQ hBq hwp hb1
    gi_wp2
    have hK' := (put3_keeps W w.heap.size (.int .i64 0) (.int .i64 0) (.bool true) (.int .i64 0)).same D _ hK rfl
    refine ⟨by simp, .inl ⟨_, _, rfl, run_takeDeferred hK', ?_⟩⟩
    have m1 := put3_flow HPF.out (.int .i64 0) (.int .i64 0) (.bool true) (.int .i64 0)
    have m2 := put3_ok c2 (.int .i64 0) (.int .i64 0) (.bool true) (.int .i64 0)
    have m3 := put3_err c3 (.int .i64 0) (.int .i64 0) (.bool true) (.int .i64 0)
    have kk : ∀ {q : Addr} {v : Value}, (put3 W w.heap.size (.int .i64 0) (.int .i64 0) (.bool true) (.int .i64 0)).cell? q = some v → ((put3 W w.heap.size (.int .i64 0) (.int .i64 0) (.bool true) (.int .i64 0)).putObj D (.deferred none)).cell? q = some v := fun h => cell_kept h (grownBy_putObj' _ D (.deferred none)) (fun r e => by cases e; exact ⟨_, hK', rfl⟩)
    have r1 := kk m1.1
    have r2 := kk m1.2
    have r3 := kk m2.cell
    have r4 := kk m3.cell
    have hBf := (put3_below HBWw.out (Nat.le_refl _) (.int .i64 0) (.int .i64 0) (.bool true) (.int .i64 0)).trans (belowK_b (w := w) (Nat.le_refl _) _ D _ (.deferred none) (by simp at hD; omega) hK' rfl rfl)
    refine ⟨.tuple #[.agg #[.int .i64 0, .int .i64 0], .bool true, .int .i64 0], ?_, 0, 0, true, rfl, .inl ⟨rfl, rfl, rfl, HAll.out⟩, hBf⟩
    change (results _ _).run Try.prog ((put3 W w.heap.size (.int .i64 0) (.int .i64 0) (.bool true) (.int .i64 0)).putObj D (.deferred none)) = .ok _ ((put3 W w.heap.size (.int .i64 0) (.int .i64 0) (.bool true) (.int .i64 0)).putObj D (.deferred none))
    generalize (put3 W w.heap.size (.int .i64 0) (.int .i64 0) (.bool true) (.int .i64 0)).putObj D (.deferred none) = WF at r1 r2 r3 r4 ⊢
    simp [results, Try.f8, go_sem, r1, r2, r3, r4]
  case stop =>
    rintro D c pre W hD ⟨p, q, hpn, hqn, rfl⟩ ⟨⟨rfl, pre0, x, hpre, hbad, hall, h4, h5, h6⟩, hB⟩ hK
    have hx : pre0 = prS n p q ∧ x = ⟨(p, q), hpn, hqn⟩ := by
      rw [prS_snoc n p q hpn hqn] at hpre
      have := List.append_inj' hpre rfl
      exact ⟨this.1.symm, by simpa using this.2.symm⟩
    obtain ⟨rfl, rfl⟩ := hx
    have HL : Hid (LatIs n z p q false) := .inr ⟨rfl, hpn, hqn, hbad, fun a' b' hb' hlt => hall ⟨(a', b'), by rcases hlt with h | h <;> simp <;> omega, hb'⟩ (mem_prS.2 hlt)⟩
    clear hQ hBq hwp hb1 hall hbad hpre
    gi_wp2
    refine ⟨by simp, .inl ⟨_, _, rfl, run_takeDeferred hK, ?_⟩⟩
    have kk : ∀ {q : Addr} {v : Value}, W.cell? q = some v → (W.putObj D (.deferred none)).cell? q = some v := fun h => cell_kept h (grownBy_putObj' _ D (.deferred none)) (fun r e => by cases e; exact ⟨_, hK, rfl⟩)
    have r1 := kk h4.1
    have r2 := kk h4.2
    have r3 := kk h5.cell
    have r4 := kk h6.cell
    refine ⟨.tuple #[.agg #[.int .i64 (p : Int), .int .i64 (q : Int)], .bool false, .int .i64 0], ?_, p, q, .inl ⟨rfl, HL.out, hB.trans (belowK_b (w := w) (Nat.le_refl _) _ D _ _ (by simp at hD; omega) hK rfl rfl)⟩⟩
    generalize W.putObj D (.deferred none) = WF at r1 r2 r3 r4 ⊢
    simp [results, Try.f8, go_sem, r1, r2, r3, r4]


set_option maxRecDepth 100000 in
set_option maxHeartbeats 2000000 in
theorem lattice_bad (a : Option Addr) (n cap : Nat) (z : Nat → Int) (w : World) (hn : n < 9223372036854775807) (hc : Cells w .u64 a n z) (hz : Bds n z) (hk : polE n z ≠ 0) :
    Calls Try.prog 8 #[.slice a n cap] w fun e w' => e = .returned (.tuple #[.agg #[.int .i64 0, .int .i64 0], .bool false, .int .i64 (polE n z)]) ∧ Below w.heap.size w w' := by
  have HC : Hid (Cells w .u64 a n z) := hc
  have HK : Hid (polE n z ≠ 0) := hk
  have hne : (polE n z != 0) = true := by simp [hk]
  have hrd := fun w' h => read_un a n cap z w' hn h hz
  clear hc hz hk
  refine (callsIn_wide (n := 8)).1 ?_
  refine callsIn_of_wp_marks Try.func8 rfl trivial ?_ rfl
  simp only [Try.ntmps8, List.size_toArray, List.length_cons, List.length_nil, Nat.reduceAdd, Nat.reduceSub, Array.replicate_succ, Array.replicate_zero, List.push_toArray, List.append_toArray, List.nil_append, List.cons_append]
  obtain ⟨w0, hw0⟩ : ∃ w0, w0 = ((w.alloc (.cells #[.int .i64 0, .int .i64 0] 26)).alloc (.cells #[.bool false] 4)).alloc (.cells #[.int .i64 0] 27) := ⟨_, rfl⟩
  have hB0 : Below w.heap.size w w0 := by
    rw [hw0]; exact (((Below.refl _ w).alloc (Nat.le_refl _) _).alloc (by simp) _).alloc (by simp; omega) _
  have b2 := Boxed.new (w.alloc (.cells #[.int .i64 0, .int .i64 0] 26)) 4 (.bool false)
  have b3 := Boxed.new ((w.alloc (.cells #[.int .i64 0, .int .i64 0] 26)).alloc (.cells #[.bool false] 4)) 27 (.int .i64 0)
  simp only [World.size_alloc] at b2 b3
  gi_wp2_with fail
  rw [← hw0]
  have f1 : w0.heap[w.heap.size]? = some (.cells #[.int .i64 0, .int .i64 0] 26 (0, 0)) := by
    rw [hw0]
    exact (Below.block (((Below.refl _ _).alloc (Nat.le_refl _) _).alloc (by simp) _) w.heap.size (by simp)).trans (World.alloc_heap_new w _)
  have c2 : Boxed w0 (w.heap.size + 1) 4 (.bool false) := by rw [hw0]; exact b2.alloc _
  have c3 : Boxed w0 (w.heap.size + 1 + 1) 27 (.int .i64 0) := by rw [hw0]; exact b3
  have hs0 : w0.heap.size = w.heap.size + 3 := by rw [hw0]; simp
  clear b2 b3 hw0
  refine ⟨trivial, (callsIn_wide.2 (hrd _ (HC.out.below hB0))).mono ?_⟩
  rintro e w1 ⟨hb, ⟨_, rfl⟩ | ⟨hk', _⟩⟩
  · clear hrd
    obtain ⟨wp, hwp⟩ : ∃ wp, wp = w1.alloc (.cells #[.slice none 0 0, .slice none 0 0] 51) := ⟨_, rfl⟩
    have hb1 : Below w1.heap.size w1 wp := by rw [hwp]; exact (Below.refl _ w1).alloc (Nat.le_refl _) _
    have hB01 : Below w0.heap.size w0 wp := Below.onto hb hb1
    have HBw : Hid (Below w.heap.size w wp) := Below.onto hB0 hB01
    have f1' := (hB01.block _ (by omega)).trans f1
    have hPF : PBox wp w.heap.size (.int .i64 0) (.int .i64 0) := ⟨by rw [cell_of_row _ _ 0 _ _ _ f1']; rfl, by rw [cell_of_row _ _ 1 _ _ _ f1']; rfl⟩
    have HPF : Hid (PBox wp w.heap.size (.int .i64 0) (.int .i64 0)) := hPF
    obtain ⟨p1, p2⟩ := hPF
    have q1 := frozen_of_row _ _ 0 _ _ f1'
    have q2 := frozen_of_row _ _ 1 _ _ f1'
    have d2 := Boxed.through c2 hB01
    have d3 := Boxed.through c3 hB01
    have p3 := d2.cell
    have p4 := d3.cell
    have q3 := d2.frozen
    have q4 := d3.frozen
    rw [hwp] at p1 p2 p3 p4 q1 q2 q3 q4
    clear f1 f1' c2 c3 hB0 hb hb1 hB01
    gi_wp2
    have m1 := put3_flow HPF.out (.int .i64 0) (.int .i64 0) (.bool false) (.int .i64 (polE n z))
    have m2 := put3_ok d2 (.int .i64 0) (.int .i64 0) (.bool false) (.int .i64 (polE n z))
    have m3 := put3_err d3 (.int .i64 0) (.int .i64 0) (.bool false) (.int .i64 (polE n z))
    have hBf := put3_below HBw.out (Nat.le_refl _) (.int .i64 0) (.int .i64 0) (.bool false) (.int .i64 (polE n z))
    rw [← hwp]
    change bodyPostM _ _ _ _ _ Exit.ret _ (put3 wp w.heap.size (.int .i64 0) (.int .i64 0) (.bool false) (.int .i64 (polE n z)))
    obtain ⟨r1, r2⟩ := m1
    have r3 := m2.cell
    have r4 := m3.cell
    generalize put3 wp w.heap.size (.int .i64 0) (.int .i64 0) (.bool false) (.int .i64 (polE n z)) = WF at r1 r2 r3 r4 hBf ⊢
    refine ⟨.tuple #[.agg #[.int .i64 0, .int .i64 0], .bool false, .int .i64 (polE n z)], ?_, rfl, hBf⟩
    simp [results, Try.f8, go_sem, r1, r2, r3, r4]
  · exact absurd hk' HK.out

end Go.Proofs.Ytcfpfddbbhphgab
