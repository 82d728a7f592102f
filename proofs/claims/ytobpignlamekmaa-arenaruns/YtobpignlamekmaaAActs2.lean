/- Write, Read, Free, Counts, Part, Look. -/
import Derived.Test.YtobpignlamekmaaAActs
import Derived.OwnWalk
namespace Go.Proofs.Ytobpignlamekmaa
open Go.RowKit Go.Sort Go.BigFrame
set_option maxRecDepth 100000

def wrD (h : Sh) (d : Da) (x g y : Int) : Da := if alvB h d x g then { d with pay := upd d.pay x.toNat y } else d
def rdI (h : Sh) (d : Da) (x g : Int) : Int := if alvB h d x g then d.pay x.toNat else 0
theorem alvB_nat {h : Sh} {d : Da} {x g : Int} (e : alvB h d x g = true) : ∃ n : Nat, x = (n : Int) ∧ n < h.N ∧ d.fr h n = false ∧ d.gen n = g := by
  unfold alvB at e
  simp only [Bool.and_eq_true] at e
  obtain ⟨n, rfl, hn⟩ := inR_nat e.1
  have h2 := e.2
  simp only [Int.toNat_natCast] at h2
  exact ⟨n, rfl, hn, by simpa using h2.1, by simpa using h2.2⟩

set_option maxHeartbeats 2000000 in
theorem write_a (o : Po) (h : Sh) (d : Da) (x g y : Int) (w : World) (a : Ax w o h d) (hy : 0 ≤ y ∧ y < 18446744073709551616) :
    Calls Try.prog 24 #[o.ptr, .agg #[.int .i64 x, .int .u64 g], .int .u64 y] w fun e w' => e = .returned (.int .i64 (alvE h d x g)) ∧ Ax w' o h (wrD h d x g y) ∧ But o.has w w' := by
  have HK : Hid (Ax w o h d) := a
  clear a
  have hB := (Below.refl _ w).alloc (Nat.le_refl _) (.cells #[.int .i64 x, .int .u64 g] 36)
  obtain ⟨c0, c1, cf⟩ := box2 (w := w) (x := .int .i64 x) (y := .int .u64 g) (T := 36) (Below.refl _ _)
  obtain ⟨W, hW⟩ : ∃ W, w.alloc (.cells #[.int .i64 x, .int .u64 g] 36) = W := ⟨_, rfl⟩
  rw [hW] at c0 c1 cf hB
  have HW : Hid (Ax W o h d) := HK.out.below hB
  have hal := alive_a o h d x g W HW.out
  cases hv : alvB h d x g
  · have e1 : alvE h d x g = 62 := by simp [alvE, hv]
    have e2 : wrD h d x g y = d := by simp [wrD, hv]
    rw [e1] at hal ⊢
    rw [e2]
    go_enter Try.func24, Try.ntmps24
    go_wp2_with fail
    refine hal.mono ?_
    rintro e w2 ⟨rfl, hb2⟩
    go_wp2_with fail
    go_ret
    exact ⟨rfl, HW.out.below hb2, (But.of hB : But o.has w _).below' hb2⟩
  · obtain ⟨n, rfl, hn, hf, hg⟩ := alvB_nat hv
    have e1 : alvE h d n g = 0 := by simp [alvE, hv]
    have e2 : wrD h d n g y = { d with pay := upd d.pay n y } := by simp [wrD, hv]
    rw [e1] at hal ⊢
    rw [e2]
    clear e1 e2 hv
    go_enter Try.func24, Try.ntmps24
    go_wp2_with fail
    refine hal.mono ?_
    rintro e w2 ⟨rfl, hb2⟩
    have H2 : Hid (Ax w2 o h d) := HW.out.below hb2
    have d0 := (hb2.cell (p := ⟨w.heap.size, 0, none⟩) (cell_lt c0)).trans c0
    have l1 := H2.out.c1
    rw [H2.out.sa (by omega)] at l1
    have s1 := H2.out.s1 n hn
    have sf := H2.out.fs (by omega) (n * 2 + 1)
    have B2 := (But.of hB : But o.has w _).below' hb2
    have HP : Hid (Ax (w2.setCell ⟨o.bs, n * 2 + 1, none⟩ (.int .u64 y)) o h { d with pay := upd d.pay n y }) := H2.out.setPay hn (fun hh => by rw [hf] at hh; cases hh) hy
    have hs : o.has o.bs := .inr (.inr (.inl (H2.out.sa (by omega))))
    have h4 := H2.out.sh.n4
    clear hb2 c0 c1 cf
    go_wp2_with fail
    go_region
    go_wp2_with fail
    go_ret
    exact ⟨rfl, HP.out.below ((Below.refl _ _).drew), (B2.setCell hs _).drew⟩

set_option maxHeartbeats 2000000 in
theorem read_a (o : Po) (h : Sh) (d : Da) (x g : Int) (w : World) (a : Ax w o h d) :
    Calls Try.prog 23 #[o.ptr, .agg #[.int .i64 x, .int .u64 g]] w fun e w' => e = .returned (.tuple #[.int .u64 (rdI h d x g), .int .i64 (alvE h d x g)]) ∧ Below w.heap.size w w' := by
  have HK : Hid (Ax w o h d) := a
  clear a
  have hB := (Below.refl _ w).alloc (Nat.le_refl _) (.cells #[.int .i64 x, .int .u64 g] 36)
  obtain ⟨c0, c1, cf⟩ := box2 (w := w) (x := .int .i64 x) (y := .int .u64 g) (T := 36) (Below.refl _ _)
  obtain ⟨W, hW⟩ : ∃ W, w.alloc (.cells #[.int .i64 x, .int .u64 g] 36) = W := ⟨_, rfl⟩
  rw [hW] at c0 c1 cf hB
  have HW : Hid (Ax W o h d) := HK.out.below hB
  have hal := alive_a o h d x g W HW.out
  cases hv : alvB h d x g
  · have e1 : alvE h d x g = 62 := by simp [alvE, hv]
    have e2 : rdI h d x g = 0 := by simp [rdI, hv]
    rw [e1] at hal ⊢
    rw [e2]
    go_enter Try.func23, Try.ntmps23
    go_wp2_with fail
    refine hal.mono ?_
    rintro e w2 ⟨rfl, hb2⟩
    go_wp2_with fail
    go_ret2
    exact ⟨rfl, Below.onto hB hb2⟩
  · obtain ⟨n, rfl, hn, hf, hg⟩ := alvB_nat hv
    have e1 : alvE h d n g = 0 := by simp [alvE, hv]
    have e2 : rdI h d n g = d.pay n := by simp [rdI, hv]
    rw [e1] at hal ⊢
    rw [e2]
    clear e1 e2 hv
    go_enter Try.func23, Try.ntmps23
    go_wp2_with fail
    refine hal.mono ?_
    rintro e w2 ⟨rfl, hb2⟩
    have H2 : Hid (Ax w2 o h d) := HW.out.below hb2
    have d0 := (hb2.cell (p := ⟨w.heap.size, 0, none⟩) (cell_lt c0)).trans c0
    have l1 := H2.out.c1
    rw [H2.out.sa (by omega)] at l1
    have s1 := H2.out.s1 n hn
    have B2 := Below.onto hB hb2
    have h4 := H2.out.sh.n4
    clear hb2 c0 c1 cf
    go_wp2_with fail
    go_region
    go_wp2_with fail
    go_ret2
    exact ⟨rfl, B2.drew⟩

def cnF (h : Sh) (d : Da) (x : Int) : Int := lenR h.P d.R x
def cnH (h : Sh) (d : Da) (x : Int) : Int := if inR h.P x then (h.sz x.toNat : Int) - lenR h.P d.R x else 0
set_option maxHeartbeats 2000000 in
theorem counts_a (o : Po) (h : Sh) (d : Da) (x : Int) (w : World) (a : Ax w o h d) :
    Calls Try.prog 17 #[o.ptr, .int .i64 x] w fun e w' => e = .returned (.tuple #[.int .i64 (cnH h d x), .int .i64 (cnF h d x), .int .i64 (knE h x)]) ∧ w' = w := by
  have HK : Hid (Ax w o h d) := a
  clear a
  have hkn := known_a o h d x w HK.out
  have hl := klen_k o.l h.N h.P d.R x w HK.out.kv
  have l0 := HK.out.c0
  have l2 := HK.out.c2
  cases hh : inR h.P x
  · have e1 : cnF h d x = 0 := by simp [cnF, lenR, hh]
    have e2 : cnH h d x = 0 := by simp [cnH, hh]
    have e5 : knE h x = 5 := by simp [knE, hh]
    rw [e5] at hkn ⊢
    rw [e1, e2]
    clear hl
    go_enter Try.func17, Try.ntmps17
    go_wp2_with fail
    refine hkn.mono ?_
    rintro e w2 ⟨rfl, e2⟩
    subst e2
    go_wp2_with fail
    go_ret3
    exact ⟨rfl, rfl⟩
  · obtain ⟨k, rfl, hk⟩ := inR_nat hh
    have e1 : cnF h d k = (d.R k).length := by simp [cnF, lenR, hh]
    have e2 : cnH h d k = (h.sz k : Int) - (d.R k).length := by simp [cnH, lenR, hh]
    have e5 : knE h k = 0 := by simp [knE, hh]
    have e6 : lenR h.P d.R k = (d.R k).length := by simp [lenR, hh]
    have f1 := HK.out.f1 k hk
    have s2 := HK.out.sh.s256 k hk
    have s3 := HK.out.len hk
    have s4 := HK.out.sh.n4
    have s5 := HK.out.sh.p16
    rw [e5] at hkn ⊢
    rw [e6] at hl
    rw [e1, e2]
    clear e1 e2 e5 e6 hh
    generalize (d.R k).length = L at *
    generalize h.sz k = Z at *
    go_enter Try.func17, Try.ntmps17
    go_wp2_with fail
    refine hkn.mono ?_
    rintro e w2 ⟨rfl, e2⟩
    subst e2
    go_wp2_with fail
    refine hl.mono ?_
    rintro e w3 ⟨rfl, e3⟩
    subst e3
    go_wp2_with fail
    go_ret3
    exact ⟨rfl, rfl⟩

def ptI (h : Sh) (x : Int) : Int := if inR h.N x then (h.pt x.toNat : Int) else 0
set_option maxHeartbeats 2000000 in
theorem part_a (o : Po) (h : Sh) (d : Da) (x : Int) (w : World) (a : Ax w o h d) :
    Calls Try.prog 15 #[o.ptr, .int .i64 x] w fun e w' => e = .returned (.tuple #[.int .i64 (ptI h x), .bool (inR h.N x)]) ∧ w' = w := by
  have HK : Hid (Ax w o h d) := a
  clear a
  have hkn := has_a o h d x w HK.out
  have l1 := HK.out.c1
  cases hh : inR h.N x
  · have e2 : ptI h x = 0 := by simp [ptI, hh]
    rw [hh] at hkn
    rw [e2]
    go_enter Try.func15, Try.ntmps15
    go_wp2_with fail
    refine hkn.mono ?_
    rintro e w2 ⟨rfl, e2⟩
    subst e2
    go_wp2_with fail
    go_ret2
    exact ⟨rfl, rfl⟩
  · obtain ⟨n, rfl, hn⟩ := inR_nat hh
    have e2 : ptI h n = (h.pt n : Int) := by simp [ptI, hh]
    have s0 := HK.out.s0 n hn
    rw [HK.out.sa (by omega)] at l1
    rw [hh] at hkn
    rw [e2]
    have h4 := HK.out.sh.n4
    clear hh e2
    go_enter Try.func15, Try.ntmps15
    go_wp2_with fail
    refine hkn.mono ?_
    rintro e w2 ⟨rfl, e2⟩
    subst e2
    go_wp2_with fail
    go_ret2
    exact ⟨rfl, rfl⟩

def lkP (h : Sh) (d : Da) (x : Int) : Int := if inR h.N x then d.pay x.toNat else 0
def lkG (h : Sh) (d : Da) (x : Int) : Int := if inR h.N x then d.gen x.toNat else 0
def lkH (h : Sh) (d : Da) (x : Int) : Bool := inR h.N x && !d.fr h x.toNat
set_option maxHeartbeats 2000000 in
theorem look_a (o : Po) (h : Sh) (d : Da) (x : Int) (w : World) (a : Ax w o h d) :
    Calls Try.prog 13 #[o.ptr, .int .i64 x] w fun e w' => e = .returned (.tuple #[.int .u64 (lkP h d x), .int .u64 (lkG h d x), .bool (lkH h d x)]) ∧ Below w.heap.size w w' := by
  have HK : Hid (Ax w o h d) := a
  clear a
  have hkn := has_a o h d x w HK.out
  have l1 := HK.out.c1
  cases hh : inR h.N x
  · have e1 : lkP h d x = 0 := by simp [lkP, hh]
    have e2 : lkG h d x = 0 := by simp [lkG, hh]
    have e3 : lkH h d x = false := by simp [lkH, hh]
    rw [hh] at hkn
    rw [e1, e2, e3]
    go_enter Try.func13, Try.ntmps13
    go_wp2_with fail
    refine hkn.mono ?_
    rintro e w2 ⟨rfl, e2⟩
    subst e2
    go_wp2_with fail
    go_ret3
    exact ⟨rfl, Below.refl _ _⟩
  · obtain ⟨n, rfl, hn⟩ := inR_nat hh
    have e1 : lkP h d n = d.pay n := by simp [lkP, hh]
    have e2 : lkG h d n = d.gen n := by simp [lkG, hh]
    have e3 : lkH h d n = !d.fr h n := by simp [lkH, hh]
    rw [HK.out.sa (by omega)] at l1
    have s1 := cell_regrown (HK.out.s1 n hn)
    have r1 := cell_regrown l1
    rw [hh] at hkn
    rw [e1, e2, e3]
    have cL := aregrown (w := w) fun W' hW' => heldB_a o h d n W' (HK.out.below hW') hn
    have cN := aregrown (w := w) fun W' hW' => name_a o h d n W' (HK.out.below hW') hn
    have h4 := HK.out.sh.n4
    clear hh e1 e2 e3
    go_enter Try.func13, Try.ntmps13
    go_wp2_with fail
    refine hkn.mono ?_
    rintro e w2 ⟨rfl, e2⟩
    subst e2
    go_wp2_with fail
    refine wp_region_quiet_below (by kernel_rfl) (by kernel_rfl) ?_
    repeat (go_big_quiet_step (first | with_reducible exact cL _ _ | with_reducible exact cN _ _))
    go_big_quiet_want
    refine ⟨.int .u64 (d.gen n), fun W _ => ⟨rfl, rfl⟩, ?_⟩
    simp only [Act.put, List.setIfInBounds_toArray, List.set_cons_succ, List.set_cons_zero]
    go_big_quiet_on
    repeat (go_big_quiet_step (first | with_reducible exact cL _ _ | with_reducible exact cN _ _))
    refine wpQuiet_nil ?_
    intro _ hw'
    obtain ⟨⟨dq, osq⟩, hw''⟩ := hw'
    subst hw''
    go_wp2_with fail
    go_ret3
    exact ⟨rfl, below_regrown w2 dq osq⟩
end Go.Proofs.Ytobpignlamekmaa
