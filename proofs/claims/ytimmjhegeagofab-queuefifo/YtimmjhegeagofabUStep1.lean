/- The law's step: a claim. -/
import Derived.Test.YtimmjhegeagofabUStepR
import Derived.Test.YtimmjhegeagofabUFifoM
import Derived.Test.YtimmjhegeagofabUClaim
namespace Go.Proofs.Ytimmjhegeagofab
open Go.RowKit
set_option maxRecDepth 100000

def atC (l : List (Int × Int × Int)) (j : Nat) : Int × Int × Int := l.getD j (0, 0, 0)
def encC (l : List (Int × Int × Int)) (j : Nat) : Nat → Value
  | 0 => .int .i64 (atC l j).1
  | 1 => .int .i64 (atC l j).2.1
  | _ => .int .i64 (atC l j).2.2
def encU (l : List Int) (j _ : Nat) : Value := .int .u64 (atI l j)
/-- a slice's address is a plain one -/
def Sp (v : Value) : Prop := ∀ a n c, v = .slice (some a) n c → a.spot = none
theorem sp_own {w : World} {base size n : Nat} {e : TypeId} {v : Value} {xs : List Value} (h : w.ownsRow base e size v n xs) : Sp v := fun a n c e1 => by
  rcases h.2 with ⟨rfl, _⟩ | ⟨g, cap, cur, rfl, _⟩
  · cases e1
  · cases e1; rfl
/-- a run in memory -/
structure RIs (w : World) (ql qm vc vs vt : Value) (R : Rn) (V : Nat → Value) : Prop where
  q : QIs w ql qm R.q V
  c : Sl w 3 R.cl.length (encC R.cl) vc
  s : Sl w 1 R.se.length (encU R.se) vs
  t : Sl w 4 R.tk.length (encMs R.tk) vt
  pc : Sp vc
  ps : Sp vs
  pt : Sp vt
theorem RIs.below {w w' : World} {ql qm vc vs vt : Value} {R : Rn} {V : Nat → Value} (h : RIs w ql qm vc vs vt R V) (hb : Below w.heap.size w w') : RIs w' ql qm vc vs vt R V := ⟨h.q.below hb, h.c.below hb, h.s.below hb, h.t.below hb, h.pc, h.ps, h.pt⟩
abbrev runV (ql qm vc vs vt : Value) : Value := .agg #[ql, qm, vc, vs, vt, .bool true]
abbrev opV (k ln n x : Int) : Value := .agg #[.int .i64 k, .int .i64 ln, .int .u8 n, .int .u64 x]
theorem one_encC (l : List (Int × Int × Int)) : ∀ j, j < l.length → ∀ f, f < 3 → (encC l j f).oneCell' = true := fun j _ f hf => by
  match f, hf with
  | 0, _ => rfl
  | 1, _ => rfl
  | 2, _ => rfl
/-- what is read of a slice, as a source of appends -/
theorem Sl.src {w : World} {s n : Nat} {c : Nat → Nat → Value} {v : Value} (h : Sl w s n c v) (hp : Sp v) : Src w v n (cellsL n s c) := by
  obtain ⟨a, cap, rfl, h1, h2, hr⟩ := h
  cases a with
  | none =>
    obtain ⟨rfl, rfl⟩ := h2 rfl
    exact .inl ⟨rfl, rfl⟩
  | some ad =>
    by_cases h0 : n = 0
    · subst h0
      obtain ⟨g, off, sp⟩ := ad
      cases sp with
      | none => exact .inr ⟨g, off, cap, rfl, fun j y hj => by
          have := (List.getElem?_eq_some_iff.1 hj).1
          rw [cellsL_len] at this
          omega⟩
      | some q => exact absurd (hp _ _ _ rfl) (by simp)
    · obtain ⟨b, off, e, _⟩ := hr 0 (by omega)
      cases e
      exact .inr ⟨b, off, cap, rfl, fun j y hj => cellsL_src (fun j hj f hf => by
        obtain ⟨b', off', e', hc'⟩ := hr j hj
        cases e'
        exact hc' f hf) hj⟩

theorem cl3_snoc {w : World} {base : Nat} {v : Value} {l : List (Int × Int × Int)} {x : Int × Int × Int} (h : w.ownsRow base 27 3 v (l.length + 1) (cellsL l.length 3 (encC l) ++ [.int .i64 x.1, .int .i64 x.2.1, .int .i64 x.2.2])) : Sl w 3 (l ++ [x]).length (encC (l ++ [x])) v := by
  rw [show (l ++ [x]).length = l.length + 1 by simp]
  refine (sl_own h (snoc_cells (d := encC [x] 0) fun f hf => ?_)).congr fun j hj f hf => ?_
  · match f, hf with
    | 0, _ => rfl
    | 1, _ => rfl
    | 2, _ => rfl
  · unfold snocC
    by_cases hl : j < l.length
    · rw [if_pos hl]
      have : atC (l ++ [x]) j = atC l j := by simp [atC, List.getElem?_append_left hl]
      match f, hf with
      | 0, _ => simp [encC, this]
      | 1, _ => simp [encC, this]
      | 2, _ => simp [encC, this]
    · obtain rfl : j = l.length := by omega
      rw [if_neg hl]
      have : atC (l ++ [x]) l.length = x := by simp [atC]
      match f, hf with
      | 0, _ => simp [encC, this]; simp [atC]
      | 1, _ => simp [encC, this]; simp [atC]
      | 2, _ => simp [encC, this]; simp [atC]
set_option maxHeartbeats 8000000 in
theorem step1_any (ql qm vc vs vt : Value) (R : Rn) (V : Nat → Value) (l : List Int) (i : Nat) (ln n x : Int) (w : World) (hi : i ≤ 900) (hk : R.Ok l i) (hr : RIs w ql qm vc vs vt R V) : Calls Try.prog 25 #[runV ql qm vc vs vt, opV 1 ln n x] w fun e w' =>
    ∃ ql' qm' vc' vs' vt' R' V', e = .returned (runV ql' qm' vc' vs' vt') ∧ RIs w' ql' qm' vc' vs' vt' R' V' ∧ R'.Ok l (i + 1) ∧ Below w.heap.size w w' := by
  have HR : Hid (RIs w ql qm vc vs vt R V) := hr
  have HK : Hid (R.Ok l i) := hk
  have hcl := fun W h => claim_any ql qm R.q V ln W (hk.okq hi) h
  have hcn : R.cl.length ≤ 1000 := by have := hk.ncl; omega
  obtain ⟨la, lc, rfl, _⟩ := hr.q.l
  obtain ⟨ma, mc, rfl, _⟩ := hr.q.m
  obtain ⟨ca, cc, rfl, _⟩ := hr.c
  obtain ⟨sa, sc, rfl, _⟩ := hr.s
  obtain ⟨ta, tc, rfl, _⟩ := hr.t
  obtain ⟨k1, k2, k3, b2, s2⟩ := alloc3 w [.slice la R.q.ls.length lc, .slice ma R.q.ms.length mc, .slice ca R.cl.length cc, .slice sa R.se.length sc, .slice ta R.tk.length tc, .bool true] 54 [.int .i64 1, .int .i64 ln, .int .u8 n, .int .u64 x] 57 [.slice none 0 0, .slice none 0 0, .slice none 0 0, .slice none 0 0, .slice none 0 0, .bool false] 54
  have K1 : Hid (Blk _ _ _ _) := k1
  have K2 : Hid (Blk _ _ _ _) := k2
  have K3 : Hid (Blk _ _ _ _) := k3
  have B2 : Hid (Below _ _ _) := b2
  have S2 : Hid ((((w.alloc (.cells #[.slice la R.q.ls.length lc, .slice ma R.q.ms.length mc, .slice ca R.cl.length cc, .slice sa R.se.length sc, .slice ta R.tk.length tc, .bool true] 54)).alloc (.cells #[.int .i64 1, .int .i64 ln, .int .u8 n, .int .u64 x] 57)).alloc (.cells #[.slice none 0 0, .slice none 0 0, .slice none 0 0, .slice none 0 0, .slice none 0 0, .bool false] 54)).heap.size = w.heap.size + 1 + 1 + 1) := s2
  clear k1 k2 k3 b2 s2 hr hk
  go_enter Try.func25, Try.ntmps25
  go_wp2_with fail
  generalize ((w.alloc (.cells #[.slice la R.q.ls.length lc, .slice ma R.q.ms.length mc, .slice ca R.cl.length cc, .slice sa R.se.length sc, .slice ta R.tk.length tc, .bool true] 54)).alloc (.cells #[.int .i64 1, .int .i64 ln, .int .u8 n, .int .u64 x] 57)).alloc (.cells #[.slice none 0 0, .slice none 0 0, .slice none 0 0, .slice none 0 0, .slice none 0 0, .bool false] 54) = w2 at *
  have HC12 : Hid (w.heap.size < w.heap.size + 1 ∧ w.heap.size + 1 < w.heap.size + 1 + 1) := ⟨by omega, by omega⟩
  generalize w.heap.size + 1 + 1 = C2 at *
  generalize w.heap.size + 1 = C1 at *
  refine (hcl w2 (HR.out.q.below B2.out)).mono ?_
  rintro e w3 ⟨ul, um, V3, rfl, hq3, hb3, hn3⟩
  obtain ⟨la3, lc3, rfl, _⟩ := hq3.l
  obtain ⟨ma3, mc3, rfl, _⟩ := hq3.m
  have H3 : Hid (QIs w3 _ _ (R.q.clQ ln) V3) := hq3
  have N3 : Hid (QNew w2.heap.size _ _ (R.q.clQ ln) V3) := hn3
  have K1b : Hid (Blk w3 _ _ _) := K1.out.below hb3
  have K3b : Hid (Blk w3 _ _ _) := K3.out.below hb3
  have B3 : Hid (Below w.heap.size w w3) := Below.onto B2.out hb3
  obtain ⟨k4, k5, b4, s4⟩ := alloc2 w3 [.slice la3 (R.q.clQ ln).ls.length lc3, .slice ma3 (R.q.clQ ln).ms.length mc3] 25 [.int .i64 (R.q.clC ln).1, .int .i64 (R.q.clC ln).2.1, .int .i64 (R.q.clC ln).2.2] 27
  have K4 : Hid (Blk _ _ _ _) := k4
  have K5 : Hid (Blk _ _ _ _) := k5
  have B34 : Hid (Below w3.heap.size w3 _) := b4
  have hs3 := hb3.size
  have HZ : Hid (w.heap.size < w2.heap.size ∧ C2 < w2.heap.size ∧ w2.heap.size ≤ w3.heap.size) := ⟨K1.out.lt, K3.out.lt, hs3⟩
  clear k4 k5 b4 s4 hq3 hn3 hb3 hs3 S2 hcl
  have hc12 := HC12.out
  have HL2 : Hid (w.heap.size ≤ C2) := by show _ ≤ _; omega
  have hne : ¬ w.heap.size = C2 := by omega
  clear hc12
  by_cases hE : R.q.clE ln = 0
  · have hE1 : (R.q.clE ln == 0) = true := by simp [hE]
    have HE : Hid (R.q.clE ln = 0) := hE
    clear hE
    generalize R.q.clE ln = E at hE1
    obtain ⟨g0, g1, g2, g3, g4, g5⟩ := K1b.out.bx.six
    have g6 := K1b.out.fz
    have l1 := K1b.out.lt
    go_wp2_with fail
    have hzz := HZ.out
    have K1c : Hid (Blk ((w3.setCell ⟨w.heap.size, 0, none⟩ (.slice la3 (R.q.clQ ln).ls.length lc3)).setCell ⟨w.heap.size, 1, none⟩ (.slice ma3 (R.q.clQ ln).ms.length mc3)) w.heap.size _ [.slice la3 (R.q.clQ ln).ls.length lc3, .slice ma3 (R.q.clQ ln).ms.length mc3, .slice ca R.cl.length cc, .slice sa R.se.length sc, .slice ta R.tk.length tc, .bool true]) := (K1b.out.set 0 _).set 1 _
    have K3c : Hid (Blk ((w3.setCell ⟨w.heap.size, 0, none⟩ (.slice la3 (R.q.clQ ln).ls.length lc3)).setCell ⟨w.heap.size, 1, none⟩ (.slice ma3 (R.q.clQ ln).ms.length mc3)) C2 _ _) := (K3b.out.setO (fun e => hne e.symm) _).setO (fun e => hne e.symm) _
    have H3c : Hid (QIs ((w3.setCell ⟨w.heap.size, 0, none⟩ (.slice la3 (R.q.clQ ln).ls.length lc3)).setCell ⟨w.heap.size, 1, none⟩ (.slice ma3 (R.q.clQ ln).ms.length mc3)) _ _ (R.q.clQ ln) V3) := (H3.out.setO N3.out hzz.1).setO N3.out hzz.1
    have B3c : Hid (Below w.heap.size w ((w3.setCell ⟨w.heap.size, 0, none⟩ (.slice la3 (R.q.clQ ln).ls.length lc3)).setCell ⟨w.heap.size, 1, none⟩ (.slice ma3 (R.q.clQ ln).ms.length mc3))) := (B3.out.setCell (Nat.le_refl _) _).setCell (Nat.le_refl _) _
    have S3c : Hid (((w3.setCell ⟨w.heap.size, 0, none⟩ (.slice la3 (R.q.clQ ln).ls.length lc3)).setCell ⟨w.heap.size, 1, none⟩ (.slice ma3 (R.q.clQ ln).ms.length mc3)).heap.size = w3.heap.size) := by show _ = _; simp [World.setCell]
    have s3c := S3c.out
    rw [← s3c]
    clear g0 g1 g2 g3 g4 g5 g6 l1 K4 K5 B34 hzz s3c
    generalize (w3.setCell ⟨w.heap.size, 0, none⟩ (.slice la3 (R.q.clQ ln).ls.length lc3)).setCell ⟨w.heap.size, 1, none⟩ (.slice ma3 (R.q.clQ ln).ms.length mc3) = w4 at *
    obtain ⟨k4, k5, b4, s4⟩ := alloc2 w4 [.slice la3 (R.q.clQ ln).ls.length lc3, .slice ma3 (R.q.clQ ln).ms.length mc3] 25 [.int .i64 (R.q.clC ln).1, .int .i64 (R.q.clC ln).2.1, .int .i64 (R.q.clC ln).2.2] 27
    have K4 : Hid (Blk _ _ _ _) := k4
    have K5 : Hid (Blk _ _ _ _) := k5
    have B4 : Hid (Below w4.heap.size w4 _) := b4
    clear k4 k5 b4 s4
    generalize (w4.alloc (.cells #[.slice la3 (R.q.clQ ln).ls.length lc3, .slice ma3 (R.q.clQ ln).ms.length mc3] 25)).alloc (.cells #[.int .i64 (R.q.clC ln).1, .int .i64 (R.q.clC ln).2.1, .int .i64 (R.q.clC ln).2.2] 27) = w5 at *
    have K1d : Hid (Blk w5 _ _ _) := K1c.out.below B4.out
    have K3d : Hid (Blk w5 _ _ _) := K3c.out.below B4.out
    have H3d : Hid (QIs w5 _ _ (R.q.clQ ln) V3) := H3c.out.below B4.out
    have B5 : Hid (Below w.heap.size w w5) := Below.onto B3c.out B4.out
    obtain ⟨y0, y1, y2⟩ := K5.out.bx.three
    obtain ⟨g0, g1, g2, g3, g4, g5⟩ := K1d.out.bx.six
    refine snoc_c (r := w.heap.size) (s := w4.heap.size + 1) (N := R.cl.length) (cv := cc) (av := ca) (x0 := (R.q.clC ln).1) (x1 := (R.q.clC ln).2.1) (x2 := (R.q.clC ln).2.2) (xs1 := cellsL R.cl.length 3 (encC R.cl)) rfl rfl (by kernel_rfl) (by kernel_rfl) (by kernel_rfl) rfl rfl rfl rfl rfl rfl rfl rfl rfl rfl rfl rfl rfl rfl rfl rfl rfl rfl rfl rfl rfl rfl rfl rfl rfl y0 y1 y2 g2 (fun W hW => (K1d.out.below hW).fz 2) ((HR.out.c.below B5.out).src HR.out.pc) (cellsL_len _ _ _) (cellsL_mem (by decide) (one_encC _)) hcn (by kernel_rfl) (by kernel_rfl) (by kernel_rfl) (by kernel_rfl) (by kernel_rfl) (by kernel_rfl) (by kernel_rfl) (by kernel_rfl) (fun _ _ d _ _ h => by cases d <;> exact h) ?_
    intro vA vB vC ad c w6 h6 hb6
    have hz5 := K1d.out.lt
    have hz3 := K3d.out.lt
    have hzz := HZ.out
    have K1e : Hid (Blk (w6.setCell ⟨w.heap.size, 2, none⟩ (.slice ad (R.cl.length + 1) c)) w.heap.size _ [.slice la3 (R.q.clQ ln).ls.length lc3, .slice ma3 (R.q.clQ ln).ms.length mc3, .slice ad (R.cl.length + 1) c, .slice sa R.se.length sc, .slice ta R.tk.length tc, .bool true]) := (K1d.out.below hb6).set 2 _
    have K3e : Hid (Blk (w6.setCell ⟨w.heap.size, 2, none⟩ (.slice ad (R.cl.length + 1) c)) C2 _ _) := (K3d.out.below hb6).setO (fun e => hne e.symm) _
    have H3e : Hid (QIs (w6.setCell ⟨w.heap.size, 2, none⟩ (.slice ad (R.cl.length + 1) c)) _ _ (R.q.clQ ln) V3) := (H3d.out.below hb6).setO N3.out hzz.1
    have h6' := own_set (i := 2) (u := (.slice ad (R.cl.length + 1) c)) h6 (b := w.heap.size) fun e => by have := own_blk h6 _ e; omega
    have HC6 : Hid (Sl (w6.setCell ⟨w.heap.size, 2, none⟩ (.slice ad (R.cl.length + 1) c)) 3 (R.cl ++ [R.q.clC ln]).length (encC (R.cl ++ [R.q.clC ln])) (.slice ad (R.cl.length + 1) c)) := cl3_snoc h6'
    have HS6 : Hid (Sp (.slice ad (R.cl.length + 1) c)) := sp_own h6
    have B6 : Hid (Below w.heap.size w (w6.setCell ⟨w.heap.size, 2, none⟩ (.slice ad (R.cl.length + 1) c))) := (Below.onto B5.out hb6).setCell (Nat.le_refl _) _
    have HOB : Hid (∀ b, (Value.slice ad (R.cl.length + 1) c).ownBlock = some b → ¬ b = C2) := fun b e e2 => by have := own_blk h6 b e; omega
    clear h6 h6' hb6 hz5 hz3 y0 y1 y2 g0 g1 g2 g3 g4 g5
    generalize w6.setCell ⟨w.heap.size, 2, none⟩ (.slice ad (R.cl.length + 1) c) = w7 at *
    obtain ⟨g0, g1, g2, g3, g4, g5⟩ := K1e.out.bx.six
    obtain ⟨z0, z1, z2, z3, z4, z5⟩ := K3e.out.bx.six
    have z6 := K3e.out.fz
    go_wp2_with fail
    refine bodyPost_ret (v := runV (.slice la3 (R.q.clQ ln).ls.length lc3) (.slice ma3 (R.q.clQ ln).ms.length mc3) (.slice ad (R.cl.length + 1) c) (.slice sa R.se.length sc) (.slice ta R.tk.length tc)) (by simp [results, Try.results25, go_sem, z0, z1, z2, z3, z4, z5]) rfl ⟨_, _, _, _, _, ⟨R.q.clQ ln, R.cl ++ [R.q.clC ln], R.se, R.tk⟩, V3, rfl, ?_, HK.out.claim HE.out, ?_⟩
    · have BF : Below w.heap.size w _ := (((((B6.out.setCell (p := ⟨C2, 0, none⟩) HL2.out (.slice la3 (R.q.clQ ln).ls.length lc3)).setCell (p := ⟨C2, 1, none⟩) HL2.out (.slice ma3 (R.q.clQ ln).ms.length mc3)).setCell (p := ⟨C2, 2, none⟩) HL2.out (.slice ad (R.cl.length + 1) c)).setCell (p := ⟨C2, 3, none⟩) HL2.out (.slice sa R.se.length sc)).setCell (p := ⟨C2, 4, none⟩) HL2.out (.slice ta R.tk.length tc)).setCell (p := ⟨C2, 5, none⟩) HL2.out (.bool true)
      have hC2 := hzz.2.1
      have HQF := (((((H3e.out.setO (i := 0) (u := .slice la3 (R.q.clQ ln).ls.length lc3) N3.out hC2).setO (i := 1) (u := .slice ma3 (R.q.clQ ln).ms.length mc3) N3.out hC2).setO (i := 2) (u := .slice ad (R.cl.length + 1) c) N3.out hC2).setO (i := 3) (u := .slice sa R.se.length sc) N3.out hC2).setO (i := 4) (u := .slice ta R.tk.length tc) N3.out hC2).setO (i := 5) (u := .bool true) N3.out hC2
      have ho : (Value.slice ad (R.cl.length + 1) c).ownBlock ≠ some C2 := fun e => HOB.out C2 e rfl
      have HCF := (((((HC6.out.setO (i := 0) (u := .slice la3 (R.q.clQ ln).ls.length lc3) ho).setO (i := 1) (u := .slice ma3 (R.q.clQ ln).ms.length mc3) ho).setO (i := 2) (u := .slice ad (R.cl.length + 1) c) ho).setO (i := 3) (u := .slice sa R.se.length sc) ho).setO (i := 4) (u := .slice ta R.tk.length tc) ho).setO (i := 5) (u := .bool true) ho
      exact ⟨HQF, HCF, HR.out.s.below BF, HR.out.t.below BF, HS6.out, HR.out.ps, HR.out.pt⟩
    · repeat (first | (with_reducible exact B6.out) | ((with_reducible refine Below.setCell ?_ ?_ _); rotate_left; first | exact HL2.out))
  · have hE1 : (R.q.clE ln == 0) = false := by simp [hE]
    clear hE
    generalize R.q.clE ln = E at *
    obtain ⟨g0, g1, g2, g3, g4, g5⟩ := K1b.out.bx.six
    obtain ⟨z0, z1, z2, z3, z4, z5⟩ := K3b.out.bx.six
    have z6 := K3b.out.fz
    have l1 := K1b.out.lt
    have l3 := K3b.out.lt
    go_wp2_with fail
    refine bodyPost_ret (v := runV (.slice la R.q.ls.length lc) (.slice ma R.q.ms.length mc) (.slice ca R.cl.length cc) (.slice sa R.se.length sc) (.slice ta R.tk.length tc)) (by simp [results, Try.results25, go_sem, z0, z1, z2, z3, z4, z5, l3]) rfl ⟨_, _, _, _, _, R, V, rfl, HR.out.below ?_, HK.out.up, ?_⟩
    · refine Below.onto ?_ (Below.onto (below_new _ _) (below_new _ _))
      repeat (first | (with_reducible exact B3.out) | ((with_reducible refine Below.setCell ?_ ?_ _); rotate_left; first | exact HL2.out))
    · refine Below.onto ?_ (Below.onto (below_new _ _) (below_new _ _))
      repeat (first | (with_reducible exact B3.out) | ((with_reducible refine Below.setCell ?_ ?_ _); rotate_left; first | exact HL2.out))

end Go.Proofs.Ytimmjhegeagofab
