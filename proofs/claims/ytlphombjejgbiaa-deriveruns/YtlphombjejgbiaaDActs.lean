/- Root and Derive. -/
import Derived.Test.YtlphombjejgbiaaDMem
import Derived.Test.YtlphombjejgbiaaDActM
namespace Go.Proofs.Ytlphombjejgbiaa
open Go.RowKit Go.Shelf
attribute [local go_sem] Oper.semAt_some
set_option maxRecDepth 100000

/-- a forest in memory, also while nodes go one by one -/
structure Fk (w : World) (a : Fp) (N : Nat) (L : List Fe) (z : Nat → Int) : Prop where
  pc : Boxed w a.p 69 (.pointer (some ⟨a.k, 0, none⟩))
  k0 : w.cell? ⟨a.k, 0, none⟩ = some (.int .i64 (N : Int))
  kz : Wds w a.k z
  k17 : w.cell? ⟨a.k, 17, none⟩ = some a.o.ptr
  kf : ∀ i, w.frozen? ⟨a.k, i, none⟩ = false
  kv : Kv w a.o N N (kids L)
  fw : Fw N L
  hN : N ≤ 1024
  ma : ∀ i j, i < 16 → j < 64 → tb (z i) j = decide (64 * i + j ∈ nds L)
  ne : a.p ≠ a.k ∧ ¬ a.o.has a.p ∧ ¬ a.o.has a.k
theorem Fx.fk {w : World} {a : Fp} {N : Nat} {L : List Fe} {z : Nat → Int} (h : Fx w a N L z) : Fk w a N L z := ⟨h.pc, h.k0, h.kz, h.k17, h.kf, h.kv, h.ok.fw, h.hN, h.ma, h.ne⟩
theorem Fk.fx {w : World} {a : Fp} {N : Nat} {L : List Fe} {z : Nat → Int} (h : Fk w a N L z) (ok : Fok N L) : Fx w a N L z := ⟨h.pc, h.k0, h.kz, h.k17, h.kf, h.kv, ok, h.hN, h.ma, h.ne⟩
/-- the lists are changed -/
theorem Fk.lists {w w' : World} {a : Fp} {N : Nat} {L : List Fe} {z : Nat → Int} (h : Fk w a N L z) (hb : But a.o.has w w') : Boxed w' a.p 69 (.pointer (some ⟨a.k, 0, none⟩)) ∧ w'.cell? ⟨a.k, 0, none⟩ = some (.int .i64 (N : Int)) ∧ Wds w' a.k z ∧ w'.cell? ⟨a.k, 17, none⟩ = some a.o.ptr ∧ ∀ i, w'.frozen? ⟨a.k, i, none⟩ = false := by
  have hk := hb.block a.k (cell_lt h.k0) h.ne.2.2
  exact ⟨(hb.block a.p h.pc.lt h.ne.2.1).trans h.pc, hb.cell h.k0 h.ne.2.2, fun i hi => ⟨hb.cell (h.kz i hi).1 h.ne.2.2, (h.kz i hi).2⟩, hb.cell h.k17 h.ne.2.2, fun i => (World.frozen?_of_block (a := ⟨a.k, i, none⟩) hk).trans (h.kf i)⟩
theorem wds_set {w : World} {b i : Nat} {z : Nat → Int} {v : Int} (h : Wds w b z) (hi : i < 16) (h0 : 0 ≤ v) (h1 : v < 18446744073709551616) : Wds (w.setCell ⟨b, 1 + i, none⟩ (.int .u64 v)).drew b (upd z i v) := by
  intro q hq
  by_cases e : q = i
  · subst e
    refine ⟨?_, by simp [upd, h0], by simpa [upd] using h1⟩
    have := cell_set_eq (v := .int .u64 v) (h q hq).1
    simpa [upd] using this
  · refine ⟨?_, ?_⟩
    · have := cell_set_ne (w := w) (b := b) (i := 1 + q) (b' := b) (i' := 1 + i) (v := .int .u64 v) (.inr (by omega))
      simp only [upd, e, if_false]
      exact this.trans (h q hq).1
    · simp only [upd, e, if_false]; exact (h q hq).2
/-- a word of the marks is set, the lists stand already -/
theorem Fk.word {w : World} {a : Fp} {N : Nat} {L' : List Fe} {z : Nat → Int} {i : Nat} {v : Int} (hi : i < 16) (h0 : 0 ≤ v) (h1 : v < 18446744073709551616)
    (pc : Boxed w a.p 69 (.pointer (some ⟨a.k, 0, none⟩))) (k0 : w.cell? ⟨a.k, 0, none⟩ = some (.int .i64 (N : Int))) (kz : Wds w a.k z) (k17 : w.cell? ⟨a.k, 17, none⟩ = some a.o.ptr) (kf : ∀ i, w.frozen? ⟨a.k, i, none⟩ = false) (kv : Kv w a.o N N (kids L')) (fw : Fw N L') (hN : N ≤ 1024)
    (ma : ∀ q j, q < 16 → j < 64 → tb (upd z i v q) j = decide (64 * q + j ∈ nds L')) (ne : a.p ≠ a.k ∧ ¬ a.o.has a.p ∧ ¬ a.o.has a.k) :
    Fk (w.setCell ⟨a.k, 1 + i, none⟩ (.int .u64 v)).drew a N L' (upd z i v) := by
  have hb : But (fun b => b = a.k) w (w.setCell ⟨a.k, 1 + i, none⟩ (.int .u64 v)).drew := ((But.refl (fun b => b = a.k) w).setCell (p := ⟨a.k, 1 + i, none⟩) rfl _).drew
  refine ⟨Boxed.but pc hb ne.1, ?_, wds_set kz hi h0 h1, ?_, fun q => ?_, kv.but hb (fun b ho e => ne.2.2 (e ▸ ho)), fw, hN, ma, ne⟩
  · exact (cell_set_ne (.inr (by omega))).trans k0
  · exact (cell_set_ne (.inr (by omega))).trans k17
  · exact (fz_set).trans (kf q)
theorem ma_set {N : Nat} {L : List Fe} {z : Nat → Int} (h : ∀ i j, i < 16 → j < 64 → tb (z i) j = decide (64 * i + j ∈ nds L)) {x : Nat} (_ : x < 1024) (p : Int) (_ : N ≤ 1024) :
    ∀ q j, q < 16 → j < 64 → tb (upd z (x / 64) (setI (z (x / 64)) (x % 64)) q) j = decide (64 * q + j ∈ nds (L ++ [⟨x, p⟩])) := by
  intro q j hq hj
  have hm : (64 * q + j ∈ nds (L ++ [⟨x, p⟩])) ↔ (64 * q + j ∈ nds L ∨ 64 * q + j = x) := by rw [nds_app]; simp [nds]
  by_cases e : q = x / 64
  · subst e
    simp only [upd, if_true, tb_setI, h _ j hq hj]
    by_cases h2 : x % 64 = j
    · have : 64 * (x / 64) + j = x := by omega
      rw [this] at hm ⊢
      simp [hm, h2]
    · have : 64 * (x / 64) + j ≠ x := by omega
      simp [hm, this, h2]
  · simp only [upd, e, if_false, h _ j hq hj]
    have : 64 * q + j ≠ x := by omega
    simp [hm, this]
theorem ma_clr {L : List Fe} {z : Nat → Int} (h : ∀ i j, i < 16 → j < 64 → tb (z i) j = decide (64 * i + j ∈ nds L)) {x : Nat} (_ : x < 1024) :
    ∀ q j, q < 16 → j < 64 → tb (upd z (x / 64) (clrI (z (x / 64)) (x % 64)) q) j = decide (64 * q + j ∈ nds (wout L [x])) := by
  intro q j hq hj
  have hm : (64 * q + j ∈ nds (wout L [x])) ↔ (64 * q + j ∈ nds L ∧ 64 * q + j ≠ x) := by rw [mem_wout]; simp
  by_cases e : q = x / 64
  · subst e
    simp only [upd, if_true, tb_clrI _ (show x % 64 < 64 by omega) hj, h _ j hq hj]
    by_cases h2 : x % 64 = j
    · have : 64 * (x / 64) + j = x := by omega
      rw [this] at hm ⊢
      simp [hm, h2]
    · have : 64 * (x / 64) + j ≠ x := by omega
      simp [hm, this, h2]
  · simp only [upd, e, if_false, h _ j hq hj]
    have : 64 * q + j ≠ x := by omega
    simp [hm, this]
/-- a forest in memory -/
def Fo (w : World) (a : Fp) (N : Nat) (L : List Fe) : Prop := ∃ z, Fx w a N L z

set_option maxHeartbeats 2000000 in
theorem root_k {w : World} {a : Fp} {N : Nat} {L : List Fe} (h : Fo w a N L) (x : Int) :
    Calls Try.prog 20 #[a.ptr, .int .i64 x] w fun e w' => e = .returned (.int .i64 (rootE N L x)) ∧ Fo w' a N (rootL N L x) ∧ But a.has w w' := by
  obtain ⟨z, h⟩ := h
  have hB : Below w.heap.size w (w.alloc (.cells #[.int .i64 x] 3)) := (Below.refl _ w).alloc (Nat.le_refl _) _
  have hm := fmay1 h x
  have h1 := h.below hB
  have hh := fhas_any h1 x
  have HB : Hid _ := hB
  have H1 : Hid _ := h1
  have HX : Hid (Fx w a N L z) := h
  clear h h1 hB
  cases hin : inR N x
  · rw [hin] at hm
    simp only [Bool.false_eq_true, if_false] at hm
    have HR : Hid (rootE N L x = 120 ∧ rootL N L x = L) := by constructor <;> simp [rootE, rootL, hin]
    clear hin
    go_enter Try.func20, Try.ntmps20
    go_wp2_with fail
    refine hm.mono ?_
    rintro e w' ⟨rfl, rfl⟩
    go_wp2_with fail
    go_ret
    rw [HR.out.1, HR.out.2]
    exact ⟨rfl, ⟨z, H1.out⟩, But.of HB.out⟩
  · have hin' := hin
    obtain ⟨k, rfl, hk⟩ := inR_nat hin
    rw [hin] at hm
    simp only [if_true] at hm
    by_cases hmem : k ∈ nds L
    · have hhas : hasF N L (k : Int) = true := by simp [hasF, hin', hmem]
      rw [hhas] at hh
      have HR : Hid (rootE N L (k : Int) = 121 ∧ rootL N L (k : Int) = L) := by constructor <;> simp [rootE, rootL, hin', hmem]
      clear hin hin' hhas
      go_enter Try.func20, Try.ntmps20
      go_wp2_with fail
      refine hm.mono ?_
      rintro e w' ⟨rfl, rfl⟩
      go_wp2_with fail
      refine hh.mono ?_
      rintro e w2 ⟨rfl, hb2⟩
      go_wp2_with fail
      go_ret
      rw [HR.out.1, HR.out.2]
      exact ⟨rfl, ⟨z, H1.out.below hb2⟩, But.of (Below.onto HB.out hb2)⟩
    · have hhas : hasF N L (k : Int) = false := by simp [hasF, hmem]
      rw [hhas] at hh
      have HR : Hid (rootE N L (k : Int) = 0 ∧ rootL N L (k : Int) = L ++ [⟨k, -1⟩]) := by constructor <;> simp [rootE, rootL, hin', hmem]
      have HM : Hid (k ∉ nds L) := hmem
      clear hin hin' hhas hmem
      go_enter Try.func20, Try.ntmps20
      go_wp2_with fail
      refine hm.mono ?_
      rintro e w' ⟨rfl, rfl⟩
      go_wp2_with fail
      refine hh.mono ?_
      rintro e w2 ⟨rfl, hb2⟩
      have h2 := H1.out.below hb2
      have c := h2.pc.cell
      have hN := h2.hN
      have hms := mset_any a.k z k (k / 64) (k % 64) (by omega) (by omega) (by omega) w2 h2.kz (h2.kf _)
      have HB2 : Hid (Below w.heap.size w w2) := Below.onto HB.out hb2
      have H2 : Hid (Fx w2 a N L z) := h2
      clear h2 hb2
      go_wp2_with fail
      refine hms.mono ?_
      rintro e w3 ⟨rfl, rfl⟩
      go_wp2_with fail
      go_ret
      rw [HR.out.1, HR.out.2]
      have h2 := H2.out
      have h0 := (h2.kz (k / 64) (by omega)).2
      refine ⟨rfl, ⟨_, Fk.fx (Fk.word (by omega) (setI_nonneg _ _) (setI_lt h0.2 (by omega)) h2.pc h2.k0 h2.kz h2.k17 h2.kf (by rw [kids_root]; exact h2.kv) ((h2.ok.snoc hk HM.out (.inl rfl)).fw) hN (ma_set h2.ma (by omega) (-1) hN) h2.ne) (h2.ok.snoc hk HM.out (.inl rfl))⟩, ?_⟩
      exact ((But.of HB2.out).setCell (p := ⟨a.k, _, none⟩) (.inr (.inl rfl)) _).drew
theorem push_kids {N : Nat} {L : List Fe} {p k : Nat} (_ : Fw N L) (hp : p < N) (hk : k < N) (hn : k ∉ nds L) : pushR N N (kids L) false (p : Int) (k : Int) = kids (L ++ [⟨k, (p : Int)⟩]) := by
  have h1 : inR N (p : Int) = true := inR_iff.2 (by omega)
  have h2 : inR N (k : Int) = true := inR_iff.2 (by omega)
  have h3 : whr (kids L) N k = none := whr_none_of fun j _ hm => hn ((kids_sub L j).subset hm)
  rw [kids_derive]
  simp [pushR, pushE, h1, h2, h3]
set_option maxHeartbeats 4000000 in
theorem derive_k {w : World} {a : Fp} {N : Nat} {L : List Fe} (h : Fo w a N L) (p x : Int) :
    Calls Try.prog 21 #[a.ptr, .int .i64 p, .int .i64 x] w fun e w' => e = .returned (.int .i64 (derE N L p x)) ∧ Fo w' a N (derL N L p x) ∧ But a.has w w' := by
  obtain ⟨z, h⟩ := h
  have hB : Below w.heap.size w (w.alloc (.cells #[.int .i64 p, .int .i64 x] 3)) := (Below.refl _ w).alloc (Nat.le_refl _) _
  have hm := fmay2 h p x
  have h1 := h.below hB
  have hh := fhas_any h1 x
  have HB : Hid _ := hB
  have H1 : Hid _ := h1
  clear h h1 hB
  cases hin : (inR N p && inR N x)
  · rw [hin] at hm
    simp only [Bool.false_eq_true, if_false] at hm
    have HR : Hid (derE N L p x = 120 ∧ derL N L p x = L) := by constructor <;> simp [derE, derL, hin]
    clear hin
    go_enter Try.func21, Try.ntmps21
    go_wp2_with fail
    refine hm.mono ?_
    rintro e w' ⟨rfl, rfl⟩
    go_wp2_with fail
    go_ret
    rw [HR.out.1, HR.out.2]
    exact ⟨rfl, ⟨z, H1.out⟩, But.of HB.out⟩
  · have hin' := hin
    rw [Bool.and_eq_true] at hin
    have i1 := hin.1
    have i2 := hin.2
    obtain ⟨q, rfl, hq⟩ := inR_nat hin.1
    obtain ⟨k, rfl, hk⟩ := inR_nat hin.2
    rw [hin'] at hm
    simp only [if_true] at hm
    by_cases hmem : k ∈ nds L
    · have hhas : hasF N L (k : Int) = true := by simp [hasF, i2, hmem]
      rw [hhas] at hh
      have HR : Hid (derE N L (q : Int) (k : Int) = 121 ∧ derL N L (q : Int) (k : Int) = L) := by constructor <;> simp [derE, derL, i1, i2, hmem]
      clear hin hin' hhas i1 i2
      go_enter Try.func21, Try.ntmps21
      go_wp2_with fail
      refine hm.mono ?_
      rintro e w' ⟨rfl, rfl⟩
      go_wp2_with fail
      refine hh.mono ?_
      rintro e w2 ⟨rfl, hb2⟩
      go_wp2_with fail
      go_ret
      rw [HR.out.1, HR.out.2]
      exact ⟨rfl, ⟨z, H1.out.below hb2⟩, But.of (Below.onto HB.out hb2)⟩
    · have hhas : hasF N L (k : Int) = false := by simp [hasF, hmem]
      rw [hhas] at hh
      have HM : Hid (k ∉ nds L) := hmem
      by_cases hpar : q ∈ nds L
      · have hhp : hasF N L (q : Int) = true := by simp [hasF, i1, hpar]
        have HR : Hid (derE N L (q : Int) (k : Int) = 0 ∧ derL N L (q : Int) (k : Int) = L ++ [⟨k, (q : Int)⟩]) := by constructor <;> simp [derE, derL, i1, i2, hmem, hpar]
        have HP : Hid (q ∈ nds L ∧ hasF N L (q : Int) = true) := ⟨hpar, hhp⟩
        clear hin hin' hhas hmem i1 i2 hpar hhp
        go_enter Try.func21, Try.ntmps21
        go_wp2_with fail
        refine hm.mono ?_
        rintro e w' ⟨rfl, rfl⟩
        go_wp2_with fail
        refine hh.mono ?_
        rintro e w2 ⟨rfl, hb2⟩
        have H2 : Hid (Fx w2 a N L z ∧ Below w.heap.size w w2) := ⟨H1.out.below hb2, Below.onto HB.out hb2⟩
        have hh2 := fhas_any H2.out.1 (q : Int)
        rw [HP.out.2] at hh2
        clear hm hh hb2
        go_wp2_with fail
        refine hh2.mono ?_
        rintro e w3 ⟨rfl, hb3⟩
        have H3 : Hid (Fx w3 a N L z ∧ Below w.heap.size w w3) := ⟨H2.out.1.below hb3, Below.onto H2.out.2 hb3⟩
        have c := H3.out.1.pc.cell
        have c17 := H3.out.1.k17
        have hN := H3.out.1.hN
        have hpush := push_k a.o N N (kids L) (q : Int) (k : Int) w3 H3.out.1.kv
        clear hh2 hb3
        go_wp2_with fail
        refine hpush.mono ?_
        rintro e w4 ⟨rfl, hkv, hb4⟩
        rw [push_kids H3.out.1.ok.fw hq hk HM.out] at hkv
        obtain ⟨pc, k0, kz, k17, kf⟩ := H3.out.1.fk.lists hb4
        have c4 := pc.cell
        have hms := mset_any a.k z k (k / 64) (k % 64) (by omega) (by omega) (by omega) w4 kz (kf _)
        have H4 : Hid (Boxed w4 a.p 69 (.pointer (some ⟨a.k, 0, none⟩)) ∧ w4.cell? ⟨a.k, 0, none⟩ = some (.int .i64 (N : Int)) ∧ Wds w4 a.k z ∧ w4.cell? ⟨a.k, 17, none⟩ = some a.o.ptr ∧ (∀ i, w4.frozen? ⟨a.k, i, none⟩ = false) ∧ Kv w4 a.o N N (kids (L ++ [⟨k, (q : Int)⟩])) ∧ But a.o.has w3 w4) := ⟨pc, k0, kz, k17, kf, hkv, hb4⟩
        clear hpush hkv hb4 pc k0 kz k17 kf c c17
        go_wp2_with fail
        refine hms.mono ?_
        rintro e w5 ⟨rfl, rfl⟩
        go_wp2_with fail
        go_ret
        rw [HR.out.1, HR.out.2]
        obtain ⟨pc, k0, kz, k17, kf, hkv, hb4⟩ := H4.out
        have h0 := (kz (k / 64) (by omega)).2
        have ok := H3.out.1.ok.snoc hk HM.out (.inr ⟨q, HP.out.1, rfl⟩)
        refine ⟨rfl, ⟨_, Fk.fx (Fk.word (by omega) (setI_nonneg _ _) (setI_lt h0.2 (by omega)) pc k0 kz k17 kf hkv ok.fw hN (ma_set H3.out.1.ma (by omega) (q : Int) hN) H3.out.1.ne) ok⟩, ?_⟩
        exact (((But.of H3.out.2).trans (hb4.mono fun b hb => .inr (.inr hb))).setCell (p := ⟨a.k, _, none⟩) (.inr (.inl rfl)) _).drew
      · have hhp : hasF N L (q : Int) = false := by simp [hasF, hpar]
        have HR : Hid (derE N L (q : Int) (k : Int) = 122 ∧ derL N L (q : Int) (k : Int) = L) := by constructor <;> simp [derE, derL, i1, i2, hmem, hpar]
        have HP : Hid (hasF N L (q : Int) = false) := hhp
        clear hin hin' hhas hmem i1 i2 hpar hhp
        go_enter Try.func21, Try.ntmps21
        go_wp2_with fail
        refine hm.mono ?_
        rintro e w' ⟨rfl, rfl⟩
        go_wp2_with fail
        refine hh.mono ?_
        rintro e w2 ⟨rfl, hb2⟩
        have H2 : Hid (Fx w2 a N L z ∧ Below w.heap.size w w2) := ⟨H1.out.below hb2, Below.onto HB.out hb2⟩
        have hh2 := fhas_any H2.out.1 (q : Int)
        rw [HP.out] at hh2
        clear hm hh hb2
        go_wp2_with fail
        refine hh2.mono ?_
        rintro e w3 ⟨rfl, hb3⟩
        go_wp2_with fail
        go_ret
        rw [HR.out.1, HR.out.2]
        exact ⟨rfl, ⟨z, H2.out.1.below hb3⟩, But.of (Below.onto H2.out.2 hb3)⟩
end Go.Proofs.Ytlphombjejgbiaa
