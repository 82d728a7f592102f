/- A less that counts its calls and tells what a row of bools says (AgendaEnds). -/
import Derived.Test.YtafcgbahdfaiiaaEAct2
import Derived.Deep.Grids
import Derived.OpenShut
import Derived.BigQuiet
namespace Go.Proofs.Ytafcgbahdfaiiaa
open Go.RowKit Go.Sort
set_option maxRecDepth 100000

/-- the cells of a slice of bools -/
def BRow (w : World) (a : Option Addr) (len cap : Nat) (B : Nat → Bool) : Prop :=
  (∀ j, j < len → ∃ b off, a = some ⟨b, off, none⟩ ∧ w.cell? ⟨b, off + j, none⟩ = some (.bool (B j))) ∧ len ≤ cap ∧ cap ≤ maxLen
/-- what the less keeps: nothing of old has changed; its count may still grow by c -/
structure OJ (w0 : World) (N M : Nat) (tv : Value) (c : Nat) (W : World) : Prop where
  b : Below w0.heap.size w0 W
  n : ∃ k : Nat, Blk W N 3 [.int .i64 (k : Int)] ∧ k + c ≤ 4000000000000000000
  m : Blk W M 51 [tv]
theorem OJ.le {w0 W : World} {N M : Nat} {tv : Value} {c c' : Nat} (h : OJ w0 N M tv c' W) (hc : c ≤ c') : OJ w0 N M tv c W :=
  ⟨h.b, by obtain ⟨k, h1, h2⟩ := h.n; exact ⟨k, h1, by omega⟩, h.m⟩
abbrev OX (w0 : World) (N M : Nat) : Nat → Prop := fun b => b < w0.heap.size ∨ b = N ∨ b = M
theorem OJ.but {w0 W W' : World} {N M : Nat} {tv : Value} {c : Nat} (h : OJ w0 N M tv c W) (k : But (fun b => ¬ OX w0 N M b) W W') : OJ w0 N M tv c W' :=
  ⟨⟨k.os.trans h.b.os, k.tape.trans h.b.tape, k.output.trans h.b.output, Nat.le_trans h.b.size k.size, fun b hb => (k.block b (Nat.lt_of_lt_of_le hb h.b.size) (fun hn => hn (.inl hb))).trans (h.b.block b hb)⟩,
    by obtain ⟨n, h1, h2⟩ := h.n; exact ⟨n, h1.but k (fun hn => hn (.inr (.inl rfl))), h2⟩, h.m.but k (fun hn => hn (.inr (.inr rfl)))⟩
set_option maxHeartbeats 2000000 in
theorem odd_call (w0 : World) (N M : Nat) (ta : Option Addr) (tn tc : Nat) (z : Nat → Bool) (hN : w0.heap.size ≤ N) (hNM : N ≠ M) (hz : BRow w0 ta tn tc z) (c : Nat) (k1 m1 k2 m2 : Int) (w : World) (hJ : OJ w0 N M (.slice ta tn tc) (c + 1) w) :
    Calls Try.prog 21 #[thV k1 m1, thV k2 m2, ptr N, ptr M] w fun e w' => ∃ t : Bool, e = .returned (.bool t) ∧ But (OX w0 N M) w w' ∧ OJ w0 N M (.slice ta tn tc) c w' := by
  obtain ⟨k, kn, hkc⟩ := hJ.n
  have km := hJ.m
  have n0 := kn.cell (i := 0) rfl
  have n1 := kn.fz
  have n2 := kn.lt
  have m0 := km.cell (i := 0) rfl
  have mM := km.lt
  have hk : (k : Int) + 1 ≤ 4000000000000000000 := by omega
  have b1 : Below (w.setCell ⟨N, 0, none⟩ (.int .i64 ((k : Int) + 1))).heap.size (w.setCell ⟨N, 0, none⟩ (.int .i64 ((k : Int) + 1))) (((w.setCell ⟨N, 0, none⟩ (.int .i64 ((k : Int) + 1))).alloc (.cells #[.int .i8 k1, .int .i64 m1] 27)).alloc (.cells #[.int .i8 k2, .int .i64 m2] 27)) := ((Below.refl _ _).alloc (Nat.le_refl _) _).alloc (by simp) _
  have k4 : Blk (((w.setCell ⟨N, 0, none⟩ (.int .i64 ((k : Int) + 1))).alloc (.cells #[.int .i8 k1, .int .i64 m1] 27)).alloc (.cells #[.int .i8 k2, .int .i64 m2] 27)) N 3 [.int .i64 ((k : Int) + 1)] := (kn.set 0 (.int .i64 ((k : Int) + 1))).below b1
  have m4 : Blk (((w.setCell ⟨N, 0, none⟩ (.int .i64 ((k : Int) + 1))).alloc (.cells #[.int .i8 k1, .int .i64 m1] 27)).alloc (.cells #[.int .i8 k2, .int .i64 m2] 27)) M 51 [.slice ta tn tc] := (km.setO (Ne.symm hNM) _).below b1
  have bw : Below w0.heap.size w0 (((w.setCell ⟨N, 0, none⟩ (.int .i64 ((k : Int) + 1))).alloc (.cells #[.int .i8 k1, .int .i64 m1] 27)).alloc (.cells #[.int .i8 k2, .int .i64 m2] 27)) := Below.onto (hJ.b.setCell (p := ⟨N, 0, none⟩) hN _) b1
  have END : Hid (But (OX w0 N M) w (((w.setCell ⟨N, 0, none⟩ (.int .i64 ((k : Int) + 1))).alloc (.cells #[.int .i8 k1, .int .i64 m1] 27)).alloc (.cells #[.int .i8 k2, .int .i64 m2] 27)) ∧ OJ w0 N M (.slice ta tn tc) c (((w.setCell ⟨N, 0, none⟩ (.int .i64 ((k : Int) + 1))).alloc (.cells #[.int .i8 k1, .int .i64 m1] 27)).alloc (.cells #[.int .i8 k2, .int .i64 m2] 27))) :=
    ⟨((But.refl (OX w0 N M) w).setCell (p := ⟨N, 0, none⟩) (.inr (.inl rfl)) _).trans (But.of b1), bw, ⟨k + 1, k4, by omega⟩, m4⟩
  have e0 := k4.cell (i := 0) rfl
  have e1 := m4.cell (i := 0) rfl
  have HZ : Hid (BRow w0 ta tn tc z) := hz
  have HW : Hid (Below w0.heap.size w0 (((w.setCell ⟨N, 0, none⟩ (.int .i64 ((k : Int) + 1))).alloc (.cells #[.int .i8 k1, .int .i64 m1] 27)).alloc (.cells #[.int .i8 k2, .int .i64 m2] 27))) := bw
  clear hJ kn km hkc hz b1 hN hNM k4 m4 bw
  unfold thV
  go_enter Try.func21, Try.ntmps21
  go_wp2_with fail
  clear n0 n1 n2 m0 mM
  generalize (((w.setCell ⟨N, 0, none⟩ (.int .i64 ((k : Int) + 1))).alloc (.cells #[.int .i8 k1, .int .i64 m1] 27)).alloc (.cells #[.int .i8 k2, .int .i64 m2] 27)) = w4 at *
  have EndD : Hid (∀ W, Below w4.heap.size w4 W → But (OX w0 N M) w W ∧ OJ w0 N M (.slice ta tn tc) c W) := fun W hW =>
    ⟨END.out.1.trans (But.of hW), Below.onto END.out.2.b hW, by obtain ⟨q, h1, h2⟩ := END.out.2.n; exact ⟨q, h1.below hW, h2⟩, END.out.2.m.below hW⟩
  clear END
  by_cases h0 : tn = 0
  · subst h0
    go_quiet (fail)
    go_wp2_with fail
    go_ret
    exact ⟨false, rfl, EndD.out _ (below_drewN (Below.refl _ _) nq)⟩
  · have hkl : (k + 1) % tn < tn := Nat.mod_lt _ (Nat.pos_of_ne_zero h0)
    have hmod : ((k : Int) + 1).tmod (tn : Int) = (((k + 1) % tn : Nat) : Int) := by rw [Int.tmod_eq_emod_of_nonneg (by omega)]; exact (Int.natCast_emod _ _).symm
    generalize (k + 1) % tn = kk at *
    obtain ⟨b, off, rfl, hc⟩ := HZ.out.1 kk hkl
    have e2 : w4.cell? ⟨b, off + kk, none⟩ = some (.bool (z kk)) := (HW.out.cell (p := ⟨b, off + kk, none⟩) (cell_lt hc)).trans hc
    have hkl2 : (kk : Int) < (tn : Int) := by omega
    have h1 : (0 : Int) < (tn : Int) := by omega
    have h2 : ¬ (tn : Int) = 0 := by omega
    have h3 : 0 < tn := by omega
    clear hc
    generalize z kk = zk at *
    go_region_held3 (fun W => W.cell? ⟨N, 0, none⟩ = some (.int .i64 ((k : Int) + 1)) ∧ W.cell? ⟨M, 0, none⟩ = some (.slice (some ⟨b, off, none⟩) tn tc) ∧ W.cell? ⟨b, off + kk, none⟩ = some (.bool zk)) (first | (with_reducible assumption) | exact ⟨e0, e1, e2⟩) (fail)
    go_wp2_with fail
    go_ret
    exact ⟨zk, rfl, EndD.out _ (Below.refl _ w4).drew⟩
def oddL (w0 : World) (N M : Nat) (tv : Value) (c : Nat) : Le := ⟨21, #[ptr N, ptr M], OJ w0 N M tv, c, OX w0 N M, False⟩
theorem oddOk (w0 : World) (N M : Nat) (ta : Option Addr) (tn tc : Nat) (z : Nat → Bool) (c : Nat) (hN : w0.heap.size ≤ N) (_ : w0.heap.size ≤ M) (hNM : N ≠ M) (hz : BRow w0 ta tn tc z) : (oddL w0 N M (.slice ta tn tc) c).Ok :=
  ⟨enters_of Try.func21 (by kernel_rfl) rfl, fun _ _ _ h k => h.but k, fun _ W b h hb => by
    rcases hb with hb | rfl | rfl
    · exact Nat.lt_of_lt_of_le hb h.b.size
    · obtain ⟨_, h1, _⟩ := h.n; exact h1.lt
    · exact h.m.lt, fun _ _ _ hc h => h.le hc, fun c W k1 m1 k2 m2 h => (odd_call w0 N M ta tn tc z hN hNM hz c k1 m1 k2 m2 W h).mono fun _ _ ⟨t, h1, h2, h3⟩ => ⟨t, h1, fun h => h.elim, h2, h3⟩⟩
end Go.Proofs.Ytafcgbahdfaiiaa
