/- The document's Held; two rows of names that are the same. -/
import Derived.Test.YtobpignlamekmaaQWr
namespace Go.Proofs.Ytobpignlamekmaa
open Go.RowKit Go.Sort
set_option maxRecDepth 100000

def hlQ (h : Sh) (d : Da) (part : Int) : Nat → List (Nat × Int)
  | 0 => []
  | n + 1 => if (!d.fr h n && decide ((h.pt n : Int) = part)) = true then hlQ h d part n ++ [(n, d.gen n)] else hlQ h d part n
theorem hlQ_len (h : Sh) (d : Da) (part : Int) (n : Nat) : (hlQ h d part n).length ≤ n := by
  induction n with
  | zero => exact Nat.le_refl _
  | succ n ih =>
    unfold hlQ
    split
    · rw [List.length_append]; simp; omega
    · omega
theorem hlQ_filter (h : Sh) (d : Da) (part : Int) (n : Nat) : hlQ h d part n = ((List.range n).filter fun m => !d.fr h m && decide ((h.pt m : Int) = part)).map fun m => (m, d.gen m) := by
  induction n with
  | zero => rfl
  | succ n ih =>
    unfold hlQ
    rw [List.range_succ, List.filter_append, List.map_append, ← ih]
    split
    · rename_i e; simp only [List.filter_cons, e, if_true, List.filter_nil, List.map_cons, List.map_nil]
    · rename_i e; simp only [List.filter_cons, e, List.filter_nil]; simp
theorem hlQ_held {h : Sh} {d : Da} (ok : h.Ok) (c : Cont h) (part : Int) : hlQ h d part h.N = heldL h d part := by
  rw [hlQ_filter]
  unfold heldL
  cases hh : inR h.P part
  · have : ((List.range h.N).filter fun m => !d.fr h m && decide ((h.pt m : Int) = part)) = [] := by
      apply List.filter_eq_nil_iff.2
      intro m hm
      have h1 := (ok.at_ m (List.mem_range.1 hm)).1
      have h2 : ¬ (h.pt m : Int) = part := by
        intro e
        have : inR h.P part = true := inR_iff.2 (by omega)
        rw [hh] at this; cases this
      simp [h2]
    rw [this]; rfl
  · obtain ⟨k, rfl, hk⟩ := inR_nat hh
    simp only [if_true, Int.toNat_natCast, hlOf]
    rw [← part_range ok c hk, List.filter_filter]
    congr 1
    apply List.filter_congr
    intro m _
    have : decide ((h.pt m : Int) = (k : Int)) = decide (h.pt m = k) := by
      by_cases e : h.pt m = k
      · simp [e]
      · have : ¬ (h.pt m : Int) = (k : Int) := by omega
        simp [e, this]
    rw [this]

set_option maxHeartbeats 4000000 in
theorem rheld_q (q : Qo) (h : Sh) (d : Da) (part : Int) (w : World) (a : Qx w q h (qOf h d)) (ok : h.Ok) (c : Cont h) :
    Calls Try.prog 20 #[q.ptr, .int .i64 part] w fun e w' => ∃ v, e = .returned v ∧ w'.ownsRow w.heap.size 36 2 v (heldL h d part).length (encP (heldL h d part)) ∧ Below w.heap.size w w' := by
  obtain ⟨i0, hi0, hz0, hz1, hz2⟩ := info_parts Try.infoApiSlot
  have HK : Hid (Qx w q h (qOf h d)) := a
  have HO : Hid h.Ok := ok
  have HC : Hid (Cont h) := c
  have hN := ok.n4
  rw [← hlQ_held ok c]
  clear a ok c
  go_enter Try.func20, Try.ntmps20
  go_wp2_with fail
  go_loopw [5, 6] (fun vl vi wr => ∃ n : Nat, n ≤ h.N ∧ vi = .int .i64 n ∧ Below w.heap.size w wr ∧ ∃ (va : Option Addr) (vc : Nat), vl = .slice va (hlQ h d part n).length vc ∧ Hid (wr.ownsRow w.heap.size 36 2 (.slice va (hlQ h d part n).length vc) (hlQ h d part n).length (encP (hlQ h d part n)))) (fun _ vi _ => h.N - (intOf vi).toNat)
  case atStart => exact ⟨0, by omega, rfl, Below.refl _ _, none, 0, rfl, World.ownsRow_nil _ _ _ _⟩
  case round =>
    obtain ⟨n, hn, rfl, hbel, va, vc, rfl, hrow⟩ := hrel
    have HQ : Hid (Qx wr q h (qOf h d)) := HK.out.below hbel
    have c1 := HQ.out.c1
    by_cases hlt : n < h.N
    · rw [HQ.out.cl (by omega)] at c1
      have y1 : wr.cell? ⟨q.bc, n * 3 + 1, none⟩ = some (.int .u64 (d.gen n)) := HQ.out.y1 n hlt
      have y2 : wr.cell? ⟨q.bc, n * 3 + 2, none⟩ = some (.bool (!d.fr h n)) := HQ.out.y2 n hlt
      have hp := rPart_q q h _ (n : Int) wr HQ.out HO.out HC.out (by omega)
      have hin : inR h.N (n : Int) = true := inR_iff.2 (by omega)
      rw [show ptI h (n : Int) = (h.pt n : Int) by simp [ptI, hin], hin] at hp
      have hl := hlQ_len h d part n
      have hsz := hbel.size
      have HE : Hid (hlQ h d part (n + 1) = if (!d.fr h n && decide ((h.pt n : Int) = part)) = true then hlQ h d part n ++ [(n, d.gen n)] else hlQ h d part n) := rfl
      generalize d.fr h n = ff at *
      generalize (h.pt n : Int) = pp at *
      generalize d.gen n = gg at *
      clear hin
      cases ff
      · simp only [Bool.not_false] at y2
        by_cases he : pp = part
        · have HE2 : Hid (hlQ h d part (n + 1) = hlQ h d part n ++ [(n, gg)]) := by have := HE.out; rw [he] at this; show _ = _; simpa using this
          have HL : Hid ((hlQ h d part (n + 1)).length = (hlQ h d part n).length + 1) := by show _ = _; rw [HE2.out]; simp
          subst he
          clear HE
          generalize hlQ h d pp n = LL at *
          go_wp2_with fail
          refine hp.mono ?_
          rintro e w3 ⟨rfl, e3⟩
          subst e3
          go_wp2_with (at_builtin; refine wpList_append_own _ rfl _ _ 45 rfl w.heap.size 36 i0 (.agg #[.int .i64 0, .int .u64 0]) 2 16 Try.underlying45 hi0 hz0 hz1 hz2 rfl (by decide) _ _ _ rfl (hrow.out.alloc _) ⟨w3.heap.size, 0, none⟩ 1 1 [.int .i64 (n : Int), .int .u64 gg] rfl rfl (two_new _ _ _ _) (by simp [Value.oneCell']) (by unfold maxLen; omega) (by omega) (by simp; omega) ?_; intro v' w4 hown' hgrow _; obtain ⟨g', cap', rfl⟩ := ownsRow_succ hown'; have B4 : Below w.heap.size w w4 := below_grown hbel hsz hgrow (fun k e => (hrow.out.lt k e).1); have HR : Hid (World.ownsRow _ _ _ _ _ _ _) := hown'; clear hown' hgrow)
          go_roundw
          case rel => exact ⟨n + 1, by omega, by go_num, B4, _, _, by rw [HL.out], by rw [HE2.out, encP_snoc, List.length_append]; exact HR.out⟩
          case measure => simp [intOf]; omega
        · have HE2 : Hid (hlQ h d part (n + 1) = hlQ h d part n) := by have := HE.out; show _ = _; simpa [he] using this
          clear HE
          go_wp2_with fail
          refine hp.mono ?_
          rintro e w3 ⟨rfl, e3⟩
          subst e3
          go_wp2_with fail
          go_roundw
          case rel => exact ⟨n + 1, by omega, by go_num, hbel, va, vc, by rw [HE2.out], by rw [HE2.out]; exact hrow.out⟩
          case measure => simp [intOf]; omega
      · simp only [Bool.not_true] at y2
        have HE2 : Hid (hlQ h d part (n + 1) = hlQ h d part n) := by have := HE.out; show _ = _; simpa using this
        clear HE
        go_wp2_with fail
        refine hp.mono ?_
        rintro e w3 ⟨rfl, e3⟩
        subst e3
        go_wp2_with fail
        go_roundw
        case rel => exact ⟨n + 1, by omega, by go_num, hbel, va, vc, by rw [HE2.out], by rw [HE2.out]; exact hrow.out⟩
        case measure => simp [intOf]; omega
    · obtain rfl : n = h.N := by omega
      go_wp2_with fail
      go_ret
      exact ⟨_, rfl, hrow.out, hbel⟩

set_option maxHeartbeats 2000000 in
theorem sameSlots_q (va vb : Option Addr) (ca cb : Nat) (l : List (Nat × Int)) (w : World) (hl : l.length ≤ 100000)
    (ha : ∀ j (hj : j < l.length), ∃ b, va = some ⟨b, 0, none⟩ ∧ w.cell? ⟨b, j * 2, none⟩ = some (.int .i64 (l[j].1 : Int)) ∧ w.cell? ⟨b, j * 2 + 1, none⟩ = some (.int .u64 l[j].2))
    (hb : ∀ j (hj : j < l.length), ∃ b, vb = some ⟨b, 0, none⟩ ∧ w.cell? ⟨b, j * 2, none⟩ = some (.int .i64 (l[j].1 : Int)) ∧ w.cell? ⟨b, j * 2 + 1, none⟩ = some (.int .u64 l[j].2)) :
    Calls Try.prog 21 #[.slice va l.length ca, .slice vb l.length cb] w fun e w' => e = .returned (.bool true) ∧ Below w.heap.size w w' := by
  have HA : Hid (∀ j (hj : j < l.length), ∃ b, va = some ⟨b, 0, none⟩ ∧ w.cell? ⟨b, j * 2, none⟩ = some (.int .i64 (l[j].1 : Int)) ∧ w.cell? ⟨b, j * 2 + 1, none⟩ = some (.int .u64 l[j].2)) := ha
  have HB : Hid (∀ j (hj : j < l.length), ∃ b, vb = some ⟨b, 0, none⟩ ∧ w.cell? ⟨b, j * 2, none⟩ = some (.int .i64 (l[j].1 : Int)) ∧ w.cell? ⟨b, j * 2 + 1, none⟩ = some (.int .u64 l[j].2)) := hb
  clear ha hb
  go_enter Try.func21, Try.ntmps21
  go_wp2_with fail
  go_loopw [5] (fun vi wr => ∃ j : Nat, j ≤ l.length ∧ vi = .int .i64 j ∧ Below w.heap.size w wr) (fun vi _ => l.length - (intOf vi).toNat)
  case atStart => exact ⟨0, by omega, rfl, Below.refl _ _⟩
  case round =>
    obtain ⟨j, hj, rfl, hbel⟩ := hrel
    by_cases hlt : j < l.length
    · obtain ⟨b1, rfl, r0, r1⟩ := HA.out j hlt
      obtain ⟨b2, rfl, t0, t1⟩ := HB.out j hlt
      have s0 := (hbel.cell (p := ⟨b1, j * 2, none⟩) (cell_lt r0)).trans r0
      have s1 := (hbel.cell (p := ⟨b1, j * 2 + 1, none⟩) (cell_lt r0)).trans r1
      have u0 := (hbel.cell (p := ⟨b2, j * 2, none⟩) (cell_lt t0)).trans t0
      have u1 := (hbel.cell (p := ⟨b2, j * 2 + 1, none⟩) (cell_lt t0)).trans t1
      clear r0 r1 t0 t1
      generalize (l[j].1 : Int) = yn at *
      generalize l[j].2 = yg at *
      go_wp2_with fail
      go_quiet (fail)
      go_wp2_with fail
      go_roundw
      case rel => exact ⟨j + 1, by omega, by go_num, below_drewN hbel nq⟩
      case measure => simp [intOf]; omega
    · obtain rfl : j = l.length := by omega
      go_wp2_with fail
      go_ret
      exact ⟨rfl, hbel⟩
end Go.Proofs.Ytobpignlamekmaa
