/- PROVED: for all rows a the statement BitsOwn returns true: what is handed to bits.Closure and bits.Turn is neither changed nor kept, and what they answer is new memory (rule 4). No condition. -/
import Derived.Test.YtlfmkgfhopbegabRows
import Derived.Test.YtlfmkgfhopbegabUn
import Derived.Test.YtlfmkgfhopbegabRow
import Derived.Laws.AppendOwnNone
import Derived.ProofKit
import Derived.ShutString
import Derived.ChangeOld
namespace Go.Proofs.Ytlfmkgfhopbegab.bitsOwn
open Go.ChangeShapes Go.WideShapes Go.ChangeAt Go.RowKit

theorem own : ownKnob Try.prog.godebug = none := by kernel_rfl
theorem laidOut : laidOutB Try.prog = true := by kernel_rfl

def IsRow (k : IntKind) (w : World) (a : Option Addr) (len cap : Nat) (z : Nat → Int) : Prop := Ytlfmkgfhopbegab.IsRow k w a len cap z ∧ (a = none → cap = 0)
theorem isRow_nil (k : IntKind) (w : World) : IsRow k w none 0 0 (fun _ => 0) := ⟨Ytlfmkgfhopbegab.isRow_nil k w, fun _ => rfl⟩
theorem isRow_some {k : IntKind} {w : World} {x : Addr} {l c : Nat} {zs : List Int} (hl : l ≤ c) (hm : c ≤ maxLen) (hz : zs.length = c)
    (hcell : ∀ i, i < zs.length → w.cell? (x.add i) = some (.int k (zs.getD i 0))) (hwz : ∀ n ∈ zs, (Lit.int k n).wf = true) : IsRow k w (some x) l c (fun j => zs.getD j 0) :=
  ⟨Ytlfmkgfhopbegab.isRow_some hl hm hz hcell hwz, fun e => (by cases e)⟩

/-- the slice v of n numbers lies in memory of its own, at or beyond base -/
def Owns (W : World) (base : Nat) (a : Option Addr) (n cap : Nat) : Prop := ∃ xs, W.ownsRow base 31 1 (.slice a n cap) n xs
theorem Owns.at {W : World} {base : Nat} {a : Option Addr} {n cap : Nat} (h : Owns W base a n cap) {k : Nat} (hk : k < n) :
    ∃ g u, a = some ⟨g, 0, none⟩ ∧ base ≤ g ∧ W.cell? ⟨g, k, none⟩ = some u ∧ W.frozen? ⟨g, k, none⟩ = false ∧ ∀ v, Owns (W.setCell ⟨g, k, none⟩ v) base a n cap := by
  obtain ⟨xs, h⟩ := h
  have hlen := h.1
  rcases h.2 with ⟨e, _⟩ | ⟨g, c, cur, e, hg, _⟩
  · cases e; omega
  · cases e
    have hx : xs[k]? = some xs[k] := List.getElem?_eq_getElem (by omega)
    exact ⟨g, xs[k]'(by omega), rfl, hg, by rw [h.cellAt k (by omega)]; exact hx, h.frozenAt k, fun v => ⟨_, (h.stored k v).1⟩⟩
theorem Owns.set_below {W : World} {base : Nat} {a : Option Addr} {n cap : Nat} (h : Owns W base a n cap) {g k : Nat} (hg : g < base) (v : Value) : Owns (W.setCell ⟨g, k, none⟩ v) base a n cap :=
  ⟨_, ownsRow_setCell_below h.choose_spec (a := ⟨g, k, none⟩) hg v⟩

theorem Owns.lt {W : World} {base : Nat} {a : Option Addr} {n cap : Nat} (h : Owns W base a n cap) : ∀ g o p, a = some ⟨g, o, p⟩ → g < W.heap.size := by
  obtain ⟨xs, h⟩ := h
  intro g o p e
  rcases h.2 with ⟨e', _⟩ | ⟨g', c, cur, e', _, hg, _⟩
  · cases e'; cases e
  · cases e'; cases e; exact (Array.getElem?_eq_some_iff.1 hg).1
theorem Owns.below {W W' : World} {base : Nat} {a : Option Addr} {n cap : Nat} (h : Owns W base a n cap) (hb : Below W.heap.size W W') : Owns W' base a n cap := by
  obtain ⟨xs, h⟩ := h
  refine ⟨xs, h.1, ?_⟩
  rcases h.2 with h' | ⟨g', c, cur, e, h1, hg, h2⟩
  · exact .inl h'
  · exact .inr ⟨g', c, cur, e, h1, (hb.block g' (Array.getElem?_eq_some_iff.1 hg).1).trans hg, h2⟩

set_option maxRecDepth 100000 in
set_option maxHeartbeats 8000000 in
theorem walk_from (a : Option Addr) (la ca n : Nat) (z : Nat → Int) (w : World) (hn66 : n ≤ 66) (hnone : a = none → n = 0 ∧ ca = 0)
    (hfa : ∀ w, Calls Try.prog 5 #[.slice a la ca] w fun e w' => e = .returned (.slice a n ca) ∧ w' = w)
    (hz : ∀ j, j < n → 0 ≤ z j ∧ z j < 18446744073709551616) (ha : Cells w .u64 a n z) :
    Calls Try.prog 4 #[.slice a la ca] w fun e w' => e = .returned (.bool true) ∧ Below w.heap.size w w' := by
  obtain ⟨i0, hi, hz0, hz1, hz2⟩ := info_parts Try.info23
  have HA : Hid (Cells w .u64 a n z) := ha
  have HF : Hid (∀ w, Calls Try.prog 5 #[.slice a la ca] w fun e w' => e = .returned (.slice a n ca) ∧ w' = w) := hfa
  have HRa : Hid (∀ w', Cells w' .u64 a n z → Calls Try.prog 8 #[.slice a n ca] w' fun e w'' => e = .returned (.int .i64 (chkI n z)) ∧ Below w'.heap.size w' w'') := fun w' h => rcheck_any a n ca z w' (by omega) h hz
  have HZ : Hid (∀ j, j < n → 0 ≤ z j ∧ z j < 18446744073709551616) := hz
  clear ha hfa hz
  cases a with
  | none =>
    obtain ⟨rfl, rfl⟩ := hnone rfl
    go_enter Try.func4, Try.ntmps4
    go_wp2_with fail
    refine (HF.out _).mono ?_
    rintro e w1 ⟨rfl, e1⟩
    subst e1
    go_wp2_with (at_builtin; go_must (refine wpList_append_own_none rfl _ _ 22 rfl w1.heap.size 31 i0 1 Try.underlying22 hi _ _ _ rfl (World.ownsRow_made w1 #[] 0 (Nat.le_refl _) (Nat.zero_le _) rfl) rfl ?_))
    have hc0 : Cells (w1.alloc (.cells #[] 31)) .u64 (some ⟨w1.heap.size, 0, none⟩) 0 z := fun j hj => absurd hj (by omega)
    have hb2 : Below w1.heap.size w1 (w1.alloc (.cells #[] 31)) := (Below.refl _ w1).alloc (Nat.le_refl _) _
    go_wp2_with fail
    have HC : Hid (Cells (w1.alloc (.cells #[] 31)) .u64 (some ⟨w1.heap.size, 0, none⟩) 0 z) := hc0
    clear hc0
    generalize hw2 : w1.alloc (.cells #[] 31) = w2 at *
    clear hw2
    have hk : chkI 0 z = 0 := by simp [chkI, chkB]
    have hcl := closure_ok (some ⟨w1.heap.size, 0, none⟩) 0 0 z w2 HC.out HZ.out hk
    have htu := fun w' h => turn_ok (some ⟨w1.heap.size, 0, none⟩) 0 0 z w' h HZ.out hk
    have hck := fun w' h => check_any (some ⟨w1.heap.size, 0, none⟩) 0 0 z w' (by omega) h HZ.out
    rw [hk] at HRa hck
    clear hk
    refine hcl.mono ?_
    rintro e w3 ⟨v3, rfl, hown3, h3⟩
    obtain ⟨ax, cx, rfl, _, _⟩ := cells_of_own hown3 (encU_at 0 _)
    clear hown3 hcl
    go_wp2_with fail
    refine (htu _ (HC.out.below h3)).mono ?_
    rintro e w4 ⟨v4, rfl, hown4, h4⟩
    obtain ⟨ay, cy, rfl, _, _⟩ := cells_of_own hown4 (encU_at 0 _)
    have hb4 : Below w2.heap.size w2 w4 := Below.onto h3 h4
    have hbw : Below w1.heap.size w1 w4 := Below.onto hb2 hb4
    clear hown4 htu h3 h4
    go_wp2_with fail
    go_loop [8] (fun i => i = .int .i64 0) (fun _ => 0)
    case atStart => exact rfl
    case round =>
      obtain rfl := hrel
      go_wp2
      go_loop [9] (fun i => i = .int .i64 0) (fun _ => 0)
      case atStart => exact rfl
      case round =>
        obtain rfl := hrel
        go_wp2_with fail
        refine (rsame_true none (some ⟨w1.heap.size, 0, none⟩) 0 0 0 z z _ (by omega) (HA.out.below hbw) (HC.out.below hb4) (fun _ _ => rfl)).mono ?_
        rintro e w5 ⟨rfl, h5⟩
        have hb5 := Below.onto hbw h5
        go_wp2_with fail
        refine (hck _ ((HC.out.below hb4).below h5)).mono ?_
        rintro e w6 ⟨rfl, e6⟩
        subst e6
        go_wp2_with fail
        refine (HRa.out _ (HA.out.below hb5)).mono ?_
        rintro e w7 ⟨rfl, h7⟩
        have hb7 := Below.onto hb5 h7
        go_wp2_with fail
        refine (alive_any _).mono ?_
        rintro e w8 ⟨rfl, h8⟩
        go_wp2_with fail
        go_ret
        exact ⟨rfl, Below.onto hb7 h8⟩
  | some ad =>
    clear hnone
    go_enter Try.func4, Try.ntmps4
    go_wp2_with fail
    refine (HF.out _).mono ?_
    rintro e w1 ⟨rfl, e1⟩
    subst e1
    go_wp2_with (at_builtin; go_must (refine wpList_append_own _ rfl _ _ 22 rfl w1.heap.size 31 i0 (.int .u64 0) 1 8 Try.underlying22 hi hz0 hz1 hz2 rfl (by decide) _ _ _ rfl (World.ownsRow_made w1 #[] 0 (Nat.le_refl _) (Nat.zero_le _) rfl) ad n ca (encU n z) rfl ?qc1 ?qc2 ?qc3 ?qc4 ?qc5 ?qc6 ?_))
    case qc1 => simp [encU]
    case qc2 =>
      intro j u hj
      have hjn : j < n := by
        have := (List.getElem?_eq_some_iff.1 hj).1
        simpa [encU] using this
      obtain ⟨b, off, e, hcell⟩ := HA.out j hjn
      cases e
      rw [encU_at n z j hjn] at hj
      rw [Addr.add_lit]
      refine Lib.cell?_alloc_some _ ?_
      rw [hcell]; exact hj
    case qc3 => intro u hu; obtain ⟨x, _, rfl⟩ := List.mem_map.1 hu; rfl
    case qc4 => unfold maxLen; omega
    case qc5 => omega
    case qc6 => simp
    intro v w2 hown hgrow _
    have hown2 : w2.ownsRow w1.heap.size 31 1 v n (encU n z) := by simpa using hown
    obtain ⟨ab, cb, rfl, hc, _⟩ := cells_of_own hown2 (encU_at n z)
    clear hown2
    have HC : Hid (Cells w2 .u64 ab n z) := hc
    have hb2 : Below w1.heap.size w1 w2 := ((Below.refl _ w1).alloc (Nat.le_refl _) _).grown hgrow (by simp) (by intro k hk; simp [Value.ownBlock] at hk; omega)
    clear hown hgrow hc
    go_wp2_with fail
    by_cases hk : chkI n z = 0
    · have hcl := closure_ok ab n cb z w2 HC.out HZ.out hk
      have htu := fun w' h => turn_ok ab n cb z w' h HZ.out hk
      have hck := fun w' h => check_any ab n cb z w' (by omega) h HZ.out
      rw [hk] at HRa hck
      clear hk
      go_wp2_with fail
      refine hcl.mono ?_
      rintro e w3 ⟨v3, rfl, hown3, h3⟩
      obtain ⟨ax, cx, rfl, _, _⟩ := cells_of_own hown3 (encU_at n _)
      have HX : Hid (Owns w3 w2.heap.size ax n cx) := ⟨_, hown3⟩
      have HXL : Hid (∀ g o p, ax = some ⟨g, o, p⟩ → g < w3.heap.size) := HX.out.lt
      clear hown3 hcl
      go_wp2_with fail
      refine (htu _ (HC.out.below h3)).mono ?_
      rintro e w4 ⟨v4, rfl, hown4, h4⟩
      obtain ⟨ay, cy, rfl, _, _⟩ := cells_of_own hown4 (encU_at n _)
      have HY : Hid (Owns w4 w3.heap.size ay n cy) := ⟨_, hown4⟩
      have HX4 : Hid (Owns w4 w2.heap.size ax n cx) := HX.out.below h4
      have hb4 : Below w2.heap.size w2 w4 := Below.onto h3 h4
      have hs3 := h3.size
      clear hown4 htu HX h3 h4
      go_wp2_with fail
      go_loopw [8] (fun i wr => ∃ k : Nat, k ≤ n ∧ i = .int .i64 k ∧ Hid (Owns wr w2.heap.size ax n cx) ∧ Hid (Owns wr w3.heap.size ay n cy) ∧ Below w2.heap.size w2 wr) (fun i _ => n - (intOf i).toNat)
      case atStart => exact ⟨0, Nat.zero_le _, rfl, HX4.out, HY.out, hb4⟩
      case round =>
        clear hb4 HX4 HY
        obtain ⟨k, hk, rfl, hx, hy, hbel⟩ := hrel
        by_cases hlt : k < n
        · obtain ⟨g, u, rfl, hg, hcell, hfr, hset⟩ := hx.out.at hlt
          have hg3 := HXL.out g 0 none rfl
          have HS : Hid (∀ v, Owns (wr.setCell ⟨g, k, none⟩ v) w2.heap.size (some ⟨g, 0, none⟩) n cx) := hset
          clear hset
          go_wp2
          go_roundw
          case rel => exact ⟨k + 1, by omega, by go_num, HS.out _, hy.out.set_below hg3 _, hbel.setCell (p := ⟨g, k, none⟩) hg _⟩
          case measure => simp [intOf]; omega
        · obtain rfl : k = n := by omega
          go_wp2
          go_loopw [9] (fun i wr => ∃ q : Nat, q ≤ k ∧ i = .int .i64 q ∧ Hid (Owns wr w3.heap.size ay k cy) ∧ Below w2.heap.size w2 wr) (fun i _ => k - (intOf i).toNat)
          case atStart => exact ⟨0, Nat.zero_le _, rfl, hy, hbel⟩
          case round =>
            clear hx hy hbel
            obtain ⟨q, hq, rfl, hy, hbel⟩ := hrel
            by_cases hlq : q < k
            · obtain ⟨g, u, rfl, hg, hcell, hfr, hset⟩ := hy.out.at hlq
              have HS : Hid (∀ v, Owns (wr.setCell ⟨g, q, none⟩ v) w3.heap.size (some ⟨g, 0, none⟩) k cy) := hset
              clear hset
              go_wp2
              go_roundw
              case rel => exact ⟨q + 1, by omega, by go_num, HS.out _, hbel.setCell (p := ⟨g, q, none⟩) (Nat.le_trans hs3 hg) _⟩
              case measure => simp [intOf]; omega
            · obtain rfl : q = k := by omega
              have hbw : Below w1.heap.size w1 wr := Below.onto hb2 hbel
              have HCb : Hid (Cells wr .u64 ab q z) := HC.out.below hbel
              have HCa : Hid (Cells wr .u64 (some ad) q z) := HA.out.below hbw
              go_wp2_with fail
              refine (rsame_true (some ad) ab q ca cb _ _ _ (by omega) HCa.out HCb.out (fun _ _ => rfl)).mono ?_
              rintro e w5 ⟨rfl, h5⟩
              have hb5 := Below.onto hbw h5
              go_wp2_with fail
              refine (hck _ (HCb.out.below h5)).mono ?_
              rintro e w6 ⟨rfl, e6⟩
              subst e6
              go_wp2_with fail
              refine (HRa.out _ (HA.out.below hb5)).mono ?_
              rintro e w7 ⟨rfl, h7⟩
              have hb7 := Below.onto hb5 h7
              go_wp2_with fail
              refine (alive_any _).mono ?_
              rintro e w8 ⟨rfl, h8⟩
              go_wp2_with fail
              go_ret
              exact ⟨rfl, Below.onto hb7 h8⟩
    · have hcl := closure_bad ab n cb z w2 (by omega) HC.out HZ.out hk
      have htu := fun w' h => turn_bad ab n cb z w' (by omega) h HZ.out hk
      have hck := fun w' h => check_any ab n cb z w' (by omega) h HZ.out
      generalize chkI n z = c at *
      clear hk
      go_wp2_with fail
      refine hcl.mono ?_
      rintro e w3 ⟨rfl, e3⟩
      subst e3
      go_wp2_with fail
      refine (htu _ HC.out).mono ?_
      rintro e w4 ⟨rfl, e4⟩
      subst e4
      clear hcl htu
      go_wp2_with fail
      go_loop [8] (fun i => i = .int .i64 0) (fun _ => 0)
      case atStart => exact rfl
      case round =>
        obtain rfl := hrel
        go_wp2
        go_loop [9] (fun i => i = .int .i64 0) (fun _ => 0)
        case atStart => exact rfl
        case round =>
          obtain rfl := hrel
          go_wp2_with fail
          refine (rsame_true (some ad) ab n ca cb _ _ _ (by omega) (HA.out.below hb2) HC.out (fun _ _ => rfl)).mono ?_
          rintro e w5 ⟨rfl, h5⟩
          have hb5 := Below.onto hb2 h5
          go_wp2_with fail
          refine (hck _ (HC.out.below h5)).mono ?_
          rintro e w6 ⟨rfl, e6⟩
          subst e6
          go_wp2_with fail
          refine (HRa.out _ (HA.out.below hb5)).mono ?_
          rintro e w7 ⟨rfl, h7⟩
          have hb7 := Below.onto hb5 h7
          go_wp2_with fail
          refine (alive_any _).mono ?_
          rintro e w8 ⟨rfl, h8⟩
          go_wp2_with fail
          go_ret
          exact ⟨rfl, Below.onto hb7 h8⟩

theorem walk (a : Option Addr) (la ca : Nat) (z : Nat → Int) (w : World) (ra : IsRow .u64 w a la ca z) :
    Calls Try.prog 4 #[.slice a la ca] w fun e w' => e = .returned (.bool true) ∧ Below w.heap.size w w' := by
  obtain ⟨ra, hcap⟩ := ra
  obtain ⟨n, hn⟩ : ∃ n, n = min la 66 := ⟨_, rfl⟩
  have hfa := fun w => few_any a la ca w ra.2.2.1 ra.2.1
  rw [← hn] at hfa
  exact walk_from a la ca n z w (by omega) (fun e => ⟨by have := ra.2.1 e; omega, hcap e⟩) hfa (fun j hj => ra.u64 j (by omega)) (ra.1.mono (by omega))

set_option maxRecDepth 100000 in
theorem lifted (os : Os) (started : os.Started) (H : Type) (enc : TypeId × Value → H) :
    ReturnsInHanded {} Try.checked os 4 .any (Rows.bitsOwnSpec.pre6 enc Try.prog Try.f4 Rows.bitsOwnRow.domain false) (Rows.bitsOwnSpec.post enc Try.prog Try.f4 false true false false) := by
  refine returnsInHanded_of_change (C := Try.checked) own started (by kernel_rfl) Try.func4
    (ChangeSpec.witness6 (enc := enc) (C := Try.checked) false ⟨#[], #[.slice none 0 0], []⟩ 8 (by kernel_rfl) (by kernel_rfl) (by kernel_rfl) (by kernel_rfl)) ?_
  intro W base args ds gs before hval0 hW hcnd _
  have hval : ∀ (j : Nat) t v, Try.f4.params[j]? = some t → args[j]? = some v → Value.okWide Try.prog W .any base t v := hval0
  have hW' := hW
  obtain ⟨p, q, hA0, hV, rfl, hfz, hnd⟩ := hW
  have hA : DataW.TrodAll enc Try.prog W 0 (fun _ => true) true Try.f4.params.toList args.toList ds p := hA0
  rw [Try.params4] at hA hval
  obtain ⟨v0, vs0, d0, ds0, p0, q0, hargs, rfl, rfl, h0, r0⟩ := trodAll_cons hA
  obtain ⟨rfl, rfl, rfl⟩ := trodAll_nil r0
  obtain rfl : args = #[v0] := by cases args; simp_all
  obtain ⟨rfl, rfl⟩ := trodVars_none hV
  obtain ⟨a0, len0, cap0, rfl⟩ := okWide_slice Try.underlying22 (hval 0 22 v0 rfl rfl)
  have k0 := h0
  have lt0 : ∀ x ∈ p0, x.block < W.heap.size := by obtain ⟨m, hm⟩ := k0; exact DataW.trod_lt m _ _ _ hm
  obtain ⟨z0, w0⟩ : ∃ z, IsRow .u64 W a0 len0 cap0 z := by
    obtain ⟨fuel, hf⟩ := h0
    rcases open_ints Try.underlying22 Try.underlying31 (by kernel_rfl) hf with ⟨hcs, _⟩ | ⟨x, l, c, zs, hcs, _, hl, hm, hz, _, hcell, hwz⟩
    · simp [Value.cells] at hcs
      obtain ⟨rfl, rfl, rfl⟩ := hcs
      exact ⟨_, isRow_nil _ _⟩
    · simp [Value.cells] at hcs
      obtain ⟨rfl, rfl, rfl⟩ := hcs
      exact ⟨_, isRow_some hl hm (by simpa using hz) hcell hwz⟩
  clear hA0 hval0
  refine (walk a0 len0 cap0 z0 W w0).mono fun e W' ⟨he, bel⟩ => ?_
  subst he
  exact ⟨_, rfl, _, _, _, [], _, [], hW', trodAll_mk1 (shut_bool Try.underlying4 _), (trodAll_cons_mk (Below.trod laidOut (by kernel_rfl) (of_decide_eq_true (by kernel_rfl)) k0 bel lt0) trodAll_mk0), rfl, bel.frame _, fun h => by cases h⟩

end Go.Proofs.Ytlfmkgfhopbegab.bitsOwn
namespace Go.Proofs.Ytlfmkgfhopbegab

/-- The statement BitsOwn. -/
theorem BitsOwnHolds : Rows.BitsOwnSaid :=
  OpenClaim.holds_of_wide 4 Try.f4 rfl rfl rfl rfl rfl rfl rfl ⟨rfl, rfl, rfl, rfl, rfl⟩ rfl rfl rfl rfl rfl (by kernel_rfl) Try.func4 (by kernel_rfl)
    (of_decide_eq_true (by kernel_rfl)) (by unfold Func.isWrapper; first | (rw [if_pos (by decide +kernel)]; kernel_rfl) | (rw [if_neg (by decide +kernel)]; exact ⟨rfl, rfl⟩))
    (fun os started H enc _ => bitsOwn.lifted os started H enc)

end Go.Proofs.Ytlfmkgfhopbegab
