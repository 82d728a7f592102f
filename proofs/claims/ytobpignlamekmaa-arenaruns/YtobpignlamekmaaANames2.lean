/- The names of a partition's held slots. -/
import Derived.Test.YtobpignlamekmaaANames
import Derived.Test.YtobpignlamekmaaARound
namespace Go.Proofs.Ytobpignlamekmaa
open Go.RowKit Go.Shelf Go.Sort
attribute [local go_sem] Oper.semAt_some
set_option maxRecDepth 100000

def encP : List (Nat × Int) → List Value
  | [] => []
  | x :: l => .int .i64 (x.1 : Int) :: .int .u64 x.2 :: encP l
theorem encP_len (l : List (Nat × Int)) : (encP l).length = l.length * 2 := by
  induction l with
  | nil => rfl
  | cons x l ih => simp [encP, ih]; omega
theorem encP_app (l m : List (Nat × Int)) : encP (l ++ m) = encP l ++ encP m := by
  induction l with
  | nil => rfl
  | cons x l ih => simp [encP, ih]
theorem encP_snoc (l : List (Nat × Int)) (x : Nat × Int) : encP (l ++ [x]) = encP l ++ [.int .i64 (x.1 : Int), .int .u64 x.2] := encP_app l [x]

/-- the names of those that are held -/
def hlOf (h : Sh) (d : Da) (l : List Nat) : List (Nat × Int) := (l.filter fun n => !d.fr h n).map fun n => (n, d.gen n)
theorem hlOf_snoc (h : Sh) (d : Da) (l : List Nat) (n : Nat) : hlOf h d (l ++ [n]) = if d.fr h n then hlOf h d l else hlOf h d l ++ [(n, d.gen n)] := by
  unfold hlOf
  rw [List.filter_append]
  cases hf : d.fr h n <;> simp [hf]
theorem hlOf_len (h : Sh) (d : Da) (l : List Nat) : (hlOf h d l).length ≤ l.length := by
  unfold hlOf; rw [List.length_map]; exact List.length_filter_le _ _
def natS {N : Nat} (r : List (Sn N)) : List Nat := r.map (·.1)
theorem natS_len {N : Nat} (r : List (Sn N)) : (natS r).length = r.length := by simp [natS]
/-- the held slots of a partition -/
def heldL (h : Sh) (d : Da) (part : Int) : List (Nat × Int) := if inR h.P part then hlOf h d ((List.range (h.sz part.toNat)).map (h.fs part.toNat + ·)) else []
theorem nums_nat {N f Z : Nat} {hN : f + Z ≤ N} {i : Nat} (hi : i ≤ Z) : natS (numsTo N f Z hN i) = (List.range i).map (f + ·) := by
  induction i with
  | zero => rfl
  | succ i ih =>
    rw [numsTo_succ (by omega), List.range_succ, List.map_append, ← ih (by omega)]
    simp [natS]

theorem akeeps_below {W W' : World} (h : Below W.heap.size W W') : KeepsOthers W W' :=
  ⟨h.size, fun k _ hk _ => (h.block k (Array.getElem?_eq_some_iff.1 hk).1).trans hk⟩
theorem aown_below {W W' : World} {base e size : Nat} {v : Value} {n : Nat} {xs : List Value} (h : W.ownsRow base e size v n xs) (hb : Below W.heap.size W W') : W'.ownsRow base e size v n xs := by
  refine ⟨h.1, ?_⟩
  rcases h.2 with hn | ⟨g, cap, cur, e, hb', hg, rest⟩
  · exact .inl hn
  · exact .inr ⟨g, cap, cur, e, hb', (hb.block g (Array.getElem?_eq_some_iff.1 hg).1).trans hg, rest⟩
theorem aboxed_below {W W' : World} {B : Nat} {t : TypeId} {v : Value} (h : Boxed W B t v) (hb : Below W.heap.size W W') : Boxed W' B t v := (hb.block B h.lt).trans h

set_option maxHeartbeats 8000000 in
theorem names_a (o : Po) (h : Sh) (d : Da) (k : Nat) (w : World) (a : Ax w o h d) (hk : k < h.P) :
    Calls Try.prog 55 #[o.ptr, .int .i64 (k : Int)] w fun e w' => ∃ v, e = .returned v ∧ w'.ownsRow w.heap.size 36 2 v (heldL h d k).length (encP (heldL h d k)) ∧ Below w.heap.size w w' := by
  have hslot : (Try.prog.info? 36).map (fun i => (i.zero, i.size, i.bytes)) = some (some (.agg #[.int .i64 0, .int .u64 0]), 2, 16) := by kernel_rfl
  obtain ⟨i0, hi, hz0, hz1, hz2⟩ := info_parts hslot
  have hin : inR h.P (k : Int) = true := inR_iff.2 (by omega)
  have hN : h.fs k + h.sz k ≤ h.N := a.sh.e4 k hk
  have hs := a.sh.s256 k hk
  have hn4 := a.sh.n4
  have HK : Hid (Ax w o h d) := a
  have hkn := fun W (hW : Below w.heap.size w W) => known_a o h d k W (a.below hW)
  have hP := a.sh.p16
  rw [show knE h (k : Int) = 0 by simp [knE, hin]] at hkn
  refine (callsIn_wide (n := 6)).1 ?_
  refine callsIn_of_wp_marks Try.func55 rfl trivial ?_ rfl
  simp only [Try.ntmps55, List.size_toArray, List.length_cons, List.length_nil, Nat.reduceAdd, Nat.reduceSub, Array.replicate_succ, Array.replicate_zero, List.push_toArray, List.append_toArray, List.nil_append, List.cons_append]
  have hb1 : Below w.heap.size w ((w.alloc (.cells #[o.ptr] 26)).alloc (.cells #[.slice none 0 0] 45)) := ((Below.refl _ w).alloc (Nat.le_refl _) _).alloc (by simp) _
  have bA := Boxed.new w 26 o.ptr
  have bL := Boxed.new (w.alloc (.cells #[o.ptr] 26)) 45 (.slice none 0 0)
  rw [World.size_alloc] at bL
  have bA := bA.alloc (.cells #[.slice none 0 0] 45)
  have hc := hkn _ hb1
  have p0 := (HK.out.below hb1).c0
  have cA := bA.cell
  clear a hkn
  generalize hW : (w.alloc (.cells #[o.ptr] 26)).alloc (.cells #[.slice none 0 0] 45) = W1 at *
  gi_wp2_with (first
    | (refine ⟨trivial, ?_⟩; gi_at_call 36; refine (callsIn_wide.2 hc).mono ?_; rintro e w' ⟨rfl, rfl⟩)
    | (refine ⟨trivial, ?_⟩; gi_at_call 64; refine (callsIn_wide.2 (numbers_any _ _)).mono ?_; rintro e w2 ⟨rfl, rfl⟩))
  have hbx : Below w'.heap.size w' (w'.alloc (.cells #[.pointer (some ⟨o.bp, k * 258, none⟩)] 89)) := (Below.refl _ w').alloc (Nat.le_refl _) _
  have bP := Boxed.new w' 89 (.pointer (some ⟨o.bp, k * 258, none⟩))
  have HX : Hid (Ax (w'.alloc (.cells #[.pointer (some ⟨o.bp, k * 258, none⟩)] 89)) o h d) := (HK.out.below hb1).below hbx
  have HNm : Hid (NmOk w'.heap.size o.bp k (h.fs k) (h.sz k) (w'.alloc (.cells #[.pointer (some ⟨o.bp, k * 258, none⟩)] 89))) := ⟨bP, HX.out.f0 k hk, HX.out.f1 k hk⟩
  have bA2 := bA.alloc (.cells #[.pointer (some ⟨o.bp, k * 258, none⟩)] 89)
  have bL2 := bL.alloc (.cells #[.pointer (some ⟨o.bp, k * 258, none⟩)] 89)
  have hB0 := Below.onto hb1 hbx
  have HSZ : Hid (w'.heap.size = w.heap.size + 2) := by show _ = _; rw [← hW]; simp
  have hgt : w.heap.size + 1 < w'.heap.size := by have := HSZ.out; omega
  have hlbp := HK.out.lt o.bp (.inr (.inl rfl))
  refine wpIn_rangeFunc_ownG rfl (by omega) (gf := 65) (lb := #[.pointer (some ⟨w'.heap.size, 0, none⟩)]) rfl trivial (enters_of Try.func65 (by kernel_rfl) rfl)
    (numbers_stops 5 (by omega) w'.heap.size o.bp k (h.fs k) (h.sz k) h.N hN (by omega) _ HNm.out) keepsNm_t (fun W l x x' _ hl hc _ => keepsNm_b W l x x' hl hc) (Below.refl _ _) (fun _ => rfl)
    (fun (pre : List (Sn h.N)) W => ((∃ v, Boxed W (w.heap.size + 1) 45 v ∧ W.ownsRow w.heap.size 36 2 v (hlOf h d (natS pre)).length (encP (hlOf h d (natS pre))) ∧ True) ∧ Boxed W w.heap.size 26 o.ptr) ∧ Below w.heap.size w W)
    (fun _ _ _ => False)
    (OwnFrom.and (OwnFrom.and (Own.from (holdsRow_own w.heap.size (w.heap.size + 1) 45 36 2 (fun pre : List (Sn h.N) => (hlOf h d (natS pre)).length) (fun pre => encP (hlOf h d (natS pre))) (fun _ _ => True)) _) (Own.from (boxed_own _ _ _) _)) (ownFrom_below (Nat.le_refl _) (by simp; omega)))
    (fun _ _ _ _ _ hs _ _ => hs)
    ⟨⟨⟨_, bL2, World.ownsRow_nil _ _ _ _, trivial⟩, bA2⟩, hB0⟩
    (fun x : Sn h.N => { tmps := #[o.ptr, .int .i64 (k : Int), .pointer (some ⟨w.heap.size, 0, none⟩), undef, .slice none 0 0, .pointer (some ⟨w.heap.size + 1, 0, none⟩), .int .i64 (x.1 : Int), o.ptr, .int .i64 (k : Int), .int .i64 0, .bool false, undef, o.ptr, .pointer (some ⟨o.p, 0, none⟩), .pointer (some ⟨o.p, 0, none⟩), .slice (some ⟨o.bp, 0, none⟩) h.P h.P, .int .i64 (k : Int), .pointer (some ⟨o.bp, k * 258, none⟩), .func (.func 65) #[] #[.pointer (some ⟨w'.heap.size, 0, none⟩)], .int .i64 (x.1 : Int), undef, undef, undef, undef, undef, undef, undef, undef, undef, undef], defers := [] }) ?assign ?body ?done ?stop
  case assign =>
    intro l x W K hK
    gi_wp2
    exact hK
  case body =>
    rintro l pre x W ⟨⟨⟨v, hv, hrow, _⟩, bA3⟩, hB⟩ hlt
    have HAx : Hid (Ax W o h d) := HK.out.below hB
    have hheld := heldB_a o h d x.1 W HAx.out x.2
    have c1 := bA3.cell
    have hL : (hlOf h d (natS pre)).length ≤ 256 := by have := hlOf_len h d (natS pre); rw [natS_len] at this; omega
    have HS : Hid (hlOf h d (natS (pre ++ [x])) = if d.fr h x.1 then hlOf h d (natS pre) else hlOf h d (natS pre) ++ [(x.1, d.gen x.1)]) := by
      have : natS (pre ++ [x]) = natS pre ++ [x.1] := by simp [natS]
      show _ = _
      rw [this, hlOf_snoc]
    have hsB := hB.size
    cases hf : d.fr h x.1
    · rw [hf] at hheld
      have HS2 : Hid (hlOf h d (natS (pre ++ [x])) = hlOf h d (natS pre) ++ [(x.1, d.gen x.1)]) := by have := HS.out; rw [hf] at this; exact this
      clear hf HS
      gi_wp2_with (refine ⟨trivial, ?_⟩; gi_at_call 35; refine (CallsIn.inRound l (callsIn_wide.2 hheld)).mono ?_; rintro e W2 ⟨rfl, hb2⟩; have c2 := (aboxed_below bA3 hb2).cell; have c3 := (aboxed_below hv hb2).cell)
      have hname := name_a o h d x.1 W2.drew ((HAx.out.below hb2).below ((Below.refl _ _).drew)) x.2
      have HB2 : Hid (Below W.heap.size W W2.drew) := hb2.drew
      have hmix : Try.prog.follows .mixedOrders = true := by kernel_rfl
      obtain ⟨gx, hgx⟩ : ∃ g, g = d.gen x.1 := ⟨_, rfl⟩
      rw [← hgx] at hname
      have HG : Hid (gx = d.gen x.1) := hgx
      have HRow : Hid (World.ownsRow _ _ _ _ _ _ _) := hrow
      have HV : Hid (Boxed _ _ _ _) := hv
      have HA3 : Hid (Boxed _ _ _ _) := bA3
      obtain ⟨va, vl, vc, rfl⟩ : ∃ va vl vc, v = .slice va vl vc := by
        rcases hrow.2 with ⟨rfl, _⟩ | ⟨g, cap, cur, rfl, _⟩
        · exact ⟨_, _, _, rfl⟩
        · exact ⟨_, _, _, rfl⟩
      clear hgx hrow hv bA3 hheld c1 hb2
      have hname2 : CallsIn (Fence.wide.inRound l) (6 - 1 - 1 - 1) Try.prog 34 #[o.ptr, .int .i64 (x.1 : Int)] W2.drew fun e w' => e = .returned (.agg #[.int .i64 (x.1 : Int), .int .u64 gx]) ∧ Below W.heap.size W w' := (CallsIn.inRound l (callsIn_wide.2 hname)).mono fun e w' hh => ⟨hh.1, Below.onto HB2.out hh.2⟩
      clear hname c2 c3
      refine wpIn_region_any hmix ?_
      refine round_snoc (F := Fence.wide.inRound l) (n := 6 - 1 - 1) (P := Try.prog) (f := 34) (tl := 5) (ta := 2) (tn := 6) (d0 := 23) (d1 := 24) (d2 := 25) (d3 := 26) (d4 := 27) (d5 := 28) (vl := .slice va vl vc) (va := o.ptr) (vn := .int .i64 (x.1 : Int)) (vr := .agg #[.int .i64 (x.1 : Int), .int .u64 gx]) (pl := .pointer (some ⟨w.heap.size + 1, 0, none⟩)) (pa := .pointer (some ⟨w.heap.size, 0, none⟩)) (fun _ => trivial) rfl
        rfl rfl rfl rfl rfl rfl rfl rfl rfl rfl rfl rfl rfl rfl (fun _ h => by cases h) (fun _ h => by cases h) (fun _ h => by cases h) (fun _ h => by cases h) (fun _ h => by cases h) (fun _ h => by cases h) (fun _ h => by cases h)
        rfl rfl rfl rfl rfl rfl (by kernel_rfl) (by kernel_rfl) (by kernel_rfl) (by kernel_rfl) (by kernel_rfl) (by kernel_rfl) (by kernel_rfl) (by kernel_rfl) (by kernel_rfl) (by kernel_rfl) (by kernel_rfl) (by kernel_rfl) (by kernel_rfl) (by kernel_rfl)
        (by simp) (by decide) rfl rfl rfl
        (fun W3 => Below W.heap.size W W3) (fun W3 W' => W' = W3.alloc (.cells #[.int .i64 (x.1 : Int), .int .u64 gx] 36))
        (fun v' W3 W4 => W4.ownsRow w.heap.size 36 2 v' ((hlOf h d (natS pre)).length + 1) (encP (hlOf h d (natS pre)) ++ [.int .i64 (x.1 : Int), .int .u64 gx]) ∧ (W3.alloc (.cells #[.int .i64 (x.1 : Int), .int .u64 gx] 36)).grownBy W4 (Value.ownBlock (.slice va vl vc)))
        ?x0 ?x1 ?x2 ?x3 hname2 ?x4 ?x6
      case x0 =>
        intro b W' hb hW'
        have hcell : W'.cell? ⟨w.heap.size + 1, 0, none⟩ = some (.slice va vl vc) := by
          rcases hW' with rfl | hR | ⟨W3, hR, rfl⟩
          · exact (aboxed_below HV.out HB2.out).cell
          · exact (aboxed_below HV.out hR).cell
          · exact ((aboxed_below HV.out hR).alloc _).cell
        clear hW' hname2
        go_simp
      case x1 =>
        intro b hb
        have hcell := (aboxed_below HA3.out HB2.out).cell
        clear hname2
        go_simp
      case x2 =>
        intro b hb
        clear hname2
        go_simp
      case x3 =>
        intro b h1 h2
        clear hname2
        go_simp
      case x4 =>
        intro b W3 h3 hR
        refine ⟨.slice (some ⟨W3.heap.size, 0, none⟩) 1 1, W3.alloc (.cells #[.int .i64 (x.1 : Int), .int .u64 gx] 36), ?_, rfl, ?_⟩
        · clear hname2 hR
          go_simp
        · intro b h0 h4
          obtain ⟨v', W4, hrun, r1, r2, _⟩ := run_append_own (P := Try.prog) (W3.alloc (.cells #[.int .i64 (x.1 : Int), .int .u64 gx] 36)) w.heap.size 45 45 36 i0 (.agg #[.int .i64 0, .int .u64 0]) 2 16 Try.underlying45 hi hz0 hz1 hz2 rfl (by decide) (.slice va vl vc) _ _ ((aown_below HRow.out hR).alloc _) ⟨W3.heap.size, 0, none⟩ 1 1 [.int .i64 (x.1 : Int), .int .u64 gx] rfl (two_new _ _ _ _) (by simp [Value.oneCell']) (by unfold maxLen; omega) (by omega) (by have := hR.size; simp; omega)
          refine ⟨v', W4, ?_, r1, r2⟩
          simp [execOp, resolve, invoke, builtin, reval h0, reval h4, hrun, Result.andThen]
      case x6 =>
        rintro b v' W3 W4 h1 h5 hR ⟨r1, r2⟩
        obtain ⟨g', cap', rfl⟩ := ownsRow_succ r1
        obtain ⟨hv1, hv2, hr2, hk2, hb5⟩ := (aboxed_below HV.out hR).appended (by decide) (aown_below HRow.out hR) (Nat.le_trans hsB hR.size) (by omega) r1 r2
        have hc1 := hv1.cell
        have hf1 := hv1.frozen
        have HV2 : Hid (Boxed _ _ _ _) := hv2
        have HR2 : Hid (World.ownsRow _ _ _ _ _ _ _) := hr2
        have HK2 : Hid (KeepsOthers _ _) := hk2
        have HB5 : Hid (Below _ _ _) := hb5
        have HN : Hid (NmOk w'.heap.size o.bp k (h.fs k) (h.sz k) W → NmOk w'.heap.size o.bp k (h.fs k) (h.sz k) (W4.setCell ⟨w.heap.size + 1, 0, none⟩ (.slice (some ⟨g', 0, none⟩) ((hlOf h d (natS pre)).length + 1) cap'))) := fun hw => by
          have hw3 := hw.onto hR
          exact ⟨((hw3.1.alloc _).kept r2 (hw3.1.not_row (by decide) (aown_below HRow.out hR))).kept (grownBy_setCell' _ _ _) (by simp; omega), (hb5.cell (p := ⟨o.bp, k * 258, none⟩) hlbp).trans hw3.2.1, (hb5.cell (p := ⟨o.bp, k * 258 + 1, none⟩) hlbp).trans hw3.2.2⟩
        have HAb : Hid (Boxed (W4.setCell ⟨w.heap.size + 1, 0, none⟩ (.slice (some ⟨g', 0, none⟩) ((hlOf h d (natS pre)).length + 1) cap')) w.heap.size 26 o.ptr) := (((aboxed_below HA3.out hR).alloc _).kept r2 ((aboxed_below HA3.out hR).not_row (by decide) (aown_below HRow.out hR))).kept (grownBy_setCell' _ _ _) (by simp)
        refine ⟨W4.setCell ⟨w.heap.size + 1, 0, none⟩ (.slice (some ⟨g', 0, none⟩) ((hlOf h d (natS pre)).length + 1) cap'), ?_, ?_⟩
        · clear hv1 hv2 hr2 hk2 hb5 r1 r2 hname2 hR
          go_simp
        · intro b'
          refine ⟨((akeeps_below hR).trans HK2.out).from _, HN.out, ⟨⟨_, HV2.out, ?_, trivial⟩, HAb.out⟩, hB.trans ((hR.mono hsB).trans HB5.out)⟩
          rw [HS2.out, encP_snoc, List.length_append, ← HG.out]
          exact HR2.out
    · rw [hf] at hheld
      have HS2 : Hid (hlOf h d (natS (pre ++ [x])) = hlOf h d (natS pre)) := by have := HS.out; rw [hf] at this; exact this
      clear hf HS
      gi_wp2_with (refine ⟨trivial, ?_⟩; gi_at_call 35; refine (CallsIn.inRound l (callsIn_wide.2 hheld)).mono ?_; rintro e W2 ⟨rfl, hb2⟩)
      refine ⟨(akeeps_below hb2).from _, fun hw => hw.onto hb2, ⟨⟨v, aboxed_below hv hb2, by rw [HS2.out]; exact aown_below hrow hb2, trivial⟩, aboxed_below bA3 hb2⟩, Below.onto hB hb2⟩
  case done =>
    rintro D ys W hD rfl ⟨⟨⟨v, hv, hrow, _⟩, bA3⟩, hB⟩ hK
    have hc := hv.cell
    gi_wp2
    refine ⟨by simp, .inl ⟨_, _, rfl, run_takeDeferred hK, ?_⟩⟩
    have hrow2 := ownsRow_putObj hrow (.deferred none) hK rfl
    rw [nums_nat (Nat.le_refl _), show hlOf h d ((List.range (h.sz k)).map (h.fs k + ·)) = heldL h d k by simp [heldL, hin]] at hrow2
    exact ⟨_, results_tmp rfl _ _ _, v, rfl, hrow2, hB.trans (belowK_b (w := w) (Nat.le_refl _) W D _ _ (by simp at hD; omega) hK rfl rfl)⟩
  case stop =>
    rintro D c pre W _ _ h _
    exact h.elim
end Go.Proofs.Ytobpignlamekmaa
