/- QueueFifo's walk. -/
import Derived.Test.YtimmjhegeagofabUFifoS
import Derived.Test.YtimmjhegeagofabUFifoR
import Derived.Test.YtimmjhegeagofabUNew
import Derived.Test.YtimmjhegeagofabUAwake
import Derived.Test.YtimmjhegeagofabURefC
namespace Go.Proofs.Ytimmjhegeagofab
open Go.RowKit Go.Sort
set_option maxRecDepth 100000

/-- credits, and which lanes are two-way -/
def csT (f : Nat → Int) (i : Nat) : List Int := (List.range i).map fun j => f j % 8 + 1
def twT (f : Nat → Int) (i : Nat) : List Bool := (List.range i).map fun j => decide (128 ≤ f j)
theorem csT_len (f : Nat → Int) (i : Nat) : (csT f i).length = i := by simp [csT]
theorem twT_len (f : Nat → Int) (i : Nat) : (twT f i).length = i := by simp [twT]
theorem csT_succ (f : Nat → Int) (i : Nat) : (csT f (i + 1)).map (Value.int .i64) = (csT f i).map (Value.int .i64) ++ [.int .i64 (f i % 8 + 1)] := by simp [csT, List.range_succ]
theorem twT_succ (f : Nat → Int) (i : Nat) : (twT f (i + 1)).map Value.bool = (twT f i).map Value.bool ++ [.bool (decide (128 ≤ f i))] := by simp [twT, List.range_succ]
theorem csT_rng (f : Nat → Int) (i : Nat) (h : ∀ j, j < i → 0 ≤ f j ∧ f j < 256) : ∀ c ∈ csT f i, 1 ≤ c ∧ c ≤ 8 := by
  intro c hc
  simp [csT] at hc
  obtain ⟨j, hj, rfl⟩ := hc
  have := h j hj
  omega
theorem cs_sl {w : World} {B i : Nat} {v : Value} {f : Nat → Int} (h : w.ownsRow B 3 1 v i ((csT f i).map (Value.int .i64))) : Sl w 1 (csT f i).length (encI (csT f i)) v := by
  rw [csT_len]
  refine sl_own h fun j hj k hk => ?_
  obtain rfl : k = 0 := by omega
  simp [encI, atI, hj, csT]
theorem tw_sl {w : World} {B i : Nat} {v : Value} {f : Nat → Int} (h : w.ownsRow B 4 1 v i ((twT f i).map Value.bool)) : Sl w 1 (twT f i).length (encB (twT f i)) v := by
  rw [twT_len]
  refine sl_own h fun j hj k hk => ?_
  obtain rfl : k = 0 := by omega
  simp [encB, atB, hj, twT]
/-- an act -/
structure UOp where
  k : Int
  ln : Int
  n : Int
  x : Int
def encO (o : UOp) : Nat → Value
  | 0 => .int .i64 o.k
  | 1 => .int .i64 o.ln
  | 2 => .int .u8 o.n
  | _ => .int .u64 o.x
theorem uop_at {w : World} {a : Option Addr} {n : Nat} {g : Nat → UOp} (h : Rd w a n 4 (fun j => encO (g j))) {i : Nat} (hi : i < n) : ∃ b off, a = some ⟨b, off, none⟩ ∧ w.cell? ⟨b, off + i * 4, none⟩ = some (.int .i64 (g i).k) ∧ w.cell? ⟨b, off + i * 4 + 1, none⟩ = some (.int .i64 (g i).ln) ∧ w.cell? ⟨b, off + i * 4 + 2, none⟩ = some (.int .u8 (g i).n) ∧ w.cell? ⟨b, off + i * 4 + 3, none⟩ = some (.int .u64 (g i).x) := by
  obtain ⟨b, off, e, hc⟩ := h i hi
  exact ⟨b, off, e, hc 0 (by omega), hc 1 (by omega), hc 2 (by omega), hc 3 (by omega)⟩
set_option maxHeartbeats 16000000 in
theorem fifo_any (ca : Option Addr) (cn cc : Nat) (f : Nat → Int) (oa : Option Addr) (on oc : Nat) (g : Nat → UOp) (w : World) (hc : Rd w ca cn 1 (fun j _ => .int .u8 (f j)) ∧ ∀ j, j < cn → 0 ≤ f j ∧ f j < 256) (ho : Rd w oa on 4 (fun j => encO (g j)) ∧ ∀ j, j < on → 0 ≤ (g j).n ∧ (g j).n < 256) :
    Calls Try.prog 5 #[.slice ca cn cc, .slice oa on oc] w fun e w' => e = .returned (.bool true) ∧ Below w.heap.size w w' := by
  have HC : Hid (Rd w ca cn 1 (fun j _ => .int .u8 (f j)) ∧ ∀ j, j < cn → 0 ≤ f j ∧ f j < 256) := hc
  have HO : Hid (Rd w oa on 4 (fun j => encO (g j)) ∧ ∀ j, j < on → 0 ≤ (g j).n ∧ (g j).n < 256) := ho
  have hA := awake_any w
  clear hc ho
  go_enter Try.func5, Try.ntmps5
  go_wp2_with fail
  refine hA.mono ?_
  rintro e w1 ⟨rfl, hb1⟩
  have B1 : Hid (Below w.heap.size w w1) := hb1
  clear hA hb1
  go_wp2_with fail
  go_loopw [5, 6, 7] (fun p1 p2 t wr => ∃ (u1 u2 : Value) (i : Nat), u1 = p1 ∧ u2 = p2 ∧ i ≤ 6 ∧ i ≤ cn ∧ t = .int .i64 i ∧ Hid (wr.ownsRow w.heap.size 3 1 u1 i ((csT f i).map (Value.int .i64))) ∧ Hid (wr.ownsRow w.heap.size 4 1 u2 i ((twT f i).map Value.bool)) ∧ Hid (Below w.heap.size w wr)) (fun _ _ t _ => 6 - (intOf t).toNat)
  case atStart => exact ⟨_, _, 0, rfl, rfl, by omega, Nat.zero_le _, rfl, World.ownsRow_nil _ _ _ _, World.ownsRow_nil _ _ _ _, B1.out⟩
  case round =>
    obtain ⟨u1, u2, i, e5, e6, hi6, hin, rfl, h1, h2, hbel⟩ := hrel
    subst e5 e6
    obtain ⟨a5, c5, rfl⟩ := own_form2 h1.out
    obtain ⟨a6, c6, rfl⟩ := own_form2 h2.out
    by_cases hfin : i < cn ∧ i < 6
    · obtain ⟨hf1, hf2⟩ := hfin
      obtain ⟨bc, ofc, hca, hy⟩ := HC.out.1 i hf1
      subst hca
      have hy0 := hy 0 (by omega)
      rw [Nat.mul_one, Nat.add_zero] at hy0
      obtain ⟨g0, g1⟩ := HC.out.2 i hf1
      clear hy
      go_wp2_with fail
      refine fifo_region (w0 := w) (bc := bc) (oc := ofc) (N := cn) (cv := cc) (i := i) (y := f i) (V1 := .slice a5 i c5) (V2 := .slice a6 i c6) (xs1 := (csT f i).map (Value.int .i64)) (xs2 := (twT f i).map Value.bool) rfl rfl (by kernel_rfl) (by kernel_rfl) (by kernel_rfl) rfl rfl rfl rfl rfl rfl rfl rfl rfl rfl rfl rfl rfl rfl rfl rfl rfl rfl rfl rfl rfl rfl rfl rfl rfl rfl rfl rfl rfl rfl rfl rfl rfl rfl rfl rfl rfl rfl rfl rfl rfl rfl rfl rfl rfl rfl rfl rfl rfl rfl rfl hf1 hf2 hy0 g0 g1 h1.out h2.out hbel.out (by kernel_rfl) (by kernel_rfl) (by kernel_rfl) (by kernel_rfl) (by kernel_rfl) (by kernel_rfl) (by kernel_rfl) (by kernel_rfl) (by kernel_rfl) (fun _ _ d _ _ h => by cases d <;> exact h) ?_
      intro vA vB vC vD W9 hB9 hD9 hb9
      have H1 : Hid (W9.ownsRow w.heap.size 3 1 vB (i + 1) ((csT f (i + 1)).map (Value.int .i64))) := by show World.ownsRow _ _ _ _ _ _ _; rw [csT_succ]; exact hB9
      have H2 : Hid (W9.ownsRow w.heap.size 4 1 vD (i + 1) ((twT f (i + 1)).map Value.bool)) := by show World.ownsRow _ _ _ _ _ _ _; rw [twT_succ]; exact hD9
      have HB : Hid (Below w.heap.size w W9) := hb9
      clear hB9 hD9 hb9 hy0
      simp only [Act.put, List.setIfInBounds_toArray, List.set_cons_zero, List.set_cons_succ]
      go_wp2_with fail
      exact ⟨⟨_, _, i + 1, rfl, rfl, by omega, by omega, by go_num, H1.out, H2.out, HB.out⟩, by simp [intOf]; omega⟩
    · by_cases hf1 : i < cn
      · have hf2 : 6 ≤ i := by omega
        have hf3 : ¬ i < 6 := by omega
        go_wp2_with fail
        refine (new_any (.slice a5 i c5) (.slice a6 i c6) (csT f i) (twT f i) wr (by rw [csT_len]; omega) (cs_sl h1.out) (tw_sl h2.out)).mono ?_
        rintro e w2 ⟨ul, um, V2, rfl, hq2, hb2, _⟩
        have HFN : Hid (newE (csT f i) (twT f i) = 0 ∧ Rn.Ok ⟨newQ (csT f i) (twT f i), [], [], []⟩ (csT f i) 0) := fifo_new (by rw [csT_len, twT_len]) (by rw [csT_len]; exact hi6) (csT_rng f i (fun j hj => HC.out.2 j (by omega)))
        rw [HFN.out.1]
        obtain ⟨la, lc, hul, hz1⟩ := id hq2.l
        obtain ⟨ma, mc, hum, hz2⟩ := id hq2.m
        subst hul hum
        clear hz1 hz2
        obtain ⟨k1, k2, b4, s4⟩ := alloc2 w2 [.slice la (newQ (csT f i) (twT f i)).ls.length lc, .slice ma (newQ (csT f i) (twT f i)).ms.length mc] 25 [.slice la (newQ (csT f i) (twT f i)).ls.length lc, .slice ma (newQ (csT f i) (twT f i)).ms.length mc, .slice none 0 0, .slice none 0 0, .slice none 0 0, .bool true] 54
        have X2 : Hid (Bx (w2.alloc (.cells #[.slice la (newQ (csT f i) (twT f i)).ls.length lc, .slice ma (newQ (csT f i) (twT f i)).ms.length mc] 25)) w2.heap.size [.slice la (newQ (csT f i) (twT f i)).ls.length lc, .slice ma (newQ (csT f i) (twT f i)).ms.length mc]) := (blk_new w2 [.slice la (newQ (csT f i) (twT f i)).ls.length lc, .slice ma (newQ (csT f i) (twT f i)).ms.length mc] 25).bx
        have HFI : Hid (FiI w ((w2.alloc (.cells #[.slice la (newQ (csT f i) (twT f i)).ls.length lc, .slice ma (newQ (csT f i) (twT f i)).ms.length mc] 25)).alloc (.cells #[.slice la (newQ (csT f i) (twT f i)).ls.length lc, .slice ma (newQ (csT f i) (twT f i)).ms.length mc, .slice none 0 0, .slice none 0 0, .slice none 0 0, .bool true] 54)) (w2.heap.size + 1) (.slice a5 i c5) (.slice la (newQ (csT f i) (twT f i)).ls.length lc) (.slice ma (newQ (csT f i) (twT f i)).ms.length mc) (.slice none 0 0) (.slice none 0 0) (.slice none 0 0) ⟨newQ (csT f i) (twT f i), [], [], []⟩ V2 (csT f i) 0) := by
          refine ⟨k2, ⟨hq2.below b4, sl_nil _ _ _, sl_nil _ _ _, sl_nil _ _ _, fun a n c e => (by cases e), fun a n c e => (by cases e), fun a n c e => (by cases e)⟩, HFN.out.2, ?_, Below.onto (Below.onto hbel.out hb2) b4, ?_⟩
          · have := own_below (own_below h1.out hb2) b4
            rw [csT_len]
            exact this
          · have := (Below.onto hbel.out hb2).size
            omega
        obtain ⟨x0, x1⟩ := X2.out.two
        have xl := X2.out.lt
        clear k1 k2 b4 s4 hq2 hb2
        go_wp2_with fail
        generalize (w2.alloc (.cells #[.slice la (newQ (csT f i) (twT f i)).ls.length lc, .slice ma (newQ (csT f i) (twT f i)).ms.length mc] 25)).alloc (.cells #[.slice la (newQ (csT f i) (twT f i)).ls.length lc, .slice ma (newQ (csT f i) (twT f i)).ms.length mc, .slice none 0 0, .slice none 0 0, .slice none 0 0, .bool true] 54) = w4 at *
        generalize w2.heap.size + 1 = B at *
        clear x0 x1 xl X2 HFN h1 h2 hbel
        have HCL : Hid ((csT f i).length = i) := csT_len f i
        generalize csT f i = cs at *
        generalize twT f i = tw at *
        go_loopw [11] (fun t wr => ∃ (j : Nat) (ql qm vc vs vt : Value) (R : Rn) (V : Nat → Value), j ≤ on ∧ t = .int .i64 j ∧ Hid (FiI w wr B (.slice a5 i c5) ql qm vc vs vt R V cs j)) (fun t _ => on - (intOf t).toNat)
        case atStart => exact ⟨0, _, _, _, _, _, _, _, Nat.zero_le _, rfl, HFI.out⟩
        case round =>
          obtain ⟨j, ql, qm, vc, vs, vt, R, V, hj, rfl, hI⟩ := hrel
          by_cases hfin : j < on ∧ j < 50
          · obtain ⟨hf1, hf2⟩ := hfin
            obtain ⟨ob, oo, hoa, y0, y1, y2, y3⟩ := uop_at (HO.out.1.below hI.out.bel) hf1
            subst hoa
            obtain ⟨g0, g1⟩ := HO.out.2 j hf1
            generalize g j = o at y0 y1 y2 y3 g0 g1
            obtain ⟨k, ln, nn, x⟩ := o
            dsimp only at y0 y1 y2 y3 g0 g1
            obtain ⟨nn, rfl⟩ := Int.eq_ofNat_of_zero_le g0
            have hst := fun W hW => step_any ql qm vc vs vt R V cs j k ln x nn W (by omega) (by omega) hI.out.ok hW
            have hri := hI.out.ri
            obtain ⟨la2, lc2, hql, hz1⟩ := id hri.q.l
            obtain ⟨ma2, mc2, hqm, hz2⟩ := id hri.q.m
            obtain ⟨ca2, cc2, hvc, hz3⟩ := id hri.c
            obtain ⟨sa2, sc2, hvs, hz4⟩ := id hri.s
            obtain ⟨ta2, tc2, hvt, hz5⟩ := id hri.t
            subst hql hqm hvc hvs hvt
            clear hz1 hz2 hz3 hz4 hz5
            obtain ⟨b0, b1, b2, b3, b4, b5⟩ := hI.out.box.bx.six
            have bl := hI.out.box.lt
            have c0 := cell_regrown b0
            have c1 := cell_regrown b1
            have c2 := cell_regrown b2
            have c3 := cell_regrown b3
            have c4 := cell_regrown b4
            have c5' := cell_regrown b5
            have d0 := cell_regrown y0
            have d1 := cell_regrown y1
            have d2 := cell_regrown y2
            have d3 := cell_regrown y3
            have yl := cell_lt y0
            clear b0 b1 b2 b3 b4 b5 y0 y1 y2 y3 hri
            go_wp2_with fail
            refine wp_region_quiet_tail 5 (by kernel_rfl) (by kernel_rfl) (by kernel_rfl) ?_
            simp only [List.take_succ_cons, List.take_zero, List.drop_succ_cons, List.drop_zero]
            repeat (go_big_quiet_step (fail))
            refine wpQuiet_nil ?_
            intro _ hw'
            obtain ⟨⟨dq, osq⟩, hw''⟩ := hw'
            subst hw''
            have hbr := below_regrown wr dq osq
            have HIr : Hid (FiI w (grow (redrawn wr dq) osq) B (.slice a5 i c5) _ _ _ _ _ R V cs j) := hI.out.grow hbr
            clear c0 c1 c2 c3 c4 c5' d0 d1 d2 d3 yl bl hbr
            generalize grow (redrawn wr dq) osq = w5 at *
            unfold tailWp
            intro K hK
            go_simp
            refine (hst _ HIr.out.ri).mono ?_
            rintro e w6 ⟨ql', qm', vc', vs', vt', R', V', rfl, hr6, hk6, hb6⟩
            refine hK _ _ ?_
            clear hK hst
            have HI7 := HIr.out.store hb6 hr6 hk6
            obtain ⟨la3, lc3, hql, hz1⟩ := id hr6.q.l
            obtain ⟨ma3, mc3, hqm, hz2⟩ := id hr6.q.m
            obtain ⟨ca3, cc3, hvc, hz3⟩ := id hr6.c
            obtain ⟨sa3, sc3, hvs, hz4⟩ := id hr6.s
            obtain ⟨ta3, tc3, hvt, hz5⟩ := id hr6.t
            subst hql hqm hvc hvs hvt
            clear hz1 hz2 hz3 hz4 hz5
            have HI7' : Hid _ := HI7
            obtain ⟨b0, b1, b2, b3, b4, b5⟩ := (HIr.out.box.below hb6).bx.six
            have bf := (HIr.out.box.below hb6).fz
            have bl := (HIr.out.box.below hb6).lt
            clear hr6 hk6 hb6 HI7
            unfold tailWp
            intro K hK
            go_simp
            refine hK _ _ ?_
            clear hK b0 b1 b2 b3 b4 b5 bf bl
            unfold tailWp
            generalize (((((w6.setCell ⟨B, 0, none⟩ (.slice la3 R'.q.ls.length lc3)).setCell ⟨B, 1, none⟩ (.slice ma3 R'.q.ms.length mc3)).setCell ⟨B, 2, none⟩ (.slice ca3 R'.cl.length cc3)).setCell ⟨B, 3, none⟩ (.slice sa3 R'.se.length sc3)).setCell ⟨B, 4, none⟩ (.slice ta3 R'.tk.length tc3)).setCell ⟨B, 5, none⟩ (.bool true) = w7 at *
            obtain ⟨b0, b1, b2, b3, b4, b5⟩ := HI7'.out.box.bx.six
            have bl := HI7'.out.box.lt
            have HCK : Hid (R'.q.chk = 0) := chk_ok HI7'.out.ok.ok
            go_wp2_with fail
            refine (rcheck_any _ _ R'.q V' _ (HI7'.out.ok.okq (by omega)) HI7'.out.ri.q).mono ?_
            rintro e w8 ⟨rfl, hb8⟩
            have HI8 : Hid (FiI w w8 B (.slice a5 i c5) _ _ _ _ _ R' V' cs (j + 1)) := HI7'.out.grow hb8
            rw [HCK.out]
            clear hb8 b0 b1 b2 b3 b4 b5 bl
            obtain ⟨b0, b1, b2, b3, b4, b5⟩ := HI8.out.box.bx.six
            have bl := HI8.out.box.lt
            go_wp2_with fail
            refine (check_any _ _ R'.q V' _ (HI8.out.ok.okq (by omega)) HI8.out.ri.q).mono ?_
            rintro e w9 ⟨rfl, hb9⟩
            have HI9 : Hid (FiI w w9 B (.slice a5 i c5) _ _ _ _ _ R' V' cs (j + 1)) := HI8.out.grow hb9
            rw [HCK.out]
            clear hb9 b0 b1 b2 b3 b4 b5 bl
            go_wp2_with fail
            go_loopw [12] (fun t wx => ∃ k : Nat, k ≤ i ∧ t = .int .i64 k ∧ Hid (FiI w wx B (.slice a5 i c5) (.slice la3 R'.q.ls.length lc3) (.slice ma3 R'.q.ms.length mc3) (.slice ca3 R'.cl.length cc3) (.slice sa3 R'.se.length sc3) (.slice ta3 R'.tk.length tc3) R' V' cs (j + 1))) (fun t _ => i - (intOf t).toNat)
            case atStart => exact ⟨0, Nat.zero_le _, rfl, HI9.out⟩
            case round =>
              obtain ⟨k2, hk2, rfl, hI2⟩ := hrel
              by_cases hlt2 : k2 < i
              · go_wp2_with fail
                have hmb : R'.q.ms.length ≤ 1000 := by have := HI9.out.ok.ms; omega
                go_loopw [13, 14] (fun c t wx => ∃ m : Nat, m ≤ R'.q.ms.length ∧ c = .int .i64 (cnt (R'.q.ms.take m) (k2 : Int) : Nat) ∧ t = .int .i64 m ∧ Hid (FiI w wx B (.slice a5 i c5) (.slice la3 R'.q.ls.length lc3) (.slice ma3 R'.q.ms.length mc3) (.slice ca3 R'.cl.length cc3) (.slice sa3 R'.se.length sc3) (.slice ta3 R'.tk.length tc3) R' V' cs (j + 1))) (fun _ t _ => R'.q.ms.length - (intOf t).toNat)
                case atStart => exact ⟨0, Nat.zero_le _, rfl, rfl, hI2.out⟩
                case round =>
                  obtain ⟨m, hm, rfl, rfl, hI3⟩ := hrel
                  obtain ⟨b0, b1, b2, b3, b4, b5⟩ := hI3.out.box.bx.six
                  have bl := hI3.out.box.lt
                  have hcl := cntF_le R'.q.ms m (k2 : Int)
                  by_cases hlt3 : m < R'.q.ms.length
                  · obtain ⟨_, _, es, hmc, _, hrm⟩ := hI3.out.ri.q.m
                    cases es
                    obtain ⟨bm, om, hma, hcm⟩ := hrm m hlt3
                    subst hma
                    have q0 : wr.cell? ⟨bm, om + m * 4, none⟩ = some (.int .i64 (atM R'.q.ms m).ln) := hcm 0 (by omega)
                    have ql0 := cell_lt q0
                    have hct := cntF_take hlt3 (k2 : Int)
                    clear hrm hcm
                    by_cases he : (atM R'.q.ms m).ln = (k2 : Int)
                    · have HCT : Hid (cnt (R'.q.ms.take (m + 1)) (k2 : Int) = cnt (R'.q.ms.take m) (k2 : Int) + 1) := by show _ = _; rw [hct, if_pos he]
                      have he2 : ((atM R'.q.ms m).ln == (k2 : Int)) = true := by simpa using he
                      clear hct
                      generalize (atM R'.q.ms m).ln = lnm at *
                      generalize cnt (R'.q.ms.take m) (k2 : Int) = cn0 at *
                      go_wp2_with fail
                      exact ⟨⟨m + 1, by omega, by rw [HCT.out]; go_num, by go_num, hI3.out⟩, by simp [intOf]; omega⟩
                    · have HCT : Hid (cnt (R'.q.ms.take (m + 1)) (k2 : Int) = cnt (R'.q.ms.take m) (k2 : Int)) := by show _ = _; rw [hct, if_neg he]; rfl
                      have he2 : ((atM R'.q.ms m).ln == (k2 : Int)) = false := by simpa using he
                      clear hct
                      generalize (atM R'.q.ms m).ln = lnm at *
                      generalize cnt (R'.q.ms.take m) (k2 : Int) = cn0 at *
                      go_wp2_with fail
                      exact ⟨⟨m + 1, by omega, by rw [HCT.out], by go_num, hI3.out⟩, by simp [intOf]; omega⟩
                  · obtain rfl : m = R'.q.ms.length := by omega
                    obtain ⟨g5, ha5, hc5, q0⟩ := hI3.out.row_at HCL.out hlt2
                    subst ha5
                    have ql0 := cell_lt q0
                    have hfew := hI3.out.ok.few (k := k2) (by rw [HCL.out]; exact hlt2)
                    rw [List.take_length] at hcl ⊢
                    generalize cnt R'.q.ms (k2 : Int) = cn0 at *
                    generalize atI cs k2 = lk at *
                    go_wp2_with fail
                    exact ⟨⟨k2 + 1, by omega, by go_num, hI3.out⟩, by simp [intOf]; omega⟩
              · obtain rfl : k2 = i := by omega
                go_wp2_with fail
                exact ⟨⟨j + 1, _, _, _, _, _, _, _, by omega, by go_num, hI2.out⟩, by simp [intOf]; omega⟩
          · have HB : Hid (Below w.heap.size w wr) := hI.out.bel
            clear hI
            by_cases hf1 : j < on
            · have hf2 : 50 ≤ j := by omega
              have hf3 : ¬ j < 50 := by omega
              go_wp2_with fail
              go_ret
              exact ⟨rfl, HB.out⟩
            · have hf2 : on ≤ j := by omega
              go_wp2_with fail
              go_ret
              exact ⟨rfl, HB.out⟩
      · have hf2 : cn ≤ i := by omega
        go_wp2_with fail
        refine (new_any (.slice a5 i c5) (.slice a6 i c6) (csT f i) (twT f i) wr (by rw [csT_len]; omega) (cs_sl h1.out) (tw_sl h2.out)).mono ?_
        rintro e w2 ⟨ul, um, V2, rfl, hq2, hb2, _⟩
        have HFN : Hid (newE (csT f i) (twT f i) = 0 ∧ Rn.Ok ⟨newQ (csT f i) (twT f i), [], [], []⟩ (csT f i) 0) := fifo_new (by rw [csT_len, twT_len]) (by rw [csT_len]; exact hi6) (csT_rng f i (fun j hj => HC.out.2 j (by omega)))
        rw [HFN.out.1]
        obtain ⟨la, lc, hul, hz1⟩ := id hq2.l
        obtain ⟨ma, mc, hum, hz2⟩ := id hq2.m
        subst hul hum
        clear hz1 hz2
        obtain ⟨k1, k2, b4, s4⟩ := alloc2 w2 [.slice la (newQ (csT f i) (twT f i)).ls.length lc, .slice ma (newQ (csT f i) (twT f i)).ms.length mc] 25 [.slice la (newQ (csT f i) (twT f i)).ls.length lc, .slice ma (newQ (csT f i) (twT f i)).ms.length mc, .slice none 0 0, .slice none 0 0, .slice none 0 0, .bool true] 54
        have X2 : Hid (Bx (w2.alloc (.cells #[.slice la (newQ (csT f i) (twT f i)).ls.length lc, .slice ma (newQ (csT f i) (twT f i)).ms.length mc] 25)) w2.heap.size [.slice la (newQ (csT f i) (twT f i)).ls.length lc, .slice ma (newQ (csT f i) (twT f i)).ms.length mc]) := (blk_new w2 [.slice la (newQ (csT f i) (twT f i)).ls.length lc, .slice ma (newQ (csT f i) (twT f i)).ms.length mc] 25).bx
        have HFI : Hid (FiI w ((w2.alloc (.cells #[.slice la (newQ (csT f i) (twT f i)).ls.length lc, .slice ma (newQ (csT f i) (twT f i)).ms.length mc] 25)).alloc (.cells #[.slice la (newQ (csT f i) (twT f i)).ls.length lc, .slice ma (newQ (csT f i) (twT f i)).ms.length mc, .slice none 0 0, .slice none 0 0, .slice none 0 0, .bool true] 54)) (w2.heap.size + 1) (.slice a5 i c5) (.slice la (newQ (csT f i) (twT f i)).ls.length lc) (.slice ma (newQ (csT f i) (twT f i)).ms.length mc) (.slice none 0 0) (.slice none 0 0) (.slice none 0 0) ⟨newQ (csT f i) (twT f i), [], [], []⟩ V2 (csT f i) 0) := by
          refine ⟨k2, ⟨hq2.below b4, sl_nil _ _ _, sl_nil _ _ _, sl_nil _ _ _, fun a n c e => (by cases e), fun a n c e => (by cases e), fun a n c e => (by cases e)⟩, HFN.out.2, ?_, Below.onto (Below.onto hbel.out hb2) b4, ?_⟩
          · have := own_below (own_below h1.out hb2) b4
            rw [csT_len]
            exact this
          · have := (Below.onto hbel.out hb2).size
            omega
        obtain ⟨x0, x1⟩ := X2.out.two
        have xl := X2.out.lt
        clear k1 k2 b4 s4 hq2 hb2
        go_wp2_with fail
        generalize (w2.alloc (.cells #[.slice la (newQ (csT f i) (twT f i)).ls.length lc, .slice ma (newQ (csT f i) (twT f i)).ms.length mc] 25)).alloc (.cells #[.slice la (newQ (csT f i) (twT f i)).ls.length lc, .slice ma (newQ (csT f i) (twT f i)).ms.length mc, .slice none 0 0, .slice none 0 0, .slice none 0 0, .bool true] 54) = w4 at *
        generalize w2.heap.size + 1 = B at *
        clear x0 x1 xl X2 HFN h1 h2 hbel
        have HCL : Hid ((csT f i).length = i) := csT_len f i
        generalize csT f i = cs at *
        generalize twT f i = tw at *
        go_loopw [11] (fun t wr => ∃ (j : Nat) (ql qm vc vs vt : Value) (R : Rn) (V : Nat → Value), j ≤ on ∧ t = .int .i64 j ∧ Hid (FiI w wr B (.slice a5 i c5) ql qm vc vs vt R V cs j)) (fun t _ => on - (intOf t).toNat)
        case atStart => exact ⟨0, _, _, _, _, _, _, _, Nat.zero_le _, rfl, HFI.out⟩
        case round =>
          obtain ⟨j, ql, qm, vc, vs, vt, R, V, hj, rfl, hI⟩ := hrel
          by_cases hfin : j < on ∧ j < 50
          · obtain ⟨hf1, hf2⟩ := hfin
            obtain ⟨ob, oo, hoa, y0, y1, y2, y3⟩ := uop_at (HO.out.1.below hI.out.bel) hf1
            subst hoa
            obtain ⟨g0, g1⟩ := HO.out.2 j hf1
            generalize g j = o at y0 y1 y2 y3 g0 g1
            obtain ⟨k, ln, nn, x⟩ := o
            dsimp only at y0 y1 y2 y3 g0 g1
            obtain ⟨nn, rfl⟩ := Int.eq_ofNat_of_zero_le g0
            have hst := fun W hW => step_any ql qm vc vs vt R V cs j k ln x nn W (by omega) (by omega) hI.out.ok hW
            have hri := hI.out.ri
            obtain ⟨la2, lc2, hql, hz1⟩ := id hri.q.l
            obtain ⟨ma2, mc2, hqm, hz2⟩ := id hri.q.m
            obtain ⟨ca2, cc2, hvc, hz3⟩ := id hri.c
            obtain ⟨sa2, sc2, hvs, hz4⟩ := id hri.s
            obtain ⟨ta2, tc2, hvt, hz5⟩ := id hri.t
            subst hql hqm hvc hvs hvt
            clear hz1 hz2 hz3 hz4 hz5
            obtain ⟨b0, b1, b2, b3, b4, b5⟩ := hI.out.box.bx.six
            have bl := hI.out.box.lt
            have c0 := cell_regrown b0
            have c1 := cell_regrown b1
            have c2 := cell_regrown b2
            have c3 := cell_regrown b3
            have c4 := cell_regrown b4
            have c5' := cell_regrown b5
            have d0 := cell_regrown y0
            have d1 := cell_regrown y1
            have d2 := cell_regrown y2
            have d3 := cell_regrown y3
            have yl := cell_lt y0
            clear b0 b1 b2 b3 b4 b5 y0 y1 y2 y3 hri
            go_wp2_with fail
            refine wp_region_quiet_tail 5 (by kernel_rfl) (by kernel_rfl) (by kernel_rfl) ?_
            simp only [List.take_succ_cons, List.take_zero, List.drop_succ_cons, List.drop_zero]
            repeat (go_big_quiet_step (fail))
            refine wpQuiet_nil ?_
            intro _ hw'
            obtain ⟨⟨dq, osq⟩, hw''⟩ := hw'
            subst hw''
            have hbr := below_regrown wr dq osq
            have HIr : Hid (FiI w (grow (redrawn wr dq) osq) B (.slice a5 i c5) _ _ _ _ _ R V cs j) := hI.out.grow hbr
            clear c0 c1 c2 c3 c4 c5' d0 d1 d2 d3 yl bl hbr
            generalize grow (redrawn wr dq) osq = w5 at *
            unfold tailWp
            intro K hK
            go_simp
            refine (hst _ HIr.out.ri).mono ?_
            rintro e w6 ⟨ql', qm', vc', vs', vt', R', V', rfl, hr6, hk6, hb6⟩
            refine hK _ _ ?_
            clear hK hst
            have HI7 := HIr.out.store hb6 hr6 hk6
            obtain ⟨la3, lc3, hql, hz1⟩ := id hr6.q.l
            obtain ⟨ma3, mc3, hqm, hz2⟩ := id hr6.q.m
            obtain ⟨ca3, cc3, hvc, hz3⟩ := id hr6.c
            obtain ⟨sa3, sc3, hvs, hz4⟩ := id hr6.s
            obtain ⟨ta3, tc3, hvt, hz5⟩ := id hr6.t
            subst hql hqm hvc hvs hvt
            clear hz1 hz2 hz3 hz4 hz5
            have HI7' : Hid _ := HI7
            obtain ⟨b0, b1, b2, b3, b4, b5⟩ := (HIr.out.box.below hb6).bx.six
            have bf := (HIr.out.box.below hb6).fz
            have bl := (HIr.out.box.below hb6).lt
            clear hr6 hk6 hb6 HI7
            unfold tailWp
            intro K hK
            go_simp
            refine hK _ _ ?_
            clear hK b0 b1 b2 b3 b4 b5 bf bl
            unfold tailWp
            generalize (((((w6.setCell ⟨B, 0, none⟩ (.slice la3 R'.q.ls.length lc3)).setCell ⟨B, 1, none⟩ (.slice ma3 R'.q.ms.length mc3)).setCell ⟨B, 2, none⟩ (.slice ca3 R'.cl.length cc3)).setCell ⟨B, 3, none⟩ (.slice sa3 R'.se.length sc3)).setCell ⟨B, 4, none⟩ (.slice ta3 R'.tk.length tc3)).setCell ⟨B, 5, none⟩ (.bool true) = w7 at *
            obtain ⟨b0, b1, b2, b3, b4, b5⟩ := HI7'.out.box.bx.six
            have bl := HI7'.out.box.lt
            have HCK : Hid (R'.q.chk = 0) := chk_ok HI7'.out.ok.ok
            go_wp2_with fail
            refine (rcheck_any _ _ R'.q V' _ (HI7'.out.ok.okq (by omega)) HI7'.out.ri.q).mono ?_
            rintro e w8 ⟨rfl, hb8⟩
            have HI8 : Hid (FiI w w8 B (.slice a5 i c5) _ _ _ _ _ R' V' cs (j + 1)) := HI7'.out.grow hb8
            rw [HCK.out]
            clear hb8 b0 b1 b2 b3 b4 b5 bl
            obtain ⟨b0, b1, b2, b3, b4, b5⟩ := HI8.out.box.bx.six
            have bl := HI8.out.box.lt
            go_wp2_with fail
            refine (check_any _ _ R'.q V' _ (HI8.out.ok.okq (by omega)) HI8.out.ri.q).mono ?_
            rintro e w9 ⟨rfl, hb9⟩
            have HI9 : Hid (FiI w w9 B (.slice a5 i c5) _ _ _ _ _ R' V' cs (j + 1)) := HI8.out.grow hb9
            rw [HCK.out]
            clear hb9 b0 b1 b2 b3 b4 b5 bl
            go_wp2_with fail
            go_loopw [12] (fun t wx => ∃ k : Nat, k ≤ i ∧ t = .int .i64 k ∧ Hid (FiI w wx B (.slice a5 i c5) (.slice la3 R'.q.ls.length lc3) (.slice ma3 R'.q.ms.length mc3) (.slice ca3 R'.cl.length cc3) (.slice sa3 R'.se.length sc3) (.slice ta3 R'.tk.length tc3) R' V' cs (j + 1))) (fun t _ => i - (intOf t).toNat)
            case atStart => exact ⟨0, Nat.zero_le _, rfl, HI9.out⟩
            case round =>
              obtain ⟨k2, hk2, rfl, hI2⟩ := hrel
              by_cases hlt2 : k2 < i
              · go_wp2_with fail
                have hmb : R'.q.ms.length ≤ 1000 := by have := HI9.out.ok.ms; omega
                go_loopw [13, 14] (fun c t wx => ∃ m : Nat, m ≤ R'.q.ms.length ∧ c = .int .i64 (cnt (R'.q.ms.take m) (k2 : Int) : Nat) ∧ t = .int .i64 m ∧ Hid (FiI w wx B (.slice a5 i c5) (.slice la3 R'.q.ls.length lc3) (.slice ma3 R'.q.ms.length mc3) (.slice ca3 R'.cl.length cc3) (.slice sa3 R'.se.length sc3) (.slice ta3 R'.tk.length tc3) R' V' cs (j + 1))) (fun _ t _ => R'.q.ms.length - (intOf t).toNat)
                case atStart => exact ⟨0, Nat.zero_le _, rfl, rfl, hI2.out⟩
                case round =>
                  obtain ⟨m, hm, rfl, rfl, hI3⟩ := hrel
                  obtain ⟨b0, b1, b2, b3, b4, b5⟩ := hI3.out.box.bx.six
                  have bl := hI3.out.box.lt
                  have hcl := cntF_le R'.q.ms m (k2 : Int)
                  by_cases hlt3 : m < R'.q.ms.length
                  · obtain ⟨_, _, es, hmc, _, hrm⟩ := hI3.out.ri.q.m
                    cases es
                    obtain ⟨bm, om, hma, hcm⟩ := hrm m hlt3
                    subst hma
                    have q0 : wr.cell? ⟨bm, om + m * 4, none⟩ = some (.int .i64 (atM R'.q.ms m).ln) := hcm 0 (by omega)
                    have ql0 := cell_lt q0
                    have hct := cntF_take hlt3 (k2 : Int)
                    clear hrm hcm
                    by_cases he : (atM R'.q.ms m).ln = (k2 : Int)
                    · have HCT : Hid (cnt (R'.q.ms.take (m + 1)) (k2 : Int) = cnt (R'.q.ms.take m) (k2 : Int) + 1) := by show _ = _; rw [hct, if_pos he]
                      have he2 : ((atM R'.q.ms m).ln == (k2 : Int)) = true := by simpa using he
                      clear hct
                      generalize (atM R'.q.ms m).ln = lnm at *
                      generalize cnt (R'.q.ms.take m) (k2 : Int) = cn0 at *
                      go_wp2_with fail
                      exact ⟨⟨m + 1, by omega, by rw [HCT.out]; go_num, by go_num, hI3.out⟩, by simp [intOf]; omega⟩
                    · have HCT : Hid (cnt (R'.q.ms.take (m + 1)) (k2 : Int) = cnt (R'.q.ms.take m) (k2 : Int)) := by show _ = _; rw [hct, if_neg he]; rfl
                      have he2 : ((atM R'.q.ms m).ln == (k2 : Int)) = false := by simpa using he
                      clear hct
                      generalize (atM R'.q.ms m).ln = lnm at *
                      generalize cnt (R'.q.ms.take m) (k2 : Int) = cn0 at *
                      go_wp2_with fail
                      exact ⟨⟨m + 1, by omega, by rw [HCT.out], by go_num, hI3.out⟩, by simp [intOf]; omega⟩
                  · obtain rfl : m = R'.q.ms.length := by omega
                    obtain ⟨g5, ha5, hc5, q0⟩ := hI3.out.row_at HCL.out hlt2
                    subst ha5
                    have ql0 := cell_lt q0
                    have hfew := hI3.out.ok.few (k := k2) (by rw [HCL.out]; exact hlt2)
                    rw [List.take_length] at hcl ⊢
                    generalize cnt R'.q.ms (k2 : Int) = cn0 at *
                    generalize atI cs k2 = lk at *
                    go_wp2_with fail
                    exact ⟨⟨k2 + 1, by omega, by go_num, hI3.out⟩, by simp [intOf]; omega⟩
              · obtain rfl : k2 = i := by omega
                go_wp2_with fail
                exact ⟨⟨j + 1, _, _, _, _, _, _, _, by omega, by go_num, hI2.out⟩, by simp [intOf]; omega⟩
          · have HB : Hid (Below w.heap.size w wr) := hI.out.bel
            clear hI
            by_cases hf1 : j < on
            · have hf2 : 50 ≤ j := by omega
              have hf3 : ¬ j < 50 := by omega
              go_wp2_with fail
              go_ret
              exact ⟨rfl, HB.out⟩
            · have hf2 : on ≤ j := by omega
              go_wp2_with fail
              go_ret
              exact ⟨rfl, HB.out⟩
end Go.Proofs.Ytimmjhegeagofab
