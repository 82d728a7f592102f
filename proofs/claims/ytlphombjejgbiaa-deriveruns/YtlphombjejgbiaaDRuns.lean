/- DeriveRuns' walk. -/
import Derived.Test.YtlphombjejgbiaaDRun
import Derived.Test.YtlphombjejgbiaaDAlive
import Derived.Test.YtlphombjejgbiaaDTwo
namespace Go.Proofs.Ytlphombjejgbiaa
open Go.RowKit Go.Sort Go.Shelf
set_option maxRecDepth 100000

theorem dd_new {w w1 w2 : World} {a : Fp} {n : Nat} (hf : Fo w1 a n []) (hb : Below w.heap.size w w1) (hge : ∀ b, a.has b → w.heap.size ≤ b) (hr : Rf w2 w1.heap.size (.slice none 0 0) n []) (hb2 : Below w1.heap.size w1 w2) : Dd w w2 a w1.heap.size (.slice none 0 0) n [] [] :=
  ⟨hf.below hb2, hr, hge, hb.size, by rintro b ⟨⟩, fun hh => by have := hf.lt _ hh; omega, by rintro b ⟨⟩, Below.onto hb hb2⟩
theorem fslice_head (a : Option Addr) (n q cap : Nat) (hq : q ≤ cap) (W : World) : (Instr.slice 35 (.slice a n cap) none (some (.int .i64 (q : Int))) none).run Try.prog W = .ok (.slice a q cap) W := by
  have hs : ∀ w, (sizeOf (Try.prog.elem 35)).run Try.prog w = .ok 1 w := fun w => by kernel_rfl
  rw [run_slice_h _ 35 a n cap (by kernel_rfl) .i64 q (by omega) (by omega), hs]
  cases a with
  | none => simp [sliced, Result.andThen]
  | some x => simp only [sliced, Result.andThen, Option.map_some, Nat.zero_mul, Nat.sub_zero, Int.toNat_natCast]; split <;> rfl
theorem druns_bad (x : Int) (h : x < 0 ∨ 1024 < x) (a : Option Addr) (len cap : Nat) (n q m : Int) (w : World) :
    Calls Try.prog 3 #[.int .i64 x, .slice a len cap, .int .i64 n, .int .i64 q, .int .i64 m] w fun e w' => e = .returned (.bool true) ∧ Below w.heap.size w w' := by
  have hA := dawake_k w
  have h1 := fun W => dnew_bad x h W
  have h2 := fun W => rnew12_bad x h W
  go_enter Try.func3, Try.ntmps3
  go_wp2_with fail
  refine hA.mono ?_
  rintro e w1 ⟨rfl, hb1⟩
  have HB : Hid (Below w.heap.size w w1) := hb1
  clear hA hb1 h
  go_wp2_with fail
  refine (h1 _).mono ?_
  rintro e w2 ⟨rfl, rfl⟩
  go_wp2_with fail
  refine (h2 _).mono ?_
  rintro e w3 ⟨rfl, rfl⟩
  go_wp2_with fail
  go_ret
  exact ⟨rfl, HB.out⟩
set_option maxHeartbeats 8000000 in
theorem druns_ok (N : Nat) (hN : N ≤ 1024) (a : Option Addr) (len cap : Nat) (g : Nat → DOp) (n q m : Int) (w : World) (hs : Rd w a len 3 (fun j => encD (g j))) (hlc : len ≤ 9223372036854775807) :
    Calls Try.prog 3 #[.int .i64 (N : Int), .slice a len cap, .int .i64 n, .int .i64 q, .int .i64 m] w fun e w' => e = .returned (.bool true) ∧ Below w.heap.size w w' := by
  have hA := dawake_k w
  have h1 := fun W => dnew_k N hN W
  have HS : Hid (Rd w a len 3 (fun j => encD (g j))) := hs
  clear hs
  go_enter Try.func3, Try.ntmps3
  go_wp2_with fail
  refine hA.mono ?_
  rintro e w1 ⟨rfl, hb1⟩
  have HB : Hid (Below w.heap.size w w1) := hb1
  have HS1 : Hid (Rd w1 a len 3 (fun j => encD (g j))) := HS.out.below hb1
  clear hA hb1 HS
  go_wp2_with fail
  refine (h1 _).mono ?_
  rintro e w2 ⟨f, rfl, hf, hb2, hge⟩
  have h2 := rnew12_ok N hN w2
  have HF2 : Hid (Fo w2 f N [] ∧ Below w1.heap.size w1 w2 ∧ ∀ b, f.has b → w1.heap.size ≤ b) := ⟨hf, hb2, hge⟩
  clear h1 hf hb2 hge
  go_wp2_with fail
  refine h2.mono ?_
  rintro e w3 ⟨rfl, hr, hb3⟩
  have HD : Hid (DdX w1 w3 f w2.heap.size N) := ⟨_, [], dd_new HF2.out.1 HF2.out.2.1 HF2.out.2.2 hr hb3⟩
  clear h2 hr hb3 HF2
  generalize w2.heap.size = r at *
  go_wp2_with fail
  go_loopw [15] (fun vi wr => ∃ i : Nat, vi = .int .i64 (i : Int) ∧ i ≤ 50 ∧ Hid (DdX w1 wr f r N)) (fun vi _ => 50 - (intOf vi).toNat)
  case atStart => exact ⟨0, rfl, by omega, HD.out⟩
  case round =>
    obtain ⟨i, rfl, hi, HR⟩ := hrel
    clear HD
    by_cases h50 : i < 50 ∧ i < len
    · obtain ⟨h50, hlt⟩ := h50
      obtain ⟨b, off, rfl, hcell⟩ := HS1.out i hlt
      have k0 : w1.cell? ⟨b, off + i * 3, none⟩ = some (.int .i64 (g i).k) := hcell 0 (by omega)
      have k1 : w1.cell? ⟨b, off + i * 3 + 1, none⟩ = some (.int .i64 (g i).a) := hcell 1 (by omega)
      have k2 : w1.cell? ⟨b, off + i * 3 + 2, none⟩ = some (.int .i64 (g i).b) := hcell 2 (by omega)
      have toS : Hid (∀ W, Below w1.heap.size w1 W → W.cell? ⟨b, off + i * 3, none⟩ = some (.int .i64 (g i).k) ∧ W.cell? ⟨b, off + i * 3 + 1, none⟩ = some (.int .i64 (g i).a) ∧ W.cell? ⟨b, off + i * 3 + 2, none⟩ = some (.int .i64 (g i).b)) := fun W h =>
        ⟨(h.cell (p := ⟨b, off + i * 3, none⟩) (cell_lt k0)).trans k0, (h.cell (p := ⟨b, off + i * 3 + 1, none⟩) (cell_lt k1)).trans k1, (h.cell (p := ⟨b, off + i * 3 + 2, none⟩) (cell_lt k2)).trans k2⟩
      obtain ⟨rv, L, hd⟩ := HR.out
      have hdd := hd.below (Below.refl _ wr).drew
      obtain ⟨z0, z1, z2⟩ := toS.out _ hdd.bel
      obtain ⟨z0', z1', z2'⟩ := toS.out _ hd.bel
      have cO := dstep_any hdd (g i)
      have hdrb := hdd.bel
      clear hcell k0 k1 k2 hd hdd
      generalize g i = o at *
      go_wp2_with fail
      have zz : Hid (Below w1.heap.size w1 wr.drew) := hdrb
      go_region_held3 (fun W => W.cell? ⟨b, off + i * 3, none⟩ = some (.int .i64 o.k) ∧ W.cell? ⟨b, off + i * 3 + 1, none⟩ = some (.int .i64 o.a) ∧ W.cell? ⟨b, off + i * 3 + 2, none⟩ = some (.int .i64 o.b)) (first | assumption | exact ⟨z0, z1, z2⟩ | exact ⟨y0, y1, y2⟩ | exact ⟨x0, x1, x2⟩) (first | (go_at_call 8; (with_reducible refine cO.mono ?_); rintro v w5 ⟨rfl, h5⟩; have H5 : Hid (DdX w1 w5 f r N) := h5; obtain ⟨rv5, L5, d5⟩ := h5; obtain ⟨y0, y1, y2⟩ := toS.out _ d5.bel; have cS := dsame_any d5 o.a o.b; have B5 : Hid (Below w1.heap.size w1 w5) := d5.bel; clear d5) | (go_at_call 9; (with_reducible refine cS.mono ?_); rintro v w6 ⟨rfl, hb6⟩; obtain ⟨x0, x1, x2⟩ := toS.out _ (Below.onto B5.out hb6)))
      have HR2 : Hid (DdX w1 w6 f r N) := by
        obtain ⟨rv6, L6, d6⟩ := H5.out
        exact ⟨rv6, L6, d6.below hb6⟩
      clear cO cS hb6 x0 x1 x2 y0 y1 y2 z0 z1 z2 z0' z1' z2' H5 HR hdrb zz toS
      go_wp2_with fail
      go_roundw
      case rel => exact ⟨i + 1, by go_num, by omega, HR2⟩
      case measure => simp [intOf]; omega
    · have hi2 : ¬ i < len ∨ (i < len ∧ i = 50) := by omega
      clear h50
      by_cases m1 : m < 1
      · rcases hi2 with hlt | ⟨hlt, rfl⟩
        · obtain ⟨rv, L, hd⟩ := HR.out
          have cB : Calls Try.prog 10 #[f.ptr, .int .i64 n, .int .i64 2000] wr fun e w' => ∃ v, e = .returned (.tuple #[v, .bool true]) ∧ w'.ownsRow wr.heap.size 3 1 v ((belT N L n).take 2000).length (encL ((belT N L n).take 2000)) ∧ Below wr.heap.size wr w' := lbelow_k hd.fo n 2000 (by omega)
          have HD2 : Hid (Dd w1 wr f r rv N L L) := hd
          clear hd HR HS1
          go_wp2_with fail
          refine cB.mono ?_
          rintro e w5 ⟨v1, rfl, ho1, hb5⟩
          have HO1 : Hid (w5.ownsRow wr.heap.size 3 1 v1 ((belT N L n).take 2000).length (encL ((belT N L n).take 2000)) ∧ Dd w1 w5 f r rv N L L) := ⟨ho1, HD2.out.below hb5⟩
          have cR := rbelow12 HO1.out.2.rf n
          clear cB ho1 hb5 HD2
          go_wp2_with fail
          refine cR.mono ?_
          rintro e w6 ⟨v2, rfl, ho2, hb6⟩
          obtain ⟨a2, cap2, rfl, hc2, _⟩ := own_sep ho2
          obtain ⟨a1, cap1, rfl, hc1, _⟩ := own_sep (down_stay HO1.out.1 hb6)
          obtain ⟨_, _, hx0, hx1, hx2⟩ := fown_form ho2
          injection hx0 with hx3 hx4 hx5
          subst hx3 hx5
          clear hx4 hx2
          have HD6 : Hid (Dd w1 w6 f r rv N L L) := HO1.out.2.below hb6
          have cS := dsame_any HD6.out n q
          have HC : Hid (Cells w6 .i64 a1 ((belT N L n).take 2000).length (atL ((belT N L n).take 2000)) ∧ Cells w6 .i64 a2 (belT N L n).length (atL (belT N L n))) := ⟨hc1, hc2⟩
          have hbl : (belT N L n).length ≤ 1024 := by
            have h1 := blw_len HD6.out.rf.ok n.toNat
            unfold belT
            split
            · omega
            · simp
          clear hc1 hc2 ho2 hb6 cR HO1
          obtain ⟨T, hT⟩ : ∃ T, belT N L n = T := ⟨_, rfl⟩
          rw [hT] at HC hbl hx1 ⊢
          clear hT
          obtain ⟨M, hM⟩ : ∃ M, T.length = M := ⟨_, rfl⟩
          obtain ⟨k, hk⟩ : ∃ k, k = min 2000 M := ⟨_, rfl⟩
          have e1 : (T.take 2000).length = k := by rw [List.length_take, hM, hk]
          rw [e1, hM] at HC
          rw [hM] at hbl hx1
          have HT : Hid (∀ j, j < k → atL (T.take 2000) j = atL T j) := fun j hj => by
            unfold atL
            rw [List.getD_eq_getElem?_getD, List.getD_eq_getElem?_getD, List.getElem?_take, if_pos (by omega)]
          have hkM : k ≤ M := by omega
          have hmi : (if (2000 : Int) < (M : Int) then (2000 : Int) else (M : Int)) = (k : Int) := by split <;> omega
          have hmi3 : ∀ W ts t, (Builtin.min_ ts t #[.int .i64 (M : Int), .int .i64 2000]).run Try.prog W = .ok (.int .i64 (k : Int)) W := fun W ts t => by rw [run_min_int2, hmi]
          have hsl := fslice_head a2 M k cap2 (by omega)
          rw [e1, hM]
          clear hmi e1 hM hk
          go_wp2_with fail
          refine cS.mono ?_
          rintro e w7 ⟨rfl, hb7⟩
          have HC7 : Hid (Cells w7 .i64 a1 k (atL (T.take 2000)) ∧ Cells w7 .i64 a2 k (atL T)) := ⟨HC.out.1.below hb7, (HC.out.2.mono hkM).below hb7⟩
          have HB7 : Hid (Below w.heap.size w w7) := Below.onto (Below.onto HB.out HD6.out.bel) hb7
          have cE := rsame12_true a1 a2 k cap1 cap2 _ _ w7 (by omega) HC7.out.1 HC7.out.2 HT.out
          clear cS hb7 HC
          go_wp2_with fail
          refine cE.mono ?_
          rintro e w8 ⟨rfl, hb8⟩
          have HB8 : Hid (Below w.heap.size w w8) := Below.onto HB7.out hb8
          clear cE hb8
          go_wp2_with fail
          go_ret
          exact ⟨ret_bool (by simp), HB8.out⟩
        · obtain ⟨rv, L, hd⟩ := HR.out
          have cB : Calls Try.prog 10 #[f.ptr, .int .i64 n, .int .i64 2000] wr fun e w' => ∃ v, e = .returned (.tuple #[v, .bool true]) ∧ w'.ownsRow wr.heap.size 3 1 v ((belT N L n).take 2000).length (encL ((belT N L n).take 2000)) ∧ Below wr.heap.size wr w' := lbelow_k hd.fo n 2000 (by omega)
          have HD2 : Hid (Dd w1 wr f r rv N L L) := hd
          clear hd HR HS1
          go_wp2_with fail
          refine cB.mono ?_
          rintro e w5 ⟨v1, rfl, ho1, hb5⟩
          have HO1 : Hid (w5.ownsRow wr.heap.size 3 1 v1 ((belT N L n).take 2000).length (encL ((belT N L n).take 2000)) ∧ Dd w1 w5 f r rv N L L) := ⟨ho1, HD2.out.below hb5⟩
          have cR := rbelow12 HO1.out.2.rf n
          clear cB ho1 hb5 HD2
          go_wp2_with fail
          refine cR.mono ?_
          rintro e w6 ⟨v2, rfl, ho2, hb6⟩
          obtain ⟨a2, cap2, rfl, hc2, _⟩ := own_sep ho2
          obtain ⟨a1, cap1, rfl, hc1, _⟩ := own_sep (down_stay HO1.out.1 hb6)
          obtain ⟨_, _, hx0, hx1, hx2⟩ := fown_form ho2
          injection hx0 with hx3 hx4 hx5
          subst hx3 hx5
          clear hx4 hx2
          have HD6 : Hid (Dd w1 w6 f r rv N L L) := HO1.out.2.below hb6
          have cS := dsame_any HD6.out n q
          have HC : Hid (Cells w6 .i64 a1 ((belT N L n).take 2000).length (atL ((belT N L n).take 2000)) ∧ Cells w6 .i64 a2 (belT N L n).length (atL (belT N L n))) := ⟨hc1, hc2⟩
          have hbl : (belT N L n).length ≤ 1024 := by
            have h1 := blw_len HD6.out.rf.ok n.toNat
            unfold belT
            split
            · omega
            · simp
          clear hc1 hc2 ho2 hb6 cR HO1
          obtain ⟨T, hT⟩ : ∃ T, belT N L n = T := ⟨_, rfl⟩
          rw [hT] at HC hbl hx1 ⊢
          clear hT
          obtain ⟨M, hM⟩ : ∃ M, T.length = M := ⟨_, rfl⟩
          obtain ⟨k, hk⟩ : ∃ k, k = min 2000 M := ⟨_, rfl⟩
          have e1 : (T.take 2000).length = k := by rw [List.length_take, hM, hk]
          rw [e1, hM] at HC
          rw [hM] at hbl hx1
          have HT : Hid (∀ j, j < k → atL (T.take 2000) j = atL T j) := fun j hj => by
            unfold atL
            rw [List.getD_eq_getElem?_getD, List.getD_eq_getElem?_getD, List.getElem?_take, if_pos (by omega)]
          have hkM : k ≤ M := by omega
          have hmi : (if (2000 : Int) < (M : Int) then (2000 : Int) else (M : Int)) = (k : Int) := by split <;> omega
          have hmi3 : ∀ W ts t, (Builtin.min_ ts t #[.int .i64 (M : Int), .int .i64 2000]).run Try.prog W = .ok (.int .i64 (k : Int)) W := fun W ts t => by rw [run_min_int2, hmi]
          have hsl := fslice_head a2 M k cap2 (by omega)
          rw [e1, hM]
          clear hmi e1 hM hk
          go_wp2_with fail
          refine cS.mono ?_
          rintro e w7 ⟨rfl, hb7⟩
          have HC7 : Hid (Cells w7 .i64 a1 k (atL (T.take 2000)) ∧ Cells w7 .i64 a2 k (atL T)) := ⟨HC.out.1.below hb7, (HC.out.2.mono hkM).below hb7⟩
          have HB7 : Hid (Below w.heap.size w w7) := Below.onto (Below.onto HB.out HD6.out.bel) hb7
          have cE := rsame12_true a1 a2 k cap1 cap2 _ _ w7 (by omega) HC7.out.1 HC7.out.2 HT.out
          clear cS hb7 HC
          go_wp2_with fail
          refine cE.mono ?_
          rintro e w8 ⟨rfl, hb8⟩
          have HB8 : Hid (Below w.heap.size w w8) := Below.onto HB7.out hb8
          clear cE hb8
          go_wp2_with fail
          go_ret
          exact ⟨ret_bool (by simp), HB8.out⟩
      · by_cases m2 : 2000 < m
        · rcases hi2 with hlt | ⟨hlt, rfl⟩
          · obtain ⟨rv, L, hd⟩ := HR.out
            have cB : Calls Try.prog 10 #[f.ptr, .int .i64 n, .int .i64 2000] wr fun e w' => ∃ v, e = .returned (.tuple #[v, .bool true]) ∧ w'.ownsRow wr.heap.size 3 1 v ((belT N L n).take 2000).length (encL ((belT N L n).take 2000)) ∧ Below wr.heap.size wr w' := lbelow_k hd.fo n 2000 (by omega)
            have HD2 : Hid (Dd w1 wr f r rv N L L) := hd
            clear hd HR HS1
            go_wp2_with fail
            refine cB.mono ?_
            rintro e w5 ⟨v1, rfl, ho1, hb5⟩
            have HO1 : Hid (w5.ownsRow wr.heap.size 3 1 v1 ((belT N L n).take 2000).length (encL ((belT N L n).take 2000)) ∧ Dd w1 w5 f r rv N L L) := ⟨ho1, HD2.out.below hb5⟩
            have cR := rbelow12 HO1.out.2.rf n
            clear cB ho1 hb5 HD2
            go_wp2_with fail
            refine cR.mono ?_
            rintro e w6 ⟨v2, rfl, ho2, hb6⟩
            obtain ⟨a2, cap2, rfl, hc2, _⟩ := own_sep ho2
            obtain ⟨a1, cap1, rfl, hc1, _⟩ := own_sep (down_stay HO1.out.1 hb6)
            obtain ⟨_, _, hx0, hx1, hx2⟩ := fown_form ho2
            injection hx0 with hx3 hx4 hx5
            subst hx3 hx5
            clear hx4 hx2
            have HD6 : Hid (Dd w1 w6 f r rv N L L) := HO1.out.2.below hb6
            have cS := dsame_any HD6.out n q
            have HC : Hid (Cells w6 .i64 a1 ((belT N L n).take 2000).length (atL ((belT N L n).take 2000)) ∧ Cells w6 .i64 a2 (belT N L n).length (atL (belT N L n))) := ⟨hc1, hc2⟩
            have hbl : (belT N L n).length ≤ 1024 := by
              have h1 := blw_len HD6.out.rf.ok n.toNat
              unfold belT
              split
              · omega
              · simp
            clear hc1 hc2 ho2 hb6 cR HO1
            obtain ⟨T, hT⟩ : ∃ T, belT N L n = T := ⟨_, rfl⟩
            rw [hT] at HC hbl hx1 ⊢
            clear hT
            obtain ⟨M, hM⟩ : ∃ M, T.length = M := ⟨_, rfl⟩
            obtain ⟨k, hk⟩ : ∃ k, k = min 2000 M := ⟨_, rfl⟩
            have e1 : (T.take 2000).length = k := by rw [List.length_take, hM, hk]
            rw [e1, hM] at HC
            rw [hM] at hbl hx1
            have HT : Hid (∀ j, j < k → atL (T.take 2000) j = atL T j) := fun j hj => by
              unfold atL
              rw [List.getD_eq_getElem?_getD, List.getD_eq_getElem?_getD, List.getElem?_take, if_pos (by omega)]
            have hkM : k ≤ M := by omega
            have hmi : (if (2000 : Int) < (M : Int) then (2000 : Int) else (M : Int)) = (k : Int) := by split <;> omega
            have hmi3 : ∀ W ts t, (Builtin.min_ ts t #[.int .i64 (M : Int), .int .i64 2000]).run Try.prog W = .ok (.int .i64 (k : Int)) W := fun W ts t => by rw [run_min_int2, hmi]
            have hsl := fslice_head a2 M k cap2 (by omega)
            rw [e1, hM]
            clear hmi e1 hM hk
            go_wp2_with fail
            refine cS.mono ?_
            rintro e w7 ⟨rfl, hb7⟩
            have HC7 : Hid (Cells w7 .i64 a1 k (atL (T.take 2000)) ∧ Cells w7 .i64 a2 k (atL T)) := ⟨HC.out.1.below hb7, (HC.out.2.mono hkM).below hb7⟩
            have HB7 : Hid (Below w.heap.size w w7) := Below.onto (Below.onto HB.out HD6.out.bel) hb7
            have cE := rsame12_true a1 a2 k cap1 cap2 _ _ w7 (by omega) HC7.out.1 HC7.out.2 HT.out
            clear cS hb7 HC
            go_wp2_with fail
            refine cE.mono ?_
            rintro e w8 ⟨rfl, hb8⟩
            have HB8 : Hid (Below w.heap.size w w8) := Below.onto HB7.out hb8
            clear cE hb8
            go_wp2_with fail
            go_ret
            exact ⟨ret_bool (by simp), HB8.out⟩
          · obtain ⟨rv, L, hd⟩ := HR.out
            have cB : Calls Try.prog 10 #[f.ptr, .int .i64 n, .int .i64 2000] wr fun e w' => ∃ v, e = .returned (.tuple #[v, .bool true]) ∧ w'.ownsRow wr.heap.size 3 1 v ((belT N L n).take 2000).length (encL ((belT N L n).take 2000)) ∧ Below wr.heap.size wr w' := lbelow_k hd.fo n 2000 (by omega)
            have HD2 : Hid (Dd w1 wr f r rv N L L) := hd
            clear hd HR HS1
            go_wp2_with fail
            refine cB.mono ?_
            rintro e w5 ⟨v1, rfl, ho1, hb5⟩
            have HO1 : Hid (w5.ownsRow wr.heap.size 3 1 v1 ((belT N L n).take 2000).length (encL ((belT N L n).take 2000)) ∧ Dd w1 w5 f r rv N L L) := ⟨ho1, HD2.out.below hb5⟩
            have cR := rbelow12 HO1.out.2.rf n
            clear cB ho1 hb5 HD2
            go_wp2_with fail
            refine cR.mono ?_
            rintro e w6 ⟨v2, rfl, ho2, hb6⟩
            obtain ⟨a2, cap2, rfl, hc2, _⟩ := own_sep ho2
            obtain ⟨a1, cap1, rfl, hc1, _⟩ := own_sep (down_stay HO1.out.1 hb6)
            obtain ⟨_, _, hx0, hx1, hx2⟩ := fown_form ho2
            injection hx0 with hx3 hx4 hx5
            subst hx3 hx5
            clear hx4 hx2
            have HD6 : Hid (Dd w1 w6 f r rv N L L) := HO1.out.2.below hb6
            have cS := dsame_any HD6.out n q
            have HC : Hid (Cells w6 .i64 a1 ((belT N L n).take 2000).length (atL ((belT N L n).take 2000)) ∧ Cells w6 .i64 a2 (belT N L n).length (atL (belT N L n))) := ⟨hc1, hc2⟩
            have hbl : (belT N L n).length ≤ 1024 := by
              have h1 := blw_len HD6.out.rf.ok n.toNat
              unfold belT
              split
              · omega
              · simp
            clear hc1 hc2 ho2 hb6 cR HO1
            obtain ⟨T, hT⟩ : ∃ T, belT N L n = T := ⟨_, rfl⟩
            rw [hT] at HC hbl hx1 ⊢
            clear hT
            obtain ⟨M, hM⟩ : ∃ M, T.length = M := ⟨_, rfl⟩
            obtain ⟨k, hk⟩ : ∃ k, k = min 2000 M := ⟨_, rfl⟩
            have e1 : (T.take 2000).length = k := by rw [List.length_take, hM, hk]
            rw [e1, hM] at HC
            rw [hM] at hbl hx1
            have HT : Hid (∀ j, j < k → atL (T.take 2000) j = atL T j) := fun j hj => by
              unfold atL
              rw [List.getD_eq_getElem?_getD, List.getD_eq_getElem?_getD, List.getElem?_take, if_pos (by omega)]
            have hkM : k ≤ M := by omega
            have hmi : (if (2000 : Int) < (M : Int) then (2000 : Int) else (M : Int)) = (k : Int) := by split <;> omega
            have hmi3 : ∀ W ts t, (Builtin.min_ ts t #[.int .i64 (M : Int), .int .i64 2000]).run Try.prog W = .ok (.int .i64 (k : Int)) W := fun W ts t => by rw [run_min_int2, hmi]
            have hsl := fslice_head a2 M k cap2 (by omega)
            rw [e1, hM]
            clear hmi e1 hM hk
            go_wp2_with fail
            refine cS.mono ?_
            rintro e w7 ⟨rfl, hb7⟩
            have HC7 : Hid (Cells w7 .i64 a1 k (atL (T.take 2000)) ∧ Cells w7 .i64 a2 k (atL T)) := ⟨HC.out.1.below hb7, (HC.out.2.mono hkM).below hb7⟩
            have HB7 : Hid (Below w.heap.size w w7) := Below.onto (Below.onto HB.out HD6.out.bel) hb7
            have cE := rsame12_true a1 a2 k cap1 cap2 _ _ w7 (by omega) HC7.out.1 HC7.out.2 HT.out
            clear cS hb7 HC
            go_wp2_with fail
            refine cE.mono ?_
            rintro e w8 ⟨rfl, hb8⟩
            have HB8 : Hid (Below w.heap.size w w8) := Below.onto HB7.out hb8
            clear cE hb8
            go_wp2_with fail
            go_ret
            exact ⟨ret_bool (by simp), HB8.out⟩
        · obtain ⟨mm, rfl⟩ : ∃ mm : Nat, m = (mm : Int) := ⟨m.toNat, by omega⟩
          rcases hi2 with hlt | ⟨hlt, rfl⟩
          · obtain ⟨rv, L, hd⟩ := HR.out
            have cB : Calls Try.prog 10 #[f.ptr, .int .i64 n, .int .i64 mm] wr fun e w' => ∃ v, e = .returned (.tuple #[v, .bool true]) ∧ w'.ownsRow wr.heap.size 3 1 v ((belT N L n).take mm).length (encL ((belT N L n).take mm)) ∧ Below wr.heap.size wr w' := lbelow_k hd.fo n mm (by omega)
            have HD2 : Hid (Dd w1 wr f r rv N L L) := hd
            clear hd HR HS1
            go_wp2_with fail
            refine cB.mono ?_
            rintro e w5 ⟨v1, rfl, ho1, hb5⟩
            have HO1 : Hid (w5.ownsRow wr.heap.size 3 1 v1 ((belT N L n).take mm).length (encL ((belT N L n).take mm)) ∧ Dd w1 w5 f r rv N L L) := ⟨ho1, HD2.out.below hb5⟩
            have cR := rbelow12 HO1.out.2.rf n
            clear cB ho1 hb5 HD2
            go_wp2_with fail
            refine cR.mono ?_
            rintro e w6 ⟨v2, rfl, ho2, hb6⟩
            obtain ⟨a2, cap2, rfl, hc2, _⟩ := own_sep ho2
            obtain ⟨a1, cap1, rfl, hc1, _⟩ := own_sep (down_stay HO1.out.1 hb6)
            obtain ⟨_, _, hx0, hx1, hx2⟩ := fown_form ho2
            injection hx0 with hx3 hx4 hx5
            subst hx3 hx5
            clear hx4 hx2
            have HD6 : Hid (Dd w1 w6 f r rv N L L) := HO1.out.2.below hb6
            have cS := dsame_any HD6.out n q
            have HC : Hid (Cells w6 .i64 a1 ((belT N L n).take mm).length (atL ((belT N L n).take mm)) ∧ Cells w6 .i64 a2 (belT N L n).length (atL (belT N L n))) := ⟨hc1, hc2⟩
            have hbl : (belT N L n).length ≤ 1024 := by
              have h1 := blw_len HD6.out.rf.ok n.toNat
              unfold belT
              split
              · omega
              · simp
            clear hc1 hc2 ho2 hb6 cR HO1
            obtain ⟨T, hT⟩ : ∃ T, belT N L n = T := ⟨_, rfl⟩
            rw [hT] at HC hbl hx1 ⊢
            clear hT
            obtain ⟨M, hM⟩ : ∃ M, T.length = M := ⟨_, rfl⟩
            obtain ⟨k, hk⟩ : ∃ k, k = min mm M := ⟨_, rfl⟩
            have e1 : (T.take mm).length = k := by rw [List.length_take, hM, hk]
            rw [e1, hM] at HC
            rw [hM] at hbl hx1
            have HT : Hid (∀ j, j < k → atL (T.take mm) j = atL T j) := fun j hj => by
              unfold atL
              rw [List.getD_eq_getElem?_getD, List.getD_eq_getElem?_getD, List.getElem?_take, if_pos (by omega)]
            have hkM : k ≤ M := by omega
            have hmi : (if (mm : Int) < (M : Int) then (mm : Int) else (M : Int)) = (k : Int) := by split <;> omega
            have hmi3 : ∀ W ts t, (Builtin.min_ ts t #[.int .i64 (M : Int), .int .i64 mm]).run Try.prog W = .ok (.int .i64 (k : Int)) W := fun W ts t => by rw [run_min_int2, hmi]
            have hsl := fslice_head a2 M k cap2 (by omega)
            rw [e1, hM]
            clear hmi e1 hM hk
            go_wp2_with fail
            refine cS.mono ?_
            rintro e w7 ⟨rfl, hb7⟩
            have HC7 : Hid (Cells w7 .i64 a1 k (atL (T.take mm)) ∧ Cells w7 .i64 a2 k (atL T)) := ⟨HC.out.1.below hb7, (HC.out.2.mono hkM).below hb7⟩
            have HB7 : Hid (Below w.heap.size w w7) := Below.onto (Below.onto HB.out HD6.out.bel) hb7
            have cE := rsame12_true a1 a2 k cap1 cap2 _ _ w7 (by omega) HC7.out.1 HC7.out.2 HT.out
            clear cS hb7 HC
            go_wp2_with fail
            refine cE.mono ?_
            rintro e w8 ⟨rfl, hb8⟩
            have HB8 : Hid (Below w.heap.size w w8) := Below.onto HB7.out hb8
            clear cE hb8
            go_wp2_with fail
            go_ret
            exact ⟨ret_bool (by simp), HB8.out⟩
          · obtain ⟨rv, L, hd⟩ := HR.out
            have cB : Calls Try.prog 10 #[f.ptr, .int .i64 n, .int .i64 mm] wr fun e w' => ∃ v, e = .returned (.tuple #[v, .bool true]) ∧ w'.ownsRow wr.heap.size 3 1 v ((belT N L n).take mm).length (encL ((belT N L n).take mm)) ∧ Below wr.heap.size wr w' := lbelow_k hd.fo n mm (by omega)
            have HD2 : Hid (Dd w1 wr f r rv N L L) := hd
            clear hd HR HS1
            go_wp2_with fail
            refine cB.mono ?_
            rintro e w5 ⟨v1, rfl, ho1, hb5⟩
            have HO1 : Hid (w5.ownsRow wr.heap.size 3 1 v1 ((belT N L n).take mm).length (encL ((belT N L n).take mm)) ∧ Dd w1 w5 f r rv N L L) := ⟨ho1, HD2.out.below hb5⟩
            have cR := rbelow12 HO1.out.2.rf n
            clear cB ho1 hb5 HD2
            go_wp2_with fail
            refine cR.mono ?_
            rintro e w6 ⟨v2, rfl, ho2, hb6⟩
            obtain ⟨a2, cap2, rfl, hc2, _⟩ := own_sep ho2
            obtain ⟨a1, cap1, rfl, hc1, _⟩ := own_sep (down_stay HO1.out.1 hb6)
            obtain ⟨_, _, hx0, hx1, hx2⟩ := fown_form ho2
            injection hx0 with hx3 hx4 hx5
            subst hx3 hx5
            clear hx4 hx2
            have HD6 : Hid (Dd w1 w6 f r rv N L L) := HO1.out.2.below hb6
            have cS := dsame_any HD6.out n q
            have HC : Hid (Cells w6 .i64 a1 ((belT N L n).take mm).length (atL ((belT N L n).take mm)) ∧ Cells w6 .i64 a2 (belT N L n).length (atL (belT N L n))) := ⟨hc1, hc2⟩
            have hbl : (belT N L n).length ≤ 1024 := by
              have h1 := blw_len HD6.out.rf.ok n.toNat
              unfold belT
              split
              · omega
              · simp
            clear hc1 hc2 ho2 hb6 cR HO1
            obtain ⟨T, hT⟩ : ∃ T, belT N L n = T := ⟨_, rfl⟩
            rw [hT] at HC hbl hx1 ⊢
            clear hT
            obtain ⟨M, hM⟩ : ∃ M, T.length = M := ⟨_, rfl⟩
            obtain ⟨k, hk⟩ : ∃ k, k = min mm M := ⟨_, rfl⟩
            have e1 : (T.take mm).length = k := by rw [List.length_take, hM, hk]
            rw [e1, hM] at HC
            rw [hM] at hbl hx1
            have HT : Hid (∀ j, j < k → atL (T.take mm) j = atL T j) := fun j hj => by
              unfold atL
              rw [List.getD_eq_getElem?_getD, List.getD_eq_getElem?_getD, List.getElem?_take, if_pos (by omega)]
            have hkM : k ≤ M := by omega
            have hmi : (if (mm : Int) < (M : Int) then (mm : Int) else (M : Int)) = (k : Int) := by split <;> omega
            have hmi3 : ∀ W ts t, (Builtin.min_ ts t #[.int .i64 (M : Int), .int .i64 mm]).run Try.prog W = .ok (.int .i64 (k : Int)) W := fun W ts t => by rw [run_min_int2, hmi]
            have hsl := fslice_head a2 M k cap2 (by omega)
            rw [e1, hM]
            clear hmi e1 hM hk
            go_wp2_with fail
            refine cS.mono ?_
            rintro e w7 ⟨rfl, hb7⟩
            have HC7 : Hid (Cells w7 .i64 a1 k (atL (T.take mm)) ∧ Cells w7 .i64 a2 k (atL T)) := ⟨HC.out.1.below hb7, (HC.out.2.mono hkM).below hb7⟩
            have HB7 : Hid (Below w.heap.size w w7) := Below.onto (Below.onto HB.out HD6.out.bel) hb7
            have cE := rsame12_true a1 a2 k cap1 cap2 _ _ w7 (by omega) HC7.out.1 HC7.out.2 HT.out
            clear cS hb7 HC
            go_wp2_with fail
            refine cE.mono ?_
            rintro e w8 ⟨rfl, hb8⟩
            have HB8 : Hid (Below w.heap.size w w8) := Below.onto HB7.out hb8
            clear cE hb8
            go_wp2_with fail
            go_ret
            exact ⟨ret_bool (by simp), HB8.out⟩
end Go.Proofs.Ytlphombjejgbiaa
