/- slices.DeleteFunc, with Reset's function. -/
import Derived.Test.YtkgehbonijpdnaaUDel
namespace Go.Proofs.Ytkgehbonijpdnaa
open Go.RowKit
set_option maxRecDepth 100000

theorem Rw.setM {w : World} {g n k : Nat} {T : TypeId} {L : List PMs} {x : PMs} (h : Rw w g T n 4 (encMs L)) (hL : L.length = n) (hk : k < n) :
    Rw ((((w.setCell ⟨g, k * 4, none⟩ (.int .i64 x.ln)).setCell ⟨g, k * 4 + 1, none⟩ (.int .i64 x.ep)).setCell ⟨g, k * 4 + 2, none⟩ (.int .i64 x.n)).setCell ⟨g, k * 4 + 3, none⟩ (.int .u64 x.pay)) g T n 4 (encMs (L.set k x)) := by
  refine ((((h.set hk (e := 0) (by omega) _).set hk (e := 1) (by omega) _).set hk (e := 2) (by omega) _).set hk (e := 3) (by omega) _).congr fun j _ f hf => ?_
  unfold encMs
  by_cases hj : j = k
  · subst hj
    have e : atM (L.set j x) j = x := by simp [atM, hL, hk]
    rw [e]
    match f, hf with
    | 0, _ => simp [encM]
    | 1, _ => simp [encM]
    | 2, _ => simp [encM]
    | 3, _ => simp [encM]
  · have e : atM (L.set k x) j = atM L j := by simp [atM, List.getElem?_set_ne (Ne.symm hj)]
    rw [e]
    simp [hj]
def keepI (i : Int) (m : PMs) : Bool := !(m.ln == i)
/-- what a row holds while it is gone over -/
def Mid (ms L : List PMs) (i : Int) (a b : Nat) : Prop := L.length = ms.length ∧ L.take a = (ms.take b).filter (keepI i) ∧ ∀ j, b ≤ j → atM L j = atM ms j
theorem Mid.keep {ms L : List PMs} {i : Int} {a b : Nat} (h : Mid ms L i a b) (hab : a < b) (hb : b < ms.length) (hk : ((atM ms b).ln == i) = false) : Mid ms (L.set a (atM ms b)) i (a + 1) (b + 1) := by
  obtain ⟨h1, h2, h3⟩ := h
  refine ⟨by simpa using h1, ?_, fun j hj => ?_⟩
  · rw [List.take_succ_eq_append_getElem hb, List.filter_append, ← h2, List.take_succ_eq_append_getElem (by simp; omega), List.getElem_set_self, List.take_set_of_le (Nat.le_refl _)]
    rw [atM_eq hb] at hk ⊢
    simp [keepI, hk]
  · have : atM (L.set a (atM ms b)) j = atM L j := by simp [atM, List.getElem?_set_ne (show a ≠ j by omega)]
    rw [this, h3 j (by omega)]
theorem Mid.drop {ms L : List PMs} {i : Int} {a b : Nat} (h : Mid ms L i a b) (hb : b < ms.length) (hk : ((atM ms b).ln == i) = true) : Mid ms L i a (b + 1) := by
  obtain ⟨h1, h2, h3⟩ := h
  refine ⟨h1, ?_, fun j hj => h3 j (by omega)⟩
  rw [List.take_succ_eq_append_getElem hb, List.filter_append, ← h2]
  rw [atM_eq hb] at hk
  simp [keepI, hk]
theorem mid_start {ms : List PMs} {i : Int} {k : Nat} (hk : k < ms.length) (h1 : ((atM ms k).ln == i) = true) (h2 : ∀ j, j < k → ((atM ms j).ln == i) = false) : Mid ms ms i k (k + 1) := by
  refine ⟨rfl, ?_, fun _ _ => rfl⟩
  rw [List.take_succ_eq_append_getElem hk, List.filter_append]
  rw [atM_eq hk] at h1
  have e : (ms.take k).filter (keepI i) = ms.take k := by
    rw [List.filter_eq_self]
    intro m hm
    obtain ⟨j, hj, e⟩ := List.mem_iff_getElem.1 hm
    have hjk : j < k := by simp at hj; omega
    have := h2 j hjk
    rw [atM_eq (by omega)] at this
    rw [List.getElem_take] at e
    rw [← e]
    simp [keepI, this]
  rw [e]
  simp [keepI, h1]
theorem filter_all {ms : List PMs} {i : Int} (h : ∀ j, j < ms.length → ((atM ms j).ln == i) = false) : ms.filter (keepI i) = ms := by
  rw [List.filter_eq_self]
  intro m hm
  obtain ⟨j, hj, e⟩ := List.mem_iff_getElem.1 hm
  have := h j hj
  rw [atM_eq hj, e] at this
  simp [keepI, this]
theorem zeroM (w : World) : (zeroValue 44).run Try.prog w = .ok (.agg #[.int .i64 0, .int .i64 0, .int .i64 0, .int .u64 0]) w := by kernel_rfl
theorem wpList_clear_run {P : Program} {ops : Array Oper} {rest : List Oper} {o : Oper} {a : Act} {w w' : World} {Q : Exit → Act → World → Prop} (hg : o.guard = none) (s : Operand) (t : TypeId) (hop : o.op = .call { callee := .builtin .clear, args := #[s], argTypes := #[t] })
    (v v' : Value) (hs : a.eval s = v) (hrun : (Builtin.clear_ #[t] o.type #[v]).run P w = .ok v' w') (h : wpList P ops Q rest (a.put o.dst v') w') : wpList P ops Q (o :: rest) a w := by
  refine wpList_plain hg fun K hK => ?_
  unfold Oper.wp execOp
  simp only [hop, resolve, invoke, builtin, Sem.run_bind, Sem.run_pure, Result.andThen_ok, List.map_toArray, List.map_cons, List.map_nil, hs, hrun]
  exact hK _ _ h
set_option maxHeartbeats 4000000 in
theorem deleteR_any (ms : List PMs) (h B : Nat) (i : Int) (w : World) (hn : ms.length ≤ 1000) (hrw : Rw w h 44 ms.length 4 (encMs ms)) (hB : w.cell? ⟨B, 0, none⟩ = some (.int .i64 i)) (hBh : B < h) :
    Calls Try.prog 24 #[.slice (some ⟨h, 0, none⟩) ms.length ms.length, fnR B] w fun e w' => ∃ k cap, e = .returned (.slice (some ⟨h, 0, none⟩) k cap) ∧ Sl w' 4 (ms.filter (keepI i)).length (encMs (ms.filter (keepI i))) (.slice (some ⟨h, 0, none⟩) k cap) ∧ Below h w w' := by
  have hix := indexR_any (.slice (some ⟨h, 0, none⟩) ms.length ms.length) ms B i w hn hrw.sl hB
  have HR : Hid (Rw w h _ _ _ _) := hrw
  have HB : Hid (w.cell? ⟨B, 0, none⟩ = some (.int .i64 i)) := hB
  have HBH : Hid (B < h) := hBh
  clear hrw hB hBh
  go_enter Try.func24, Try.ntmps24
  go_wp2_with fail
  refine hix.mono ?_
  rintro e w1 ⟨⟨rfl, hno⟩ | ⟨k, rfl, hk, hk1, hk2⟩, hb1⟩
  · have HF : Hid (ms.filter (keepI i) = ms) := filter_all hno
    have HB1 : Hid (Below w.heap.size w w1) := hb1
    clear hno hb1
    go_wp2_with fail
    go_ret
    refine ⟨_, _, rfl, ?_, HB1.out.mono (Nat.le_of_lt HR.out.lt)⟩
    rw [HF.out]
    exact (HR.out.below HB1.out).sl
  · have HM : Hid (Mid ms ms i k (k + 1)) := mid_start hk hk1 hk2
    have HB1 : Hid (Below w.heap.size w w1) := hb1
    have HR1 : Hid (Rw w1 h _ _ _ _) := HR.out.below hb1
    have HHW : Hid (h < w.heap.size) := HR.out.lt
    have hkn : (k : Int) + 1 ≤ 1000 := by omega
    have hk9 : ((k : Int) == -1) = false := by simp
    clear hk1 hk2 hb1
    go_wp2_with fail
    clear hk9
    go_loopw [5, 6] (fun t5 t6 wr => ∃ (a b : Nat) (L : List PMs), a < b ∧ b ≤ ms.length ∧ t5 = .int .i64 a ∧ t6 = .int .i64 b ∧ Rw wr h 44 ms.length 4 (encMs L) ∧ Hid (Mid ms L i a b) ∧ Hid (Below h w wr)) (fun _ t6 _ => ms.length - (intOf t6).toNat)
    case atStart => exact ⟨k, k + 1, ms, by omega, by omega, rfl, by go_num, HR1.out, HM.out, HB1.out.mono (Nat.le_of_lt HHW.out)⟩
    case round =>
      obtain ⟨a, b, L, hab, hbn, rfl, rfl, hrw, hmid, hbel⟩ := hrel
      by_cases hlt : b < ms.length
      · have hB : wr.cell? ⟨B, 0, none⟩ = some (.int .i64 i) := (World.cell?_of_block (w := w) (a := ⟨B, 0, none⟩) (hbel.out.block B HBH.out)).trans HB.out
        obtain ⟨x, hx⟩ : ∃ x, x = atM ms b := ⟨_, rfl⟩
        have hLx : atM L b = x := by rw [hx]; exact hmid.out.2.2 b (Nat.le_refl _)
        have h0 : wr.cell? ⟨h, b * 4, none⟩ = some (.int .i64 x.ln) := by rw [← hLx]; exact hrw.cell (f := 0) hlt (by omega)
        have h1 : wr.cell? ⟨h, b * 4 + 1, none⟩ = some (.int .i64 x.ep) := by rw [← hLx]; exact hrw.cell (f := 1) hlt (by omega)
        have h2 : wr.cell? ⟨h, b * 4 + 2, none⟩ = some (.int .i64 x.n) := by rw [← hLx]; exact hrw.cell (f := 2) hlt (by omega)
        have h3 : wr.cell? ⟨h, b * 4 + 3, none⟩ = some (.int .u64 x.pay) := by rw [← hLx]; exact hrw.cell (f := 3) hlt (by omega)
        have HX : Hid (x = atM ms b) := hx
        have HW : Hid (Rw wr h 44 ms.length 4 (encMs L)) := hrw
        obtain ⟨k4, b4, s4⟩ := alloc1 wr [.int .i64 x.ln, .int .i64 x.ep, .int .i64 x.n, .int .u64 x.pay] 44
        have K4 : Hid (Blk _ _ _ _) := k4
        have B4 : Hid (Below _ _ _) := b4
        have hc := reset1_any x B i _ ((b4.cell (p := ⟨B, 0, none⟩) (cell_lt hB)).trans hB)
        have hwl := hrw.lt
        clear hx hLx hrw k4 b4 s4 hB
        cases hq : (x.ln == i)
        · rw [hq] at hc
          have HM2 : Hid (Mid ms (L.set a x) i (a + 1) (b + 1)) := by
            have := hmid.out.keep hab hlt (by rw [← HX.out]; exact hq)
            rwa [← HX.out] at this
          clear hq
          go_wp2_with fail
          generalize wr.alloc (.cells #[.int .i64 x.ln, .int .i64 x.ep, .int .i64 x.n, .int .u64 x.pay] 44) = w4 at *
          refine hc.mono ?_
          rintro e w5 ⟨rfl, hb5⟩
          have HW5 : Hid (Rw w5 h 44 ms.length 4 (encMs L)) := (HW.out.below B4.out).below hb5
          obtain ⟨y0, y1, y2, y3⟩ := (K4.out.below hb5).bx.four
          have a0 : w5.cell? ⟨h, a * 4, none⟩ = _ := HW5.out.cell (j := a) (f := 0) (by omega) (by omega)
          have a1 := HW5.out.cell (j := a) (f := 1) (by omega) (by omega)
          have a2 := HW5.out.cell (j := a) (f := 2) (by omega) (by omega)
          have a3 := HW5.out.cell (j := a) (f := 3) (by omega) (by omega)
          have a4 := HW5.out.fz
          have HB5 : Hid (Below h w w5) := (hbel.out.trans (B4.out.mono (Nat.le_of_lt hwl))).trans (hb5.mono (Nat.le_trans (Nat.le_of_lt hwl) B4.out.size))
          have j1 : (0 : Int) ≤ (a : Int) := by omega
          have j2 : (a : Int) < (ms.length : Int) := by omega
          clear hb5 h0 h1 h2 h3
          go_wp2_with fail
          refine ⟨⟨a + 1, b + 1, L.set a x, by omega, by omega, by go_num, by go_num, ?_, HM2.out, ?_⟩, by simp [intOf]; omega⟩
          · exact HW5.out.setM hmid.out.1 (by omega)
          · exact (((HB5.out.setCell (Nat.le_refl _) _).setCell (Nat.le_refl _) _).setCell (Nat.le_refl _) _).setCell (Nat.le_refl _) _
        · rw [hq] at hc
          have HM2 : Hid (Mid ms L i a (b + 1)) := hmid.out.drop hlt (by rw [← HX.out]; exact hq)
          clear hq
          go_wp2_with fail
          generalize wr.alloc (.cells #[.int .i64 x.ln, .int .i64 x.ep, .int .i64 x.n, .int .u64 x.pay] 44) = w4 at *
          refine hc.mono ?_
          rintro e w5 ⟨rfl, hb5⟩
          have HW5 : Hid (Rw w5 h 44 ms.length 4 (encMs L)) := (HW.out.below B4.out).below hb5
          have HB5 : Hid (Below h w w5) := (hbel.out.trans (B4.out.mono (Nat.le_of_lt hwl))).trans (hb5.mono (Nat.le_trans (Nat.le_of_lt hwl) B4.out.size))
          clear hb5 h0 h1 h2 h3
          go_wp2_with fail
          exact ⟨⟨a, b + 1, L, by omega, by omega, rfl, by go_num, HW5.out, HM2.out, HB5.out⟩, by simp [intOf]; omega⟩
      · obtain rfl : b = ms.length := by omega
        obtain ⟨W, hrun, hcell, hbW, hsW⟩ := clear_rw (ty := 0) (cap := ms.length - a) eltM (zeroM wr) (by simp [Value.cells, Value.oneCell']) hrw hab
        have j1 : (0 : Int) ≤ (a : Int) := by omega
        have j2 : (a : Int) ≤ (ms.length : Int) := by omega
        have j3 : ¬ ms.length - a = 0 := by omega
        have j4 : ¬ a = ms.length := by omega
        have j5 : a ≤ ms.length := by omega
        have HCE : Hid (∀ j, j < a → ∀ f, f < 4 → W.cell? ⟨h, j * 4 + f, none⟩ = some (encMs L j f)) := hcell
        have HBW : Hid (Below h w W) := hbel.out.trans (hbW h (Nat.le_refl _))
        have HF : Hid ((ms.filter (keepI i)).length = a ∧ ∀ j, j < a → atM (ms.filter (keepI i)) j = atM L j) := by
          have h2 := hmid.out.2.1
          rw [List.take_length] at h2
          rw [← h2]
          have h1 := hmid.out.1
          exact ⟨by rw [List.length_take]; omega, fun j hj => by simp [atM, List.getElem?_take_of_lt hj]⟩
        clear hcell hbW hsW hrw
        go_wp2_with (at_builtin; refine wpList_clear_run rfl _ _ rfl _ _ rfl hrun ?_)
        go_ret
        refine ⟨a, ms.length, rfl, ?_, HBW.out⟩
        rw [HF.out.1]
        refine ⟨_, _, rfl, j5, (fun e => by cases e), fun j hj => ⟨h, 0, rfl, fun f hf => ?_⟩⟩
        rw [Nat.zero_add, HCE.out j hj f hf]
        show some (encM (atM L j) f) = some (encM (atM (ms.filter (keepI i)) j) f)
        rw [HF.out.2 j hj]

end Go.Proofs.Ytkgehbonijpdnaa
