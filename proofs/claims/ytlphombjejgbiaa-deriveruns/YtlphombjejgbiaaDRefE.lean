/- The document's Prune, Cut, Under. -/
import Derived.Test.YtlphombjejgbiaaDRefA
namespace Go.Proofs.Ytlphombjejgbiaa
open Go.RowKit Go.Sort
set_option maxRecDepth 100000

/-- what is told behind i entries -/
def bpre (L : List Fe) (k i : Nat) : List Nat := (kids (L.take i) k).flatMap fun c => c :: blw L c
theorem bpre_0 (L : List Fe) (k : Nat) : bpre L k 0 = [] := by simp [bpre, kids]
theorem ftake_at {L : List Fe} {i : Nat} {e : Fe} (h : L[i]? = some e) : L.take (i + 1) = L.take i ++ [e] := by
  obtain ⟨hl, he⟩ := List.getElem?_eq_some_iff.1 h
  rw [List.take_succ_eq_append_getElem hl, he]
theorem bpre_yes {L : List Fe} {k i : Nat} {e : Fe} (h : L[i]? = some e) (hp : e.p = (k : Int)) : bpre L k (i + 1) = bpre L k i ++ e.n :: blw L e.n := by
  unfold bpre
  rw [ftake_at h, kids_app, List.flatMap_append]
  simp [kids, hp]
theorem bpre_no {L : List Fe} {k i : Nat} {e : Fe} (h : L[i]? = some e) (hp : ¬ e.p = (k : Int)) : bpre L k (i + 1) = bpre L k i := by
  unfold bpre
  rw [ftake_at h, kids_app, List.flatMap_append]
  simp [kids, hp]
theorem bpre_end {N : Nat} {L : List Fe} (h : Fok N L) (k : Nat) : bpre L k L.length = blw L k := by
  unfold bpre
  rw [List.take_length, blw_eq h]
theorem bpre_len {N : Nat} {L : List Fe} (h : Fok N L) (k i : Nat) : (bpre L k i).length ≤ N := by
  refine Nat.le_trans ?_ (blw_len h k)
  rw [← bpre_end h]
  unfold bpre
  rw [List.take_length]
  have : kids L k = kids (L.take i) k ++ kids (L.drop i) k := by rw [← kids_app, List.take_append_drop]
  rw [this, List.flatMap_append, List.length_append]
  omega
theorem belT_node {N : Nat} {L : List Fe} (h : Fok N L) {e : Fe} (he : e ∈ L) : belT N L (e.n : Int) = blw L e.n := by
  unfold belT
  rw [(par_at h he).1, if_pos rfl, Int.toNat_natCast]
set_option maxHeartbeats 4000000 in
theorem rbelow12_step (w : World) (r : Nat) (rv : Value) (N : Nat) (L : List Fe) (x : Rf w r rv N L) (k : Nat) (hk : k ∈ nds L)
    (ih : ∀ e, e ∈ L → e.p = (k : Int) → ∀ W, Below w.heap.size w W → Calls Try.prog 11 #[.pointer (some ⟨r, 0, none⟩), .int .i64 (e.n : Int)] W fun e' w' => ∃ v, e' = .returned v ∧ w'.ownsRow W.heap.size 3 1 v (blw L e.n).length (encL (blw L e.n)) ∧ Below W.heap.size W w') :
    Calls Try.prog 11 #[.pointer (some ⟨r, 0, none⟩), .int .i64 (k : Int)] w fun e w' => ∃ v, e = .returned v ∧ w'.ownsRow w.heap.size 3 1 v (blw L k).length (encL (blw L k)) ∧ Below w.heap.size w w' := by
  have hh := rhas12 x (k : Int)
  have hlt := x.ok.lt k hk
  rw [show hasF N L (k : Int) = true by simp [hasF, inR_iff.2 (⟨by omega, by omega⟩ : 0 ≤ (k : Int) ∧ (k : Int) < N), hk]] at hh
  have hlen : L.length ≤ 1024 := Nat.le_trans x.ok.len x.hN
  obtain ⟨av, cv, hv⟩ := x.form
  subst hv
  have HX : Hid (Rf w r (.slice av L.length cv) N L) := x
  have HI : Hid (∀ e, e ∈ L → e.p = (k : Int) → ∀ W, Below w.heap.size w W → Calls Try.prog 11 #[.pointer (some ⟨r, 0, none⟩), .int .i64 (e.n : Int)] W fun e' w' => ∃ v, e' = .returned v ∧ w'.ownsRow W.heap.size 3 1 v (blw L e.n).length (encL (blw L e.n)) ∧ Below W.heap.size W w') := ih
  have HE : Hid (bpre L k L.length = blw L k) := bpre_end x.ok k
  have HL : Hid (∀ i, (bpre L k i).length ≤ 1024) := fun i => Nat.le_trans (bpre_len x.ok k i) x.hN
  have c1 := x.c1
  clear x ih hlt hk
  generalize hM : L.length = M at *
  go_enter Try.func11, Try.ntmps11
  go_wp2_with fail
  refine hh.mono ?_
  rintro e w1 ⟨rfl, rfl⟩
  clear hh
  go_wp2_with fail
  go_loopw [5, 6] (fun vo vi wr => ∃ (i : Nat) (v : Value), i ≤ M ∧ vi = .int .i64 i ∧ vo = v ∧ Hid (wr.ownsRow w1.heap.size 3 1 v (bpre L k i).length (encL (bpre L k i)) ∧ Below w1.heap.size w1 wr)) (fun _ vi _ => M - (intOf vi).toNat)
  case atStart => exact ⟨0, _, Nat.zero_le _, rfl, rfl, by rw [bpre_0]; exact World.ownsRow_nil _ _ _ _, Below.refl _ _⟩
  case round =>
    obtain ⟨i, v, hi, rfl, rfl, HR⟩ := hrel
    obtain ⟨va, vcap, hvf, hv1, hv2⟩ := fown_form HR.out.1
    subst hvf
    clear hv1 hv2
    by_cases hlt : i < M
    · obtain ⟨m, hm⟩ : ∃ m, L[i]? = some m := ⟨L[i]'(by omega), List.getElem?_eq_getElem (by omega)⟩
      obtain ⟨g, rfl, m0, m1⟩ := HX.out.at_ hM.symm hm
      have xr := HX.out.below HR.out.2
      obtain ⟨g', hg', n0, n1⟩ := xr.at_ hM.symm hm
      obtain rfl : g = g' := by cases hg'; rfl
      have d1 := xr.c1
      clear hg' xr
      by_cases he : m.p = (k : Int)
      · have hE := bpre_yes hm he
        have HC : Hid (∀ W, Below w1.heap.size w1 W → Calls Try.prog 11 #[.pointer (some ⟨r, 0, none⟩), .int .i64 (m.n : Int)] W fun e' w' => ∃ v, e' = .returned v ∧ w'.ownsRow W.heap.size 3 1 v (blw L m.n).length (encL (blw L m.n)) ∧ Below W.heap.size W w') := HI.out m (List.mem_of_getElem? hm) he
        have HLs : Hid ((bpre L k i).length + 1 + (blw L m.n).length ≤ 100000) := by
          show _ ≤ _
          have := HL.out (i + 1)
          rw [hE] at this
          simp at this
          omega
        have HEs : Hid (bpre L k (i + 1) = bpre L k i ++ m.n :: blw L m.n) := hE
        rw [he] at n1
        clear hE hm he m1 n0
        generalize m.n = c at *
        go_wp2_with fail
        refine bel_region (w0 := w1) (r := r) (g := g) (N := M) (cv := cv) (i := i) (c := c) (V1 := .slice va (bpre L k i).length vcap) (T1 := bpre L k i) (T2 := blw L c) rfl rfl (by kernel_rfl) (by kernel_rfl) (by kernel_rfl) rfl rfl rfl rfl rfl rfl rfl rfl rfl rfl rfl rfl rfl rfl rfl rfl rfl rfl rfl rfl rfl rfl rfl rfl rfl rfl rfl rfl rfl rfl rfl rfl rfl rfl rfl rfl rfl rfl rfl rfl rfl rfl rfl rfl rfl rfl rfl rfl rfl rfl rfl rfl rfl rfl rfl hlt c1 m0 HR.out.1 HLs.out HR.out.2 HC.out (by kernel_rfl) (by kernel_rfl) (by kernel_rfl) (by kernel_rfl) (by kernel_rfl) (by kernel_rfl) (fun _ _ d _ _ h => by cases d <;> exact h) ?_
        intro vA vB vC vD W9 hown9 hb9
        simp only [Act.put, List.setIfInBounds_toArray, List.set_cons_zero, List.set_cons_succ]
        have HR2 : Hid (W9.ownsRow w1.heap.size 3 1 vD (bpre L k (i + 1)).length (encL (bpre L k (i + 1))) ∧ Below w1.heap.size w1 W9) := by
          refine ⟨?_, hb9⟩
          rw [HEs.out, List.length_append, List.length_cons, show (bpre L k i).length + ((blw L c).length + 1) = (bpre L k i).length + 1 + (blw L c).length by omega]
          exact hown9
        clear hown9 hb9 n1 d1 m0 HC HLs HEs HR
        obtain ⟨vDa, vDc, rfl, hx1, hx2⟩ := fown_form HR2.out.1
        clear hx1 hx2
        generalize hbl : (bpre L k (i + 1)).length = bl at *
        have HBL : Hid ((bpre L k (i + 1)).length = bl) := hbl
        clear hbl
        go_wp2_with fail
        go_roundw
        case rel => exact ⟨i + 1, _, by omega, by go_num, rfl, by rw [HBL.out]; exact HR2⟩
        case measure => simp [intOf]; omega
      · have hE : Hid (bpre L k (i + 1) = bpre L k i) := bpre_no hm he
        have HR2 : Hid (wr.ownsRow w1.heap.size 3 1 (.slice va (bpre L k i).length vcap) (bpre L k (i + 1)).length (encL (bpre L k (i + 1))) ∧ Below w1.heap.size w1 wr) := by
          rw [hE.out]; exact HR.out
        have he2 : (m.p == (k : Int)) = false := by simp [he]
        clear hE hm m0 m1 n0
        generalize m.p = mp at *
        generalize (bpre L k i).length = bl at *
        go_wp2_with fail
        go_roundw
        case rel => exact ⟨i + 1, _, by omega, by go_num, rfl, HR2⟩
        case measure => simp [intOf]; omega
    · obtain rfl : i = M := by omega
      have HF : Hid (wr.ownsRow w1.heap.size 3 1 (.slice va (bpre L k i).length vcap) (blw L k).length (encL (blw L k)) ∧ Below w1.heap.size w1 wr) := by
        rw [← HE.out]; exact HR.out
      have d1 := (HX.out.below HR.out.2).c1
      generalize (bpre L k i).length = bl at *
      go_wp2_with fail
      go_ret
      exact ⟨_, rfl, HF.out⟩
theorem rbelow12_in (r : Nat) (N : Nat) (L : List Fe) : ∀ f k, hgt L k < f → k ∈ nds L → ∀ (w : World) (rv : Value), Rf w r rv N L →
    Calls Try.prog 11 #[.pointer (some ⟨r, 0, none⟩), .int .i64 (k : Int)] w fun e w' => ∃ v, e = .returned v ∧ w'.ownsRow w.heap.size 3 1 v (blw L k).length (encL (blw L k)) ∧ Below w.heap.size w w' := by
  intro f
  induction f with
  | zero => intro k hk; omega
  | succ f ih =>
    intro k hk hm w rv x
    refine rbelow12_step w r rv N L x k hm fun e he hp W hW => ?_
    have hc : e.n ∈ kids L k := mem_kids.2 ⟨e, he, hp, rfl⟩
    have := hgt_kid x.ok hc
    exact ih e.n (by omega) (x.ok.kid_in hc) W rv (x.below hW)
section
variable {w : World} {r : Nat} {rv : Value} {N : Nat} {L : List Fe}
theorem rbelow12 (x : Rf w r rv N L) (n : Int) : Calls Try.prog 11 #[.pointer (some ⟨r, 0, none⟩), .int .i64 n] w fun e w' => ∃ v, e = .returned v ∧ w'.ownsRow w.heap.size 3 1 v (belT N L n).length (encL (belT N L n)) ∧ Below w.heap.size w w' := by
  have hh := rhas12 x n
  cases hb : hasF N L n
  · rw [hb] at hh
    rw [show belT N L n = [] by simp [belT, hb]]
    clear x hb
    go_enter Try.func11, Try.ntmps11
    go_wp2_with fail
    refine hh.mono ?_
    rintro e w1 ⟨rfl, rfl⟩
    go_wp2_with fail
    go_ret
    exact ⟨_, rfl, World.ownsRow_nil _ _ _ _, Below.refl _ _⟩
  · have e1 : belT N L n = blw L n.toNat := by simp [belT, hb]
    unfold hasF at hb
    rw [Bool.and_eq_true] at hb
    obtain ⟨h1, h2⟩ := inR_iff.1 hb.1
    obtain ⟨k, rfl⟩ : ∃ k : Nat, n = (k : Int) := ⟨n.toNat, by omega⟩
    rw [Int.toNat_natCast] at e1 hb
    rw [e1]
    exact rbelow12_in r N L (hgt L k + 1) k (by omega) (by simpa using hb.2) w rv x
end
end Go.Proofs.Ytlphombjejgbiaa
namespace Go.Proofs.Ytlphombjejgbiaa
open Go.RowKit Go.Sort Go.Shelf
set_option maxRecDepth 100000

theorem wout_take {L : List Fe} {G : List Nat} {i : Nat} {e : Fe} (h : L[i]? = some e) : wout (L.take (i + 1)) G = if e.n ∈ G then wout (L.take i) G else wout (L.take i) G ++ [e] := by
  rw [ftake_at h]
  by_cases hg : e.n ∈ G <;> simp [wout, hg]
theorem keep_step (n : Nat) (T : List Nat) (y : Nat) : (!decide (n ∈ T) && decide (¬ (y : Int) = (n : Int))) = !decide (n ∈ T ++ [y]) := by
  by_cases h3 : y = n
  · subst h3; simp
  · have h4 : ¬ (y : Int) = (n : Int) := by omega
    have h5 : ¬ n = y := fun e => h3 e.symm
    simp [h4, h5]
section
variable {w : World} {r : Nat} {rv : Value} {N : Nat} {L : List Fe}
set_option maxHeartbeats 4000000 in
theorem rdrop12 (x : Rf w r rv N L) (G : List Nat) (hG : Fok N (wout L G)) (ad : Option Addr) (cap : Nat) (hc : Cells w .i64 ad G.length (atL G)) (hlg : G.length ≤ 100000) :
    Calls Try.prog 64 #[.pointer (some ⟨r, 0, none⟩), .slice ad G.length cap] w fun e w' => e = .returned (.tuple #[]) ∧ RfGo w r rv w' N (wout L G) := by
  have hlen : L.length ≤ 1024 := Nat.le_trans x.ok.len x.hN
  obtain ⟨av, cv, hv⟩ := x.form
  subst hv
  have HX : Hid (Rf w r (.slice av L.length cv) N L ∧ Fok N (wout L G)) := ⟨x, hG⟩
  have HC : Hid (Cells w .i64 ad G.length (atL G)) := hc
  have c1 := x.c1
  have fz := x.fz 1
  have hr := x.lt
  clear x hG hc
  obtain ⟨M, hM⟩ : ∃ M, L.length = M := ⟨_, rfl⟩
  obtain ⟨MG, hMG⟩ : ∃ M, G.length = M := ⟨_, rfl⟩
  rw [hM] at c1 hlen
  rw [hMG] at HC hlg ⊢
  rw [hM] at HX ⊢
  have HMM : Hid (L.length = M ∧ G.length = MG) := ⟨hM, hMG⟩
  clear hM hMG
  go_enter Try.func64, Try.ntmps64
  go_wp2_with fail
  go_loopw [4, 5] (fun vl vi wr => ∃ (i : Nat) (v : Value), i ≤ M ∧ vi = .int .i64 i ∧ vl = v ∧ Hid (wr.ownsRow w.heap.size 81 2 v (wout (L.take i) G).length (encF (wout (L.take i) G)) ∧ Below w.heap.size w wr)) (fun _ vi _ => M - (intOf vi).toNat)
  case atStart => exact ⟨0, _, Nat.zero_le _, rfl, rfl, World.ownsRow_nil _ _ _ _, Below.refl _ _⟩
  case round =>
    obtain ⟨i, v, hi, rfl, rfl, HR⟩ := hrel
    obtain ⟨va, vcap, hvf, hv1, hv2⟩ := fown_form HR.out.1
    subst hvf
    clear hv1 hv2
    have d1 := (HX.out.1.below HR.out.2).c1
    by_cases hlt : i < M
    · obtain ⟨m, hm⟩ : ∃ m, L[i]? = some m := ⟨L[i]'(by have := HMM.out.1; omega), List.getElem?_eq_getElem (by have := HMM.out.1; omega)⟩
      obtain ⟨g, rfl, _⟩ := HX.out.1.at_ HMM.out.1.symm hm
      have HM : Hid (L[i]? = some m) := hm
      clear hm
      go_wp2_with fail
      obtain ⟨wx, hwx⟩ : ∃ x, x = wr := ⟨wr, rfl⟩
      subst hwx
      clear d1
      go_loopw [6, 7] (fun vb vk wr => ∃ (j : Nat) (b : Bool), j ≤ MG ∧ vk = .int .i64 j ∧ vb = .bool b ∧ Hid (b = !decide (m.n ∈ G.take j)) ∧ Hid (Below wx.heap.size wx wr)) (fun _ vk _ => MG - (intOf vk).toNat)
      case atStart => exact ⟨0, true, Nat.zero_le _, rfl, rfl, by show _ = _; simp, Below.refl _ _⟩
      case round =>
        obtain ⟨j, b, hj, rfl, rfl, HB, HW⟩ := hrel
        by_cases hjl : j < MG
        · obtain ⟨b1, o1, hb1, hg1⟩ := HC.out j hjl
          subst hb1
          have xw := HX.out.1.below (Below.onto HR.out.2 HW.out)
          have d1 := xw.c1
          obtain ⟨g', hg', n0, n1⟩ := xw.at_ HMM.out.1.symm HM.out
          obtain rfl : g = g' := by cases hg'; rfl
          have g1 := ((Below.onto HR.out.2 HW.out).cell (p := ⟨b1, o1 + j, none⟩) (cell_lt hg1)).trans hg1
          clear hg' xw n1 hg1
          have HB2 : Hid ((b && decide (¬ atL G j = m.n)) = !decide (m.n ∈ G.take (j + 1))) := by
            show _ = _
            have h1 := HB.out
            rw [take_at (G := G) (j := j) (by have := HMM.out.2; omega), h1]
            show (!decide (m.n ∈ G.take j) && decide (¬ ((G.getD j 0 : Nat) : Int) = m.n)) = _
            exact keep_step _ _ _
          have r0 := cell_regrown d1
          have r1 := cell_regrown n0
          have r2 := cell_regrown g1
          clear d1 n0 g1 HB
          generalize atL G j = gj at *
          obtain ⟨mn, hmn⟩ : ∃ mn : Int, (m.n : Int) = mn := ⟨_, rfl⟩
          rw [hmn] at r1 HB2
          have HMN : Hid ((m.n : Int) = mn) := hmn
          clear hmn
          have i1 : (0 : Int) ≤ (j : Int) := by omega
          have i2 : (j : Int) < (MG : Int) := by omega
          have i3 : (0 : Int) ≤ (i : Int) := by omega
          have i4 : (i : Int) < (M : Int) := by omega
          cases b
          · go_wp2_with fail
            refine wp_region_quiet_below (by kernel_rfl) (by kernel_rfl) ?_
            repeat (go_big_quiet_step (fail))
            refine wpQuiet_nil ?_
            intro _ hw'
            obtain ⟨⟨dq, osq⟩, hw''⟩ := hw'
            subst hw''
            have HW3 : Hid (Below wx.heap.size wx (grow (redrawn wr dq) osq)) := Below.onto HW.out (below_regrown wr dq osq)
            clear r0 r1 r2
            generalize grow (redrawn wr dq) osq = w3 at *
            go_wp2_with fail
            go_roundw
            case rel => exact ⟨j + 1, false, by omega, by go_num, rfl, HB2, HW3⟩
            case measure => simp [intOf]; omega
          · by_cases hne : gj = mn
            · have hne2 : (gj != mn) = false := by simp [hne]
              have HB3 : Hid (false = !decide (m.n ∈ G.take (j + 1))) := by
                show _ = _
                rw [← HB2.out]; simp [hne]
              clear hne
              go_wp2_with fail
              refine wp_region_quiet_below (by kernel_rfl) (by kernel_rfl) ?_
              repeat (go_big_quiet_step (fail))
              refine wpQuiet_nil ?_
              intro _ hw'
              obtain ⟨⟨dq, osq⟩, hw''⟩ := hw'
              subst hw''
              have HW3 : Hid (Below wx.heap.size wx (grow (redrawn wr dq) osq)) := Below.onto HW.out (below_regrown wr dq osq)
              clear r0 r1 r2
              generalize grow (redrawn wr dq) osq = w3 at *
              go_wp2_with fail
              go_roundw
              case rel => exact ⟨j + 1, false, by omega, by go_num, rfl, HB3, HW3⟩
              case measure => simp [intOf]; omega
            · have hne2 : (gj != mn) = true := by simp [hne]
              have HB3 : Hid (true = !decide (m.n ∈ G.take (j + 1))) := by
                show _ = _
                rw [← HB2.out]; simp [hne]
              go_wp2_with fail
              refine wp_region_quiet_below (by kernel_rfl) (by kernel_rfl) ?_
              repeat (go_big_quiet_step (fail))
              refine wpQuiet_nil ?_
              intro _ hw'
              obtain ⟨⟨dq, osq⟩, hw''⟩ := hw'
              subst hw''
              have HW3 : Hid (Below wx.heap.size wx (grow (redrawn wr dq) osq)) := Below.onto HW.out (below_regrown wr dq osq)
              clear r0 r1 r2
              generalize grow (redrawn wr dq) osq = w3 at *
              go_wp2_with fail
              go_roundw
              case rel => exact ⟨j + 1, true, by omega, by go_num, rfl, HB3, HW3⟩
              case measure => simp [intOf]; omega
        · obtain rfl : j = MG := by omega
          have xw := HX.out.1.below (Below.onto HR.out.2 HW.out)
          have d1 := xw.c1
          obtain ⟨g', hg', n0, n1⟩ := xw.at_ HMM.out.1.symm HM.out
          obtain rfl : g = g' := by cases hg'; rfl
          clear hg' xw
          have hb : b = !decide (m.n ∈ G) := by
            have := HB.out
            rwa [show G.take j = G by rw [← HMM.out.2, List.take_length]] at this
          have HRw : Hid (wr.ownsRow w.heap.size 81 2 (.slice va (wout (L.take i) G).length vcap) (wout (L.take i) G).length (encF (wout (L.take i) G)) ∧ Below w.heap.size w wr) := ⟨down_stay HR.out.1 HW.out, Below.onto HR.out.2 HW.out⟩
          by_cases hg : m.n ∈ G
          · obtain rfl : b = false := by simp [hb, hg]
            have HE : Hid (wr.ownsRow w.heap.size 81 2 (.slice va (wout (L.take i) G).length vcap) (wout (L.take (i + 1)) G).length (encF (wout (L.take (i + 1)) G)) ∧ Below w.heap.size w wr) := by
              rw [wout_take HM.out, if_pos hg]
              exact HRw.out
            clear hb hg n0 n1
            generalize (wout (L.take i) G).length = bl at *
            go_wp2_with fail
            go_roundw
            case rel => exact ⟨i + 1, _, by omega, by go_num, rfl, HE⟩
            case measure => simp [intOf]; omega
          · obtain rfl : b = true := by simp [hb, hg]
            have hwl : (wout (L.take i) G).length ≤ 1024 := by
              have h1 := List.length_filter_le (fun e : Fe => !decide (e.n ∈ G)) (L.take i)
              have h2 := List.length_take_le i L
              unfold wout
              omega
            have hb4 : Below wr.heap.size wr (wr.alloc (.cells #[.int .i64 (m.n : Int), .int .i64 m.p] 81)) := (Below.refl _ wr).alloc (Nat.le_refl _) _
            have sr : Src (wr.alloc (.cells #[.int .i64 (m.n : Int), .int .i64 m.p] 81)) (.slice (some ⟨wr.heap.size, 0, none⟩) 1 1) 1 [.int .i64 (m.n : Int), .int .i64 m.p] := gsrc_own (gown_1 wr 0 81 2 [.int .i64 (m.n : Int), .int .i64 m.p] rfl (Nat.zero_le _))
            have hbb := Below.onto HRw.out.2 hb4
            obtain ⟨v2, w4, hr2, ow2, gr2⟩ := fappend_src eltEn 70 w.heap.size _ _ _ 1 _ [.int .i64 (m.n : Int), .int .i64 m.p] (down_stay HRw.out.1 hb4) sr rfl (by simp [Value.oneCell']) (by omega) hbb.size
            have hB9 := gown_below hbb hbb.size (down_stay HRw.out.1 hb4) gr2
            have HE : Hid (w4.ownsRow w.heap.size 81 2 v2 (wout (L.take (i + 1)) G).length (encF (wout (L.take (i + 1)) G)) ∧ Below w.heap.size w w4) := by
              rw [wout_take HM.out, if_neg hg, List.length_append, encF_app]
              exact ⟨ow2, hB9⟩
            obtain ⟨va2, vcap2, rfl, hx1, hx2⟩ := fown_form HE.out.1
            clear hx1 hx2 ow2 gr2 hB9 hbb sr hb4 hwl hb hg
            generalize (wout (L.take i) G).length = bl at *
            generalize hbl : (wout (L.take (i + 1)) G).length = bl2 at *
            have HBL : Hid ((wout (L.take (i + 1)) G).length = bl2) := hbl
            clear hbl
            generalize (m.n : Int) = mn at *
            generalize m.p = mp at *
            go_wp2_with (at_builtin; refine wpList_append_run rfl _ _ _ rfl _ _ _ rfl rfl hr2 ?_)
            go_roundw
            case rel => exact ⟨i + 1, _, by omega, by go_num, rfl, by rw [HBL.out]; exact HE⟩
            case measure => simp [intOf]; omega
    · obtain rfl : i = M := by omega
      have HF : Hid (RfGo w r (.slice av i cv) (wr.setCell ⟨r, 1, none⟩ (.slice va (wout (L.take i) G).length vcap)) N (wout L G)) := by
        refine HX.out.1.store HR.out.2 ?_ HX.out.2 rfl
        have := HR.out.1
        rw [show L.take i = L by rw [← HMM.out.1, List.take_length]] at this ⊢
        exact this
      have f1 : wr.frozen? ⟨r, 1, none⟩ = false := (HX.out.1.below HR.out.2).fz 1
      generalize (wout (L.take i) G).length = bl at *
      go_wp2_with fail
      exact bodyPost_end (results_none rfl _ _ _) rfl ⟨rfl, HF.out⟩
end
end Go.Proofs.Ytlphombjejgbiaa
namespace Go.Proofs.Ytlphombjejgbiaa
open Go.RowKit Go.Sort Go.Shelf
set_option maxRecDepth 100000

section
variable {w : World} {r : Nat} {rv : Value} {N : Nat} {L : List Fe}
theorem cast_beq (k m : Nat) : ((k : Int) == (m : Int)) = decide (k = m) := by
  by_cases e : k = m
  · subst e; simp
  · simp [e]; omega
/-- a row of one's own behind a call on the forest -/
theorem rf_keep {W W' : World} {B : Nat} {v : Value} {n : Nat} {xs : List Value} (h : W.ownsRow B 3 1 v n xs) (hb : But (fun b => b = r) W W') (hr : r < B) : W'.ownsRow B 3 1 v n xs :=
  fown_same h fun b hv => hb.block b (fown_lt h hv).2 (fun e => by have e' : b = r := e; have := (fown_lt h hv).1; omega)
theorem ask_bel {N : Nat} {L : List Fe} {n : Int} (h : askE N L n = 0) : belT N L n = blw L n.toNat ∧ hasF N L n = true ∧ pruT N L n = blw L n.toNat ∧ cutT N L n = n.toNat :: blw L n.toNat ∧ 0 ≤ n := by
  have h2 : hasF N L n = true := by
    unfold askE at h
    unfold hasF
    cases h1 : inR N n
    · rw [h1] at h; simp at h
    · rw [h1] at h
      by_cases h3 : n.toNat ∈ nds L
      · simp [h3]
      · simp [h3] at h
  have h3 : 0 ≤ n := by
    unfold hasF at h2
    rw [Bool.and_eq_true] at h2
    exact (inR_iff.1 h2.1).1
  exact ⟨by simp [belT, h2], h2, by simp [pruT, h], by simp [cutT, h], h3⟩
set_option maxHeartbeats 4000000 in
theorem rprune12 (x : Rf w r rv N L) (n : Int) : Calls Try.prog 29 #[.pointer (some ⟨r, 0, none⟩), .int .i64 n] w fun e w' => ∃ v, e = .returned (.tuple #[v, .int .i64 (askE N L n)]) ∧ w'.ownsRow w.heap.size 3 1 v (pruT N L n).length (encL (pruT N L n)) ∧ RfGo w r rv w' N (wout L (pruT N L n)) := by
  have ha := rasked12 x n
  have hok := x.ok.pru n
  by_cases h0 : askE N L n = 0
  · obtain ⟨e1, _, e2, _, _⟩ := ask_bel h0
    have hb := rbelow12 x n
    rw [e1] at hb
    rw [e2] at hok ⊢
    rw [h0] at ha ⊢
    have hlen : (blw L n.toNat).length ≤ 100000 := by have := blw_len x.ok n.toNat; have := x.hN; omega
    have HX : Hid (Rf w r rv N L ∧ Fok N (wout L (blw L n.toNat))) := ⟨x, hok⟩
    clear x h0 e1 e2 hok
    generalize blw L n.toNat = T at *
    go_enter Try.func29, Try.ntmps29
    go_wp2_with fail
    refine ha.mono ?_
    rintro e w1 ⟨rfl, rfl⟩
    go_wp2_with fail
    refine hb.mono ?_
    rintro e w2 ⟨v, rfl, hv, hB⟩
    obtain ⟨ad, cap, rfl, hc, hge⟩ := own_sep hv
    have hd := rdrop12 (HX.out.1.below hB) T HX.out.2 ad cap hc hlen
    have HV : Hid (w2.ownsRow w1.heap.size 3 1 (.slice ad T.length cap) T.length (encL T) ∧ Below w1.heap.size w1 w2) := ⟨hv, hB⟩
    clear hv hB hc hge ha hb
    generalize hTl : T.length = TL at *
    have HTL : Hid (T.length = TL) := hTl
    clear hTl
    go_wp2_with fail
    refine hd.mono ?_
    rintro e w3 ⟨rfl, hg⟩
    have HF : Hid (w3.ownsRow w1.heap.size 3 1 (.slice ad TL cap) T.length (encL T) ∧ RfGo w1 r rv w3 N (wout L T)) := by
      obtain ⟨rv', h1, h2, h3⟩ := hg
      refine ⟨rf_keep (by rw [HTL.out]; exact HV.out.1) h2 HX.out.1.lt, rv', h1, (But.of HV.out.2).trans h2, fun b hb => ?_⟩
      rcases h3 b hb with h4 | h4
      · exact .inl h4
      · exact .inr (Nat.le_trans HV.out.2.size h4)
    clear hd hg HV
    go_wp2_with fail
    go_ret2
    exact ⟨_, rfl, HF.out.1, HF.out.2⟩
  · have e2 : pruT N L n = [] := by simp [pruT, h0]
    rw [e2, wout_nil] at *
    have HX : Hid (RfGo w r rv w N L) := x.stay
    clear x hok e2
    generalize askE N L n = ea at *
    have h1 : (ea != 0) = true := by simp [h0]
    go_enter Try.func29, Try.ntmps29
    go_wp2_with fail
    refine ha.mono ?_
    rintro e w1 ⟨rfl, rfl⟩
    go_wp2_with fail
    go_ret2
    exact ⟨_, rfl, World.ownsRow_nil _ _ _ _, HX.out⟩
set_option maxHeartbeats 4000000 in
theorem rcut12 (x : Rf w r rv N L) (n : Int) : Calls Try.prog 28 #[.pointer (some ⟨r, 0, none⟩), .int .i64 n] w fun e w' => ∃ v, e = .returned (.tuple #[v, .int .i64 (askE N L n)]) ∧ w'.ownsRow w.heap.size 3 1 v (cutT N L n).length (encL (cutT N L n)) ∧ RfGo w r rv w' N (wout L (cutT N L n)) := by
  have ha := rasked12 x n
  have hok := x.ok.cut n
  by_cases h0 : askE N L n = 0
  · obtain ⟨e1, _, _, e2, h1⟩ := ask_bel h0
    obtain ⟨k, rfl⟩ : ∃ k : Nat, n = (k : Int) := ⟨n.toNat, by omega⟩
    rw [Int.toNat_natCast] at e1 e2
    have hb1 : Below w.heap.size w (w.alloc (.cells #[.int .i64 (k : Int)] 3)) := (Below.refl _ w).alloc (Nat.le_refl _) _
    have hb := rbelow12 (x.below hb1) (k : Int)
    rw [e1] at hb
    rw [e2] at hok ⊢
    rw [h0] at ha ⊢
    have hlen : (blw L k).length ≤ 1024 := by have := blw_len x.ok k; have := x.hN; omega
    have HX : Hid (Rf w r rv N L ∧ Fok N (wout L (k :: blw L k)) ∧ Below w.heap.size w (w.alloc (.cells #[.int .i64 (k : Int)] 3)) ∧ (w.alloc (.cells #[.int .i64 (k : Int)] 3)).ownsRow w.heap.size 3 1 (.slice (some ⟨w.heap.size, 0, none⟩) 1 1) 1 (encL [k])) := ⟨x, hok, hb1, dlit1 w k⟩
    clear x h0 e1 e2 hok hb1
    generalize blw L k = T at *
    go_enter Try.func28, Try.ntmps28
    go_wp2_with fail
    refine ha.mono ?_
    rintro e w1 ⟨rfl, rfl⟩
    go_wp2_with fail
    refine hb.mono ?_
    rintro e w2 ⟨v, rfl, hv, hB⟩
    have hB0 := Below.onto HX.out.2.2.1 hB
    obtain ⟨v3, w3, hr3, ow3, gr3⟩ := fappend_src eltBe 35 w1.heap.size _ v 1 T.length (encL [k]) (encL T) (down_stay HX.out.2.2.2 hB) (gsrc_own hv) (by simp [encL]) (encL_one T) (by omega) hB0.size
    have hB3 := gown_below hB0 hB0.size (down_stay HX.out.2.2.2 hB) gr3
    have ow3' : w3.ownsRow w1.heap.size 3 1 v3 (k :: T).length (encL (k :: T)) := by
      rw [List.length_cons, Nat.add_comm]; exact ow3
    obtain ⟨ad, cap, rfl, hc, hge⟩ := own_sep ow3'
    have hd := rdrop12 (HX.out.1.below hB3) (k :: T) HX.out.2.1 ad cap hc (by simp; omega)
    have HV : Hid (w3.ownsRow w1.heap.size 3 1 (.slice ad (k :: T).length cap) (k :: T).length (encL (k :: T)) ∧ Below w1.heap.size w1 w3) := ⟨ow3', hB3⟩
    obtain ⟨va, vcap, rfl, hx1, hx2⟩ := fown_form hv
    clear hx1 hx2 hv hB hc hge ha hb hB0 ow3 gr3 hB3 ow3'
    generalize hTl : (k :: T).length = TL at *
    have HTL : Hid ((k :: T).length = TL) := hTl
    clear hTl
    go_wp2_with (at_builtin; refine wpList_append_run rfl _ _ _ rfl _ _ _ rfl rfl hr3 ?_)
    refine hd.mono ?_
    rintro e w4 ⟨rfl, hg⟩
    have HF : Hid (w4.ownsRow w1.heap.size 3 1 (.slice ad TL cap) (k :: T).length (encL (k :: T)) ∧ RfGo w1 r rv w4 N (wout L (k :: T))) := by
      obtain ⟨rv', h1, h2, h3⟩ := hg
      refine ⟨rf_keep (by rw [HTL.out]; exact HV.out.1) h2 HX.out.1.lt, rv', h1, (But.of HV.out.2).trans h2, fun b hb => ?_⟩
      rcases h3 b hb with h4 | h4
      · exact .inl h4
      · exact .inr (Nat.le_trans HV.out.2.size h4)
    clear hd hg HV hr3
    go_wp2_with fail
    go_ret2
    exact ⟨_, rfl, HF.out.1, HF.out.2⟩
  · have e2 : cutT N L n = [] := by simp [cutT, h0]
    rw [e2, wout_nil] at *
    have HX : Hid (RfGo w r rv w N L) := x.stay
    clear x hok e2
    generalize askE N L n = ea at *
    have h1 : (ea != 0) = true := by simp [h0]
    go_enter Try.func28, Try.ntmps28
    go_wp2_with fail
    refine ha.mono ?_
    rintro e w1 ⟨rfl, rfl⟩
    go_wp2_with fail
    go_ret2
    exact ⟨_, rfl, World.ownsRow_nil _ _ _ _, HX.out⟩
set_option maxHeartbeats 4000000 in
theorem runder12 (x : Rf w r rv N L) (n q : Int) : Calls Try.prog 37 #[.pointer (some ⟨r, 0, none⟩), .int .i64 n, .int .i64 q] w fun e w' => e = .returned (.bool (undI N L n q)) ∧ Below w.heap.size w w' := by
  have h1 := rhas12 x n
  have h2 := rhas12 x q
  have hb := rbelow12 x q
  unfold undI
  cases e1 : hasF N L n
  · rw [e1] at h1
    clear x h2 hb e1
    go_enter Try.func37, Try.ntmps37
    go_wp2_with fail
    refine h1.mono ?_
    rintro e w1 ⟨rfl, rfl⟩
    go_wp2_with fail
    go_ret
    exact ⟨rfl, Below.refl _ _⟩
  · rw [e1] at h1
    cases e2 : hasF N L q
    · rw [e2] at h2
      clear x hb e1 e2
      go_enter Try.func37, Try.ntmps37
      go_wp2_with fail
      refine h1.mono ?_
      rintro e w1 ⟨rfl, rfl⟩
      go_wp2_with fail
      refine h2.mono ?_
      rintro e w1 ⟨rfl, rfl⟩
      go_wp2_with fail
      go_ret
      exact ⟨rfl, Below.refl _ _⟩
    · rw [e2] at h2
      have e3 : belT N L q = blw L q.toNat := by simp [belT, e2]
      rw [e3] at hb
      have hn := (inR_iff.1 (by unfold hasF at e1; rw [Bool.and_eq_true] at e1; exact e1.1)).1
      have hq := (inR_iff.1 (by unfold hasF at e2; rw [Bool.and_eq_true] at e2; exact e2.1)).1
      have hlen : (blw L q.toNat).length ≤ 1024 := by have := blw_len x.ok q.toNat; have := x.hN; omega
      obtain ⟨k, rfl⟩ : ∃ k : Nat, n = (k : Int) := ⟨n.toNat, by omega⟩
      obtain ⟨m, rfl⟩ : ∃ k : Nat, q = (k : Int) := ⟨q.toNat, by omega⟩
      rw [Int.toNat_natCast, Bool.true_and, Bool.true_and, Int.toNat_natCast]
      rw [Int.toNat_natCast] at hb hlen
      unfold undB
      clear x e1 e2 e3 hn hq
      generalize blw L m = T at *
      go_enter Try.func37, Try.ntmps37
      go_wp2_with fail
      refine h1.mono ?_
      rintro e w1 ⟨rfl, rfl⟩
      go_wp2_with fail
      refine h2.mono ?_
      rintro e w1 ⟨rfl, rfl⟩
      clear h1 h2
      go_wp2_with fail
      refine hb.mono ?_
      rintro e w2 ⟨v, rfl, hv, hB⟩
      obtain ⟨ad, cap, rfl, hc, _⟩ := own_sep hv
      have HC : Hid (Cells w2 .i64 ad T.length (atL T)) := hc
      have HBB : Hid (Below w1.heap.size w1 w2) := hB
      clear hv hc hB hb
      generalize hTl : T.length = TL at *
      have HTL : Hid (T.length = TL) := hTl
      clear hTl
      go_wp2_with fail
      go_loopw [8] (fun vi wr => ∃ i : Nat, i ≤ TL ∧ vi = .int .i64 i ∧ wr = w2 ∧ Hid (k ∉ T.take i)) (fun vi _ => TL - (intOf vi).toNat)
      case atStart => exact ⟨0, Nat.zero_le _, rfl, rfl, by show k ∉ _; simp⟩
      case round =>
        obtain ⟨i, hi, rfl, rfl, HN⟩ := hrel
        by_cases hlt : i < TL
        · obtain ⟨b1, o1, rfl, hg1⟩ := HC.out i hlt
          have ht := take_at (G := T) (j := i) (by rw [HTL.out]; exact hlt)
          have e0 : atL T i = ((T.getD i 0 : Nat) : Int) := rfl
          rw [e0] at hg1
          by_cases hy : T.getD i 0 = k
          · have hk : k ∈ T := by
              have : k ∈ T.take (i + 1) := by rw [ht, hy]; simp
              exact List.mem_of_mem_take this
            have HK : Hid (k ∈ T) := hk
            rw [hy] at hg1
            clear hk ht e0 hy
            go_wp2_with fail
            go_ret
            exact ⟨ret_bool (by simp [HK.out]), HBB.out⟩
          · have HN2 : Hid (k ∉ T.take (i + 1)) := by
              show k ∉ _
              rw [ht]
              have h5 := HN.out
              have h6 : ¬ k = T.getD i 0 := fun e => hy e.symm
              simp only [List.mem_append, List.mem_singleton, not_or]
              exact ⟨h5, h6⟩
            clear ht e0 HN
            generalize T.getD i 0 = y at *
            have h3 : ((y : Int) == (k : Int)) = false := by simp; omega
            go_wp2_with fail
            go_roundw
            case rel => exact ⟨i + 1, by omega, by go_num, trivial, HN2⟩
            case measure => simp [intOf]; omega
        · obtain rfl : i = TL := by omega
          have hk : k ∉ T := by
            have := HN.out
            rwa [show T.take i = T by rw [← HTL.out, List.take_length]] at this
          have HK : Hid (k ∉ T) := hk
          clear hk
          go_wp2_with fail
          go_ret
          exact ⟨ret_bool (by simp [HK.out, cast_beq]), HBB.out⟩
end
end Go.Proofs.Ytlphombjejgbiaa
