/- The document's Below. -/
import Derived.Test.YtlphombjejgbiaaDRefA
namespace Go.Proofs.Ytlphombjejgbiaa
open Go.RowKit Go.Sort
set_option maxRecDepth 100000

/-- what is told behind i entries -/
def bpre (L : List Fe) (k i : Nat) : List Nat := (kids (L.take i) k).flatMap fun c => c :: blw L c
theorem bpre_0 (L : List Fe) (k : Nat) : bpre L k 0 = [] := by simp [bpre, kids]
theorem ftake_at {L : List Fe} {i : Nat} {e : Fe} (h : L[i]? = some e) : L.take (i + 1) = L.take i ++ [e] := by
  obtain ⟨hl, he⟩ := List.getElem?_eq_some_iff.1 h
  rw [List.take_succ_eq_append_getElem hl, he]
theorem bpre_yes {L : List Fe} {k i : Nat} {e : Fe} (h : L[i]? = some e) (hp : e.p = (k : Int)) : bpre L k (i + 1) = bpre L k i ++ e.n :: blw L e.n := by
  unfold bpre
  rw [ftake_at h, kids_app, List.flatMap_append]
  simp [kids, hp]
theorem bpre_no {L : List Fe} {k i : Nat} {e : Fe} (h : L[i]? = some e) (hp : ¬ e.p = (k : Int)) : bpre L k (i + 1) = bpre L k i := by
  unfold bpre
  rw [ftake_at h, kids_app, List.flatMap_append]
  simp [kids, hp]
theorem bpre_end {N : Nat} {L : List Fe} (h : Fok N L) (k : Nat) : bpre L k L.length = blw L k := by
  unfold bpre
  rw [List.take_length, blw_eq h]
theorem bpre_len {N : Nat} {L : List Fe} (h : Fok N L) (k i : Nat) : (bpre L k i).length ≤ N := by
  refine Nat.le_trans ?_ (blw_len h k)
  rw [← bpre_end h]
  unfold bpre
  rw [List.take_length]
  have : kids L k = kids (L.take i) k ++ kids (L.drop i) k := by rw [← kids_app, List.take_append_drop]
  rw [this, List.flatMap_append, List.length_append]
  omega
theorem belT_node {N : Nat} {L : List Fe} (h : Fok N L) {e : Fe} (he : e ∈ L) : belT N L (e.n : Int) = blw L e.n := by
  unfold belT
  rw [(par_at h he).1, if_pos rfl, Int.toNat_natCast]
set_option maxHeartbeats 4000000 in
theorem rbelow12_step (w : World) (r : Nat) (rv : Value) (N : Nat) (L : List Fe) (x : Rf w r rv N L) (k : Nat) (hk : k ∈ nds L)
    (ih : ∀ e, e ∈ L → e.p = (k : Int) → ∀ W, Below w.heap.size w W → Calls Try.prog 11 #[.pointer (some ⟨r, 0, none⟩), .int .i64 (e.n : Int)] W fun e' w' => ∃ v, e' = .returned v ∧ w'.ownsRow W.heap.size 3 1 v (blw L e.n).length (encL (blw L e.n)) ∧ Below W.heap.size W w') :
    Calls Try.prog 11 #[.pointer (some ⟨r, 0, none⟩), .int .i64 (k : Int)] w fun e w' => ∃ v, e = .returned v ∧ w'.ownsRow w.heap.size 3 1 v (blw L k).length (encL (blw L k)) ∧ Below w.heap.size w w' := by
  have hh := rhas12 x (k : Int)
  have hlt := x.ok.lt k hk
  rw [show hasF N L (k : Int) = true by simp [hasF, inR_iff.2 (⟨by omega, by omega⟩ : 0 ≤ (k : Int) ∧ (k : Int) < N), hk]] at hh
  have hlen : L.length ≤ 1024 := Nat.le_trans x.ok.len x.hN
  obtain ⟨av, cv, hv⟩ := x.form
  subst hv
  have HX : Hid (Rf w r (.slice av L.length cv) N L) := x
  have HI : Hid (∀ e, e ∈ L → e.p = (k : Int) → ∀ W, Below w.heap.size w W → Calls Try.prog 11 #[.pointer (some ⟨r, 0, none⟩), .int .i64 (e.n : Int)] W fun e' w' => ∃ v, e' = .returned v ∧ w'.ownsRow W.heap.size 3 1 v (blw L e.n).length (encL (blw L e.n)) ∧ Below W.heap.size W w') := ih
  have HE : Hid (bpre L k L.length = blw L k) := bpre_end x.ok k
  have HL : Hid (∀ i, (bpre L k i).length ≤ 1024) := fun i => Nat.le_trans (bpre_len x.ok k i) x.hN
  have c1 := x.c1
  clear x ih hlt hk
  generalize hM : L.length = M at *
  go_enter Try.func11, Try.ntmps11
  go_wp2_with fail
  refine hh.mono ?_
  rintro e w1 ⟨rfl, rfl⟩
  clear hh
  go_wp2_with fail
  go_loopw [5, 6] (fun vo vi wr => ∃ (i : Nat) (v : Value), i ≤ M ∧ vi = .int .i64 i ∧ vo = v ∧ Hid (wr.ownsRow w1.heap.size 3 1 v (bpre L k i).length (encL (bpre L k i)) ∧ Below w1.heap.size w1 wr)) (fun _ vi _ => M - (intOf vi).toNat)
  case atStart => exact ⟨0, _, Nat.zero_le _, rfl, rfl, by rw [bpre_0]; exact World.ownsRow_nil _ _ _ _, Below.refl _ _⟩
  case round =>
    obtain ⟨i, v, hi, rfl, rfl, HR⟩ := hrel
    obtain ⟨va, vcap, hvf, hv1, hv2⟩ := fown_form HR.out.1
    subst hvf
    clear hv1 hv2
    by_cases hlt : i < M
    · obtain ⟨m, hm⟩ : ∃ m, L[i]? = some m := ⟨L[i]'(by omega), List.getElem?_eq_getElem (by omega)⟩
      obtain ⟨g, rfl, m0, m1⟩ := HX.out.at_ hM.symm hm
      have xr := HX.out.below HR.out.2
      obtain ⟨g', hg', n0, n1⟩ := xr.at_ hM.symm hm
      obtain rfl : g = g' := by cases hg'; rfl
      have d1 := xr.c1
      clear hg' xr
      by_cases he : m.p = (k : Int)
      · have hE := bpre_yes hm he
        have HC : Hid (∀ W, Below w1.heap.size w1 W → Calls Try.prog 11 #[.pointer (some ⟨r, 0, none⟩), .int .i64 (m.n : Int)] W fun e' w' => ∃ v, e' = .returned v ∧ w'.ownsRow W.heap.size 3 1 v (blw L m.n).length (encL (blw L m.n)) ∧ Below W.heap.size W w') := HI.out m (List.mem_of_getElem? hm) he
        have HLs : Hid ((bpre L k i).length + 1 + (blw L m.n).length ≤ 100000) := by
          show _ ≤ _
          have := HL.out (i + 1)
          rw [hE] at this
          simp at this
          omega
        have HEs : Hid (bpre L k (i + 1) = bpre L k i ++ m.n :: blw L m.n) := hE
        rw [he] at n1
        clear hE hm he m1 n0
        generalize m.n = c at *
        go_wp2_with fail
        refine bel_region (w0 := w1) (r := r) (g := g) (N := M) (cv := cv) (i := i) (c := c) (V1 := .slice va (bpre L k i).length vcap) (T1 := bpre L k i) (T2 := blw L c) rfl rfl (by kernel_rfl) (by kernel_rfl) (by kernel_rfl) rfl rfl rfl rfl rfl rfl rfl rfl rfl rfl rfl rfl rfl rfl rfl rfl rfl rfl rfl rfl rfl rfl rfl rfl rfl rfl rfl rfl rfl rfl rfl rfl rfl rfl rfl rfl rfl rfl rfl rfl rfl rfl rfl rfl rfl rfl rfl rfl rfl rfl rfl rfl rfl rfl rfl hlt c1 m0 HR.out.1 HLs.out HR.out.2 HC.out (by kernel_rfl) (by kernel_rfl) (by kernel_rfl) (by kernel_rfl) (by kernel_rfl) (by kernel_rfl) (fun _ _ d _ _ h => by cases d <;> exact h) ?_
        intro vA vB vC vD W9 hown9 hb9
        simp only [Act.put, List.setIfInBounds_toArray, List.set_cons_zero, List.set_cons_succ]
        have HR2 : Hid (W9.ownsRow w1.heap.size 3 1 vD (bpre L k (i + 1)).length (encL (bpre L k (i + 1))) ∧ Below w1.heap.size w1 W9) := by
          refine ⟨?_, hb9⟩
          rw [HEs.out, List.length_append, List.length_cons, show (bpre L k i).length + ((blw L c).length + 1) = (bpre L k i).length + 1 + (blw L c).length by omega]
          exact hown9
        clear hown9 hb9 n1 d1 m0 HC HLs HEs HR
        obtain ⟨vDa, vDc, rfl, hx1, hx2⟩ := fown_form HR2.out.1
        clear hx1 hx2
        generalize hbl : (bpre L k (i + 1)).length = bl at *
        have HBL : Hid ((bpre L k (i + 1)).length = bl) := hbl
        clear hbl
        go_wp2_with fail
        go_roundw
        case rel => exact ⟨i + 1, _, by omega, by go_num, rfl, by rw [HBL.out]; exact HR2⟩
        case measure => simp [intOf]; omega
      · have hE : Hid (bpre L k (i + 1) = bpre L k i) := bpre_no hm he
        have HR2 : Hid (wr.ownsRow w1.heap.size 3 1 (.slice va (bpre L k i).length vcap) (bpre L k (i + 1)).length (encL (bpre L k (i + 1))) ∧ Below w1.heap.size w1 wr) := by
          rw [hE.out]; exact HR.out
        have he2 : (m.p == (k : Int)) = false := by simp [he]
        clear hE hm m0 m1 n0
        generalize m.p = mp at *
        generalize (bpre L k i).length = bl at *
        go_wp2_with fail
        go_roundw
        case rel => exact ⟨i + 1, _, by omega, by go_num, rfl, HR2⟩
        case measure => simp [intOf]; omega
    · obtain rfl : i = M := by omega
      have HF : Hid (wr.ownsRow w1.heap.size 3 1 (.slice va (bpre L k i).length vcap) (blw L k).length (encL (blw L k)) ∧ Below w1.heap.size w1 wr) := by
        rw [← HE.out]; exact HR.out
      have d1 := (HX.out.below HR.out.2).c1
      generalize (bpre L k i).length = bl at *
      go_wp2_with fail
      go_ret
      exact ⟨_, rfl, HF.out⟩
theorem rbelow12_in (r : Nat) (N : Nat) (L : List Fe) : ∀ f k, hgt L k < f → k ∈ nds L → ∀ (w : World) (rv : Value), Rf w r rv N L →
    Calls Try.prog 11 #[.pointer (some ⟨r, 0, none⟩), .int .i64 (k : Int)] w fun e w' => ∃ v, e = .returned v ∧ w'.ownsRow w.heap.size 3 1 v (blw L k).length (encL (blw L k)) ∧ Below w.heap.size w w' := by
  intro f
  induction f with
  | zero => intro k hk; omega
  | succ f ih =>
    intro k hk hm w rv x
    refine rbelow12_step w r rv N L x k hm fun e he hp W hW => ?_
    have hc : e.n ∈ kids L k := mem_kids.2 ⟨e, he, hp, rfl⟩
    have := hgt_kid x.ok hc
    exact ih e.n (by omega) (x.ok.kid_in hc) W rv (x.below hW)
section
variable {w : World} {r : Nat} {rv : Value} {N : Nat} {L : List Fe}
theorem rbelow12 (x : Rf w r rv N L) (n : Int) : Calls Try.prog 11 #[.pointer (some ⟨r, 0, none⟩), .int .i64 n] w fun e w' => ∃ v, e = .returned v ∧ w'.ownsRow w.heap.size 3 1 v (belT N L n).length (encL (belT N L n)) ∧ Below w.heap.size w w' := by
  have hh := rhas12 x n
  cases hb : hasF N L n
  · rw [hb] at hh
    rw [show belT N L n = [] by simp [belT, hb]]
    clear x hb
    go_enter Try.func11, Try.ntmps11
    go_wp2_with fail
    refine hh.mono ?_
    rintro e w1 ⟨rfl, rfl⟩
    go_wp2_with fail
    go_ret
    exact ⟨_, rfl, World.ownsRow_nil _ _ _ _, Below.refl _ _⟩
  · have e1 : belT N L n = blw L n.toNat := by simp [belT, hb]
    unfold hasF at hb
    rw [Bool.and_eq_true] at hb
    obtain ⟨h1, h2⟩ := inR_iff.1 hb.1
    obtain ⟨k, rfl⟩ : ∃ k : Nat, n = (k : Int) := ⟨n.toNat, by omega⟩
    rw [Int.toNat_natCast] at e1 hb
    rw [e1]
    exact rbelow12_in r N L (hgt L k + 1) k (by omega) (by simpa using hb.2) w rv x
end
end Go.Proofs.Ytlphombjejgbiaa
