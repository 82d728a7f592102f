/- The document's Prune, Cut, Under. -/
import Derived.Test.YtlphombjejgbiaaDRefD
namespace Go.Proofs.Ytlphombjejgbiaa
open Go.RowKit Go.Sort Go.Shelf
set_option maxRecDepth 100000

section
variable {w : World} {r : Nat} {rv : Value} {N : Nat} {L : List Fe}
theorem cast_beq (k m : Nat) : ((k : Int) == (m : Int)) = decide (k = m) := by
  by_cases e : k = m
  · subst e; simp
  · simp [e]; omega
/-- a row of one's own behind a call on the forest -/
theorem rf_keep {W W' : World} {B : Nat} {v : Value} {n : Nat} {xs : List Value} (h : W.ownsRow B 3 1 v n xs) (hb : But (fun b => b = r) W W') (hr : r < B) : W'.ownsRow B 3 1 v n xs :=
  fown_same h fun b hv => hb.block b (fown_lt h hv).2 (fun e => by have e' : b = r := e; have := (fown_lt h hv).1; omega)
theorem ask_bel {N : Nat} {L : List Fe} {n : Int} (h : askE N L n = 0) : belT N L n = blw L n.toNat ∧ hasF N L n = true ∧ pruT N L n = blw L n.toNat ∧ cutT N L n = n.toNat :: blw L n.toNat ∧ 0 ≤ n := by
  have h2 : hasF N L n = true := by
    unfold askE at h
    unfold hasF
    cases h1 : inR N n
    · rw [h1] at h; simp at h
    · rw [h1] at h
      by_cases h3 : n.toNat ∈ nds L
      · simp [h3]
      · simp [h3] at h
  have h3 : 0 ≤ n := by
    unfold hasF at h2
    rw [Bool.and_eq_true] at h2
    exact (inR_iff.1 h2.1).1
  exact ⟨by simp [belT, h2], h2, by simp [pruT, h], by simp [cutT, h], h3⟩
set_option maxHeartbeats 4000000 in
theorem rprune12 (x : Rf w r rv N L) (n : Int) : Calls Try.prog 29 #[.pointer (some ⟨r, 0, none⟩), .int .i64 n] w fun e w' => ∃ v, e = .returned (.tuple #[v, .int .i64 (askE N L n)]) ∧ w'.ownsRow w.heap.size 3 1 v (pruT N L n).length (encL (pruT N L n)) ∧ RfGo w r rv w' N (wout L (pruT N L n)) := by
  have ha := rasked12 x n
  have hok := x.ok.pru n
  by_cases h0 : askE N L n = 0
  · obtain ⟨e1, _, e2, _, _⟩ := ask_bel h0
    have hb := rbelow12 x n
    rw [e1] at hb
    rw [e2] at hok ⊢
    rw [h0] at ha ⊢
    have hlen : (blw L n.toNat).length ≤ 100000 := by have := blw_len x.ok n.toNat; have := x.hN; omega
    have HX : Hid (Rf w r rv N L ∧ Fok N (wout L (blw L n.toNat))) := ⟨x, hok⟩
    clear x h0 e1 e2 hok
    generalize blw L n.toNat = T at *
    go_enter Try.func29, Try.ntmps29
    go_wp2_with fail
    refine ha.mono ?_
    rintro e w1 ⟨rfl, rfl⟩
    go_wp2_with fail
    refine hb.mono ?_
    rintro e w2 ⟨v, rfl, hv, hB⟩
    obtain ⟨ad, cap, rfl, hc, hge⟩ := own_sep hv
    have hd := rdrop12 (HX.out.1.below hB) T HX.out.2 ad cap hc hlen
    have HV : Hid (w2.ownsRow w1.heap.size 3 1 (.slice ad T.length cap) T.length (encL T) ∧ Below w1.heap.size w1 w2) := ⟨hv, hB⟩
    clear hv hB hc hge ha hb
    generalize hTl : T.length = TL at *
    have HTL : Hid (T.length = TL) := hTl
    clear hTl
    go_wp2_with fail
    refine hd.mono ?_
    rintro e w3 ⟨rfl, hg⟩
    have HF : Hid (w3.ownsRow w1.heap.size 3 1 (.slice ad TL cap) T.length (encL T) ∧ RfGo w1 r rv w3 N (wout L T)) := by
      obtain ⟨rv', h1, h2, h3⟩ := hg
      refine ⟨rf_keep (by rw [HTL.out]; exact HV.out.1) h2 HX.out.1.lt, rv', h1, (But.of HV.out.2).trans h2, fun b hb => ?_⟩
      rcases h3 b hb with h4 | h4
      · exact .inl h4
      · exact .inr (Nat.le_trans HV.out.2.size h4)
    clear hd hg HV
    go_wp2_with fail
    go_ret2
    exact ⟨_, rfl, HF.out.1, HF.out.2⟩
  · have e2 : pruT N L n = [] := by simp [pruT, h0]
    rw [e2, wout_nil] at *
    have HX : Hid (RfGo w r rv w N L) := x.stay
    clear x hok e2
    generalize askE N L n = ea at *
    have h1 : (ea != 0) = true := by simp [h0]
    go_enter Try.func29, Try.ntmps29
    go_wp2_with fail
    refine ha.mono ?_
    rintro e w1 ⟨rfl, rfl⟩
    go_wp2_with fail
    go_ret2
    exact ⟨_, rfl, World.ownsRow_nil _ _ _ _, HX.out⟩
set_option maxHeartbeats 4000000 in
theorem rcut12 (x : Rf w r rv N L) (n : Int) : Calls Try.prog 28 #[.pointer (some ⟨r, 0, none⟩), .int .i64 n] w fun e w' => ∃ v, e = .returned (.tuple #[v, .int .i64 (askE N L n)]) ∧ w'.ownsRow w.heap.size 3 1 v (cutT N L n).length (encL (cutT N L n)) ∧ RfGo w r rv w' N (wout L (cutT N L n)) := by
  have ha := rasked12 x n
  have hok := x.ok.cut n
  by_cases h0 : askE N L n = 0
  · obtain ⟨e1, _, _, e2, h1⟩ := ask_bel h0
    obtain ⟨k, rfl⟩ : ∃ k : Nat, n = (k : Int) := ⟨n.toNat, by omega⟩
    rw [Int.toNat_natCast] at e1 e2
    have hb1 : Below w.heap.size w (w.alloc (.cells #[.int .i64 (k : Int)] 3)) := (Below.refl _ w).alloc (Nat.le_refl _) _
    have hb := rbelow12 (x.below hb1) (k : Int)
    rw [e1] at hb
    rw [e2] at hok ⊢
    rw [h0] at ha ⊢
    have hlen : (blw L k).length ≤ 1024 := by have := blw_len x.ok k; have := x.hN; omega
    have HX : Hid (Rf w r rv N L ∧ Fok N (wout L (k :: blw L k)) ∧ Below w.heap.size w (w.alloc (.cells #[.int .i64 (k : Int)] 3)) ∧ (w.alloc (.cells #[.int .i64 (k : Int)] 3)).ownsRow w.heap.size 3 1 (.slice (some ⟨w.heap.size, 0, none⟩) 1 1) 1 (encL [k])) := ⟨x, hok, hb1, dlit1 w k⟩
    clear x h0 e1 e2 hok hb1
    generalize blw L k = T at *
    go_enter Try.func28, Try.ntmps28
    go_wp2_with fail
    refine ha.mono ?_
    rintro e w1 ⟨rfl, rfl⟩
    go_wp2_with fail
    refine hb.mono ?_
    rintro e w2 ⟨v, rfl, hv, hB⟩
    have hB0 := Below.onto HX.out.2.2.1 hB
    obtain ⟨v3, w3, hr3, ow3, gr3⟩ := fappend_src eltBe 35 w1.heap.size _ v 1 T.length (encL [k]) (encL T) (down_stay HX.out.2.2.2 hB) (gsrc_own hv) (by simp [encL]) (encL_one T) (by omega) hB0.size
    have hB3 := gown_below hB0 hB0.size (down_stay HX.out.2.2.2 hB) gr3
    have ow3' : w3.ownsRow w1.heap.size 3 1 v3 (k :: T).length (encL (k :: T)) := by
      rw [List.length_cons, Nat.add_comm]; exact ow3
    obtain ⟨ad, cap, rfl, hc, hge⟩ := own_sep ow3'
    have hd := rdrop12 (HX.out.1.below hB3) (k :: T) HX.out.2.1 ad cap hc (by simp; omega)
    have HV : Hid (w3.ownsRow w1.heap.size 3 1 (.slice ad (k :: T).length cap) (k :: T).length (encL (k :: T)) ∧ Below w1.heap.size w1 w3) := ⟨ow3', hB3⟩
    obtain ⟨va, vcap, rfl, hx1, hx2⟩ := fown_form hv
    clear hx1 hx2 hv hB hc hge ha hb hB0 ow3 gr3 hB3 ow3'
    generalize hTl : (k :: T).length = TL at *
    have HTL : Hid ((k :: T).length = TL) := hTl
    clear hTl
    go_wp2_with (at_builtin; refine wpList_append_run rfl _ _ _ rfl _ _ _ rfl rfl hr3 ?_)
    refine hd.mono ?_
    rintro e w4 ⟨rfl, hg⟩
    have HF : Hid (w4.ownsRow w1.heap.size 3 1 (.slice ad TL cap) (k :: T).length (encL (k :: T)) ∧ RfGo w1 r rv w4 N (wout L (k :: T))) := by
      obtain ⟨rv', h1, h2, h3⟩ := hg
      refine ⟨rf_keep (by rw [HTL.out]; exact HV.out.1) h2 HX.out.1.lt, rv', h1, (But.of HV.out.2).trans h2, fun b hb => ?_⟩
      rcases h3 b hb with h4 | h4
      · exact .inl h4
      · exact .inr (Nat.le_trans HV.out.2.size h4)
    clear hd hg HV hr3
    go_wp2_with fail
    go_ret2
    exact ⟨_, rfl, HF.out.1, HF.out.2⟩
  · have e2 : cutT N L n = [] := by simp [cutT, h0]
    rw [e2, wout_nil] at *
    have HX : Hid (RfGo w r rv w N L) := x.stay
    clear x hok e2
    generalize askE N L n = ea at *
    have h1 : (ea != 0) = true := by simp [h0]
    go_enter Try.func28, Try.ntmps28
    go_wp2_with fail
    refine ha.mono ?_
    rintro e w1 ⟨rfl, rfl⟩
    go_wp2_with fail
    go_ret2
    exact ⟨_, rfl, World.ownsRow_nil _ _ _ _, HX.out⟩
set_option maxHeartbeats 4000000 in
theorem runder12 (x : Rf w r rv N L) (n q : Int) : Calls Try.prog 37 #[.pointer (some ⟨r, 0, none⟩), .int .i64 n, .int .i64 q] w fun e w' => e = .returned (.bool (undI N L n q)) ∧ Below w.heap.size w w' := by
  have h1 := rhas12 x n
  have h2 := rhas12 x q
  have hb := rbelow12 x q
  unfold undI
  cases e1 : hasF N L n
  · rw [e1] at h1
    clear x h2 hb e1
    go_enter Try.func37, Try.ntmps37
    go_wp2_with fail
    refine h1.mono ?_
    rintro e w1 ⟨rfl, rfl⟩
    go_wp2_with fail
    go_ret
    exact ⟨rfl, Below.refl _ _⟩
  · rw [e1] at h1
    cases e2 : hasF N L q
    · rw [e2] at h2
      clear x hb e1 e2
      go_enter Try.func37, Try.ntmps37
      go_wp2_with fail
      refine h1.mono ?_
      rintro e w1 ⟨rfl, rfl⟩
      go_wp2_with fail
      refine h2.mono ?_
      rintro e w1 ⟨rfl, rfl⟩
      go_wp2_with fail
      go_ret
      exact ⟨rfl, Below.refl _ _⟩
    · rw [e2] at h2
      have e3 : belT N L q = blw L q.toNat := by simp [belT, e2]
      rw [e3] at hb
      have hn := (inR_iff.1 (by unfold hasF at e1; rw [Bool.and_eq_true] at e1; exact e1.1)).1
      have hq := (inR_iff.1 (by unfold hasF at e2; rw [Bool.and_eq_true] at e2; exact e2.1)).1
      have hlen : (blw L q.toNat).length ≤ 1024 := by have := blw_len x.ok q.toNat; have := x.hN; omega
      obtain ⟨k, rfl⟩ : ∃ k : Nat, n = (k : Int) := ⟨n.toNat, by omega⟩
      obtain ⟨m, rfl⟩ : ∃ k : Nat, q = (k : Int) := ⟨q.toNat, by omega⟩
      rw [Int.toNat_natCast, Bool.true_and, Bool.true_and, Int.toNat_natCast]
      rw [Int.toNat_natCast] at hb hlen
      unfold undB
      clear x e1 e2 e3 hn hq
      generalize blw L m = T at *
      go_enter Try.func37, Try.ntmps37
      go_wp2_with fail
      refine h1.mono ?_
      rintro e w1 ⟨rfl, rfl⟩
      go_wp2_with fail
      refine h2.mono ?_
      rintro e w1 ⟨rfl, rfl⟩
      clear h1 h2
      go_wp2_with fail
      refine hb.mono ?_
      rintro e w2 ⟨v, rfl, hv, hB⟩
      obtain ⟨ad, cap, rfl, hc, _⟩ := own_sep hv
      have HC : Hid (Cells w2 .i64 ad T.length (atL T)) := hc
      have HBB : Hid (Below w1.heap.size w1 w2) := hB
      clear hv hc hB hb
      generalize hTl : T.length = TL at *
      have HTL : Hid (T.length = TL) := hTl
      clear hTl
      go_wp2_with fail
      go_loopw [8] (fun vi wr => ∃ i : Nat, i ≤ TL ∧ vi = .int .i64 i ∧ wr = w2 ∧ Hid (k ∉ T.take i)) (fun vi _ => TL - (intOf vi).toNat)
      case atStart => exact ⟨0, Nat.zero_le _, rfl, rfl, by show k ∉ _; simp⟩
      case round =>
        obtain ⟨i, hi, rfl, rfl, HN⟩ := hrel
        by_cases hlt : i < TL
        · obtain ⟨b1, o1, rfl, hg1⟩ := HC.out i hlt
          have ht := take_at (G := T) (j := i) (by rw [HTL.out]; exact hlt)
          have e0 : atL T i = ((T.getD i 0 : Nat) : Int) := rfl
          rw [e0] at hg1
          by_cases hy : T.getD i 0 = k
          · have hk : k ∈ T := by
              have : k ∈ T.take (i + 1) := by rw [ht, hy]; simp
              exact List.mem_of_mem_take this
            have HK : Hid (k ∈ T) := hk
            rw [hy] at hg1
            clear hk ht e0 hy
            go_wp2_with fail
            go_ret
            exact ⟨ret_bool (by simp [HK.out]), HBB.out⟩
          · have HN2 : Hid (k ∉ T.take (i + 1)) := by
              show k ∉ _
              rw [ht]
              have h5 := HN.out
              have h6 : ¬ k = T.getD i 0 := fun e => hy e.symm
              simp only [List.mem_append, List.mem_singleton, not_or]
              exact ⟨h5, h6⟩
            clear ht e0 HN
            generalize T.getD i 0 = y at *
            have h3 : ((y : Int) == (k : Int)) = false := by simp; omega
            go_wp2_with fail
            go_roundw
            case rel => exact ⟨i + 1, by omega, by go_num, trivial, HN2⟩
            case measure => simp [intOf]; omega
        · obtain rfl : i = TL := by omega
          have hk : k ∉ T := by
            have := HN.out
            rwa [show T.take i = T by rw [← HTL.out, List.take_length]] at this
          have HK : Hid (k ∉ T) := hk
          clear hk
          go_wp2_with fail
          go_ret
          exact ⟨ret_bool (by simp [HK.out, cast_beq]), HBB.out⟩
end
end Go.Proofs.Ytlphombjejgbiaa
