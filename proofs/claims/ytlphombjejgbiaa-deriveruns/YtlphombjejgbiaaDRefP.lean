/- The document's Parent, asked; and what is told of a node. -/
import Derived.Test.YtlphombjejgbiaaDRefM
namespace Go.Proofs.Ytlphombjejgbiaa
open Go.RowKit Go.Sort
set_option maxRecDepth 100000

/-- an entry's parent is whom it was derived from -/
theorem par_whr {N : Nat} {L : List Fe} (h : Fok N L) {e : Fe} (he : e ∈ L) : (e.p < 0 ∧ whr (kids L) N e.n = none) ∨ (∃ q : Nat, e.p = (q : Int) ∧ whr (kids L) N e.n = some q) := by
  by_cases hp : e.p < 0
  · refine .inl ⟨hp, whr_none_of fun k _ hm => ?_⟩
    obtain ⟨e', he', hp', hn'⟩ := mem_kids.1 hm
    have : e' ∈ L := he'
    -- one entry a node
    obtain ⟨l1, l2, rfl⟩ := List.append_of_mem he
    have nd := h.nod
    rw [nds_app, nds_cons] at nd
    have hee : e' = e := by
      rcases List.mem_append.1 he' with h1 | h1
      · exact absurd ((List.nodup_append.1 nd).2.2 e'.n (mem_nds.2 ⟨e', h1, rfl⟩) e.n (by simp)) (by omega)
      · rcases List.mem_cons.1 h1 with h1 | h1
        · exact h1
        · have h2 := (List.nodup_cons.1 (List.nodup_append.1 nd).2.1).1
          exact absurd (mem_nds.2 ⟨e', h1, by omega⟩) h2
    subst hee
    omega
  · have : e.n ∈ kids L e.p.toNat := mem_kids.2 ⟨e, he, by omega, rfl⟩
    exact .inr ⟨e.p.toNat, by omega, whr_of h this⟩
theorem par_none {N : Nat} {L : List Fe} {x : Int} (h : hasF N L x = false) : parI N L x = 0 ∧ parB N L x = false := by
  simp [parI, parB, h]
theorem par_at {N : Nat} {L : List Fe} (h : Fok N L) {e : Fe} (he : e ∈ L) : hasF N L (e.n : Int) = true ∧ ((e.p < 0 ∧ parI N L (e.n : Int) = 0 ∧ parB N L (e.n : Int) = false) ∨ (0 ≤ e.p ∧ parI N L (e.n : Int) = e.p ∧ parB N L (e.n : Int) = true)) := by
  have hm : e.n ∈ nds L := mem_nds.2 ⟨e, he, rfl⟩
  have hlt := h.lt _ hm
  have h1 : inR N (e.n : Int) = true := inR_iff.2 ⟨by omega, by omega⟩
  have h2 : hasF N L (e.n : Int) = true := by simp [hasF, h1, hm]
  refine ⟨h2, ?_⟩
  rcases par_whr h he with ⟨hp, hw⟩ | ⟨q, hp, hw⟩
  · exact .inl ⟨hp, by simp [parI, h2, ofI, h1, hw], by simp [parB, h2, ofB, h1, hw]⟩
  · exact .inr ⟨by omega, by simp [parI, h2, ofI, h1, hw, hp], by simp [parB, h2, ofB, h1, hw]⟩
theorem dpt_idx {N : Nat} {L : List Fe} (h : Fok N L) : ∀ n x, (nds L).idxOf x ≤ n → dpt N L x ≤ (nds L).idxOf x := by
  intro n
  induction n with
  | zero =>
    intro x hx
    cases hw : whr (kids L) N x with
    | none => rw [dpt_root hw]; omega
    | some p => have := (h.behind (whr_kid h hw)).2; omega
  | succ n ih =>
    intro x hx
    cases hw : whr (kids L) N x with
    | none => rw [dpt_root hw]; omega
    | some p =>
      have h1 := (h.behind (whr_kid h hw)).2
      have h2 := ih p (by omega)
      rw [dpt_up h hw]; omega
theorem dpt_lt {N : Nat} {L : List Fe} (h : Fok N L) {y : Nat} (hy : y ∈ nds L) : dpt N L y < L.length := by
  have h1 := dpt_idx h _ y (Nat.le_refl _)
  have h2 := List.idxOf_lt_length_of_mem hy
  rw [nds_len] at h2
  omega
theorem par_step {N : Nat} {L : List Fe} (h : Fok N L) {y : Nat} (hy : y ∈ nds L) : (parI N L (y : Int) = 0 ∧ parB N L (y : Int) = false ∧ dpt N L y = 0) ∨ (∃ p, p ∈ nds L ∧ parI N L (y : Int) = (p : Int) ∧ parB N L (y : Int) = true ∧ dpt N L y = dpt N L p + 1) := by
  obtain ⟨e, he, rfl⟩ := mem_nds.1 hy
  obtain ⟨_, hp⟩ := par_at h he
  rcases par_whr h he with ⟨h1, hw⟩ | ⟨q, h1, hw⟩
  · rcases hp with ⟨_, h2, h3⟩ | ⟨h2, _⟩
    · exact .inl ⟨h2, h3, dpt_root hw⟩
    · omega
  · rcases hp with ⟨h2, _⟩ | ⟨_, h2, h3⟩
    · omega
    · exact .inr ⟨q, (h.behind (whr_kid h hw)).1, by rw [h2, h1], h3, dpt_up h hw⟩
section
variable {w : World} {r : Nat} {rv : Value} {N : Nat} {L : List Fe}
set_option maxHeartbeats 2000000 in
theorem rparent12 (x : Rf w r rv N L) (n : Int) : Calls Try.prog 31 #[.pointer (some ⟨r, 0, none⟩), .int .i64 n] w fun e w' => e = .returned (.tuple #[.int .i64 (parI N L n), .bool (parB N L n)]) ∧ w' = w := by
  have hf := rfind12 x n
  have hlen : L.length ≤ 1024 := Nat.le_trans x.ok.len x.hN
  obtain ⟨a, cap, hv⟩ := x.form
  subst hv
  have c1 := x.c1
  by_cases hh : 0 ≤ fI L n
  · obtain ⟨k, e, hk, he, hn⟩ := fI_at x.ok n hh
    obtain ⟨_, hp⟩ := par_at x.ok (List.mem_of_getElem? he)
    rw [hn] at hp
    obtain ⟨g, rfl, m0, m1⟩ := x.at_ rfl he
    have hkl := (List.getElem?_eq_some_iff.1 he).1
    rw [hk] at hf
    have k0 : ¬ (k : Int) < 0 := by omega
    have k1 : decide ((k : Int) < 0) = false := by simp
    clear x hh hk he m0 hn
    generalize hM : L.length = M at *
    obtain ⟨p, hpe⟩ : ∃ p, e.p = p := ⟨_, rfl⟩
    rw [hpe] at hp m1
    clear hpe
    rcases hp with ⟨h1, h2, h3⟩ | ⟨h1, h2, h3⟩
    · rw [h2, h3]
      clear h2 h3
      go_enter Try.func31, Try.ntmps31
      go_wp2_with fail
      refine hf.mono ?_
      rintro e w1 ⟨rfl, rfl⟩
      go_wp2_with fail
      go_ret2
      exact ⟨rfl, rfl⟩
    · rw [h2, h3]
      have h4 : ¬ p < 0 := by omega
      clear h2 h3
      go_enter Try.func31, Try.ntmps31
      go_wp2_with fail
      refine hf.mono ?_
      rintro e w1 ⟨rfl, rfl⟩
      go_wp2_with fail
      go_ret2
      exact ⟨rfl, rfl⟩
  · have hno : hasF N L n = false := by rw [← fI_has x.ok n]; simp; omega
    rw [(par_none hno).1, (par_none hno).2]
    clear x hno c1
    generalize fI L n = k at *
    have k1 : k < 0 := by omega
    clear hh
    go_enter Try.func31, Try.ntmps31
    go_wp2_with fail
    refine hf.mono ?_
    rintro e w1 ⟨rfl, rfl⟩
    go_wp2_with fail
    go_ret2
    exact ⟨rfl, rfl⟩
set_option maxHeartbeats 1000000 in
theorem rasked12 (x : Rf w r rv N L) (n : Int) : Calls Try.prog 63 #[.pointer (some ⟨r, 0, none⟩), .int .i64 n] w fun e w' => e = .returned (.int .i64 (askE N L n)) ∧ w' = w := by
  have hi := ris12 x n
  have hh := rhas12 x n
  unfold askE
  unfold hasF at hh
  clear x
  generalize inR N n = bi at *
  generalize decide (n.toNat ∈ nds L) = bd at *
  cases bi
  · show Calls _ _ _ _ (fun e w' => e = .returned (.int .i64 120) ∧ w' = w)
    go_enter Try.func63, Try.ntmps63
    go_wp2_with fail
    refine hi.mono ?_
    rintro e w1 ⟨rfl, rfl⟩
    go_wp2_with fail
    go_ret
    exact ⟨rfl, rfl⟩
  · rw [Bool.true_and] at hh
    cases bd
    · show Calls _ _ _ _ (fun e w' => e = .returned (.int .i64 122) ∧ w' = w)
      go_enter Try.func63, Try.ntmps63
      go_wp2_with fail
      refine hi.mono ?_
      rintro e w1 ⟨rfl, rfl⟩
      go_wp2_with fail
      refine hh.mono ?_
      rintro e w1 ⟨rfl, rfl⟩
      go_wp2_with fail
      go_ret
      exact ⟨rfl, rfl⟩
    · show Calls _ _ _ _ (fun e w' => e = .returned (.int .i64 0) ∧ w' = w)
      go_enter Try.func63, Try.ntmps63
      go_wp2_with fail
      refine hi.mono ?_
      rintro e w1 ⟨rfl, rfl⟩
      go_wp2_with fail
      refine hh.mono ?_
      rintro e w1 ⟨rfl, rfl⟩
      go_wp2_with fail
      go_ret
      exact ⟨rfl, rfl⟩
set_option maxHeartbeats 2000000 in
theorem rdepth12 (x : Rf w r rv N L) (n : Int) : Calls Try.prog 35 #[.pointer (some ⟨r, 0, none⟩), .int .i64 n] w fun e w' => e = .returned (.int .i64 (dptI N L n)) ∧ w' = w := by
  have hh := rhas12 x n
  have hpar := fun y => rparent12 x y
  have hlen : L.length ≤ 1024 := Nat.le_trans x.ok.len x.hN
  obtain ⟨a, cap, hv⟩ := x.form
  subst hv
  have c1 := x.c1
  unfold dptI
  cases hb : hasF N L n
  · rw [hb] at hh
    show Calls _ _ _ _ (fun e w' => e = .returned (.int .i64 (-1)) ∧ w' = w)
    clear x hpar c1
    go_enter Try.func35, Try.ntmps35
    go_wp2_with fail
    refine hh.mono ?_
    rintro e w1 ⟨rfl, rfl⟩
    go_wp2_with fail
    go_ret
    exact ⟨rfl, rfl⟩
  · rw [hb] at hh
    have HD : Hid (∃ y : Nat, (y : Int) = n ∧ y ∈ nds L ∧ dpt N L n.toNat = dpt N L y) := by
      unfold hasF at hb
      rw [Bool.and_eq_true] at hb
      obtain ⟨h1, h2⟩ := inR_iff.1 hb.1
      exact ⟨n.toNat, by omega, by simpa using hb.2, rfl⟩
    have HOK : Hid (Fok N L) := x.ok
    rw [if_pos rfl]
    obtain ⟨D, hD⟩ : ∃ D, dpt N L n.toNat = D := ⟨_, rfl⟩
    rw [hD] at HD ⊢
    -- how far it goes is bounded by the number of entries
    have HLE : Hid (∀ y, y ∈ nds L → dpt N L y < L.length) := fun y hy => dpt_lt HOK.out hy
    clear x hD hb
    generalize hM : L.length = M at *
    obtain ⟨y0, hy0, hym, hyd⟩ := HD.out
    have HY : Hid (y0 ∈ nds L ∧ D = dpt N L y0) := ⟨hym, hyd⟩
    subst hy0
    clear hym hyd HD
    have HP : Hid (∀ y, Calls Try.prog 31 #[.pointer (some ⟨r, 0, none⟩), .int .i64 y] w fun e w' => e = .returned (.tuple #[.int .i64 (parI N L y), .bool (parB N L y)]) ∧ w' = w) := hpar
    go_enter Try.func35, Try.ntmps35
    go_wp2_with fail
    refine hh.mono ?_
    rintro e w1 ⟨rfl, rfl⟩
    have hp0 := hpar (y0 : Int)
    clear hpar
    obtain ⟨q, hq⟩ : ∃ q, parI N L (y0 : Int) = q := ⟨_, rfl⟩
    obtain ⟨b, hbq⟩ : ∃ b, parB N L (y0 : Int) = b := ⟨_, rfl⟩
    rw [hq, hbq] at hp0
    have HI : Hid (∃ y : Nat, y ∈ nds L ∧ parI N L (y : Int) = q ∧ parB N L (y : Int) = b ∧ D = 0 + dpt N L y) := ⟨y0, HY.out.1, hq, hbq, by rw [HY.out.2]; omega⟩
    clear hq hbq
    go_wp2_with fail
    refine hp0.mono ?_
    rintro e w1 ⟨rfl, rfl⟩
    clear hp0
    go_wp2_with fail
    go_loopw [5, 6, 7] (fun vd vp vb wr => wr = w1 ∧ ∃ (d : Nat) (q : Int) (b : Bool), vd = .int .i64 d ∧ vp = .int .i64 q ∧ vb = .bool b ∧ Hid (∃ y : Nat, y ∈ nds L ∧ parI N L (y : Int) = q ∧ parB N L (y : Int) = b ∧ D = d + dpt N L y)) (fun vd _ _ _ => M - (intOf vd).toNat)
    case atStart => exact ⟨rfl, 0, q, b, rfl, rfl, rfl, HI.out⟩
    case round =>
      obtain ⟨rfl, d, q, b, rfl, rfl, rfl, HI2⟩ := hrel
      obtain ⟨y, hy, h1, h2, h3⟩ := HI2.out
      have hdM : d < M := by have := HLE.out y0 HY.out.1; have := HY.out.2; omega
      have hle1 : (d : Int) ≤ (M : Int) := by omega
      rcases par_step HOK.out hy with ⟨p1, p2, p3⟩ | ⟨p, hp, p1, p2, p3⟩
      · obtain rfl : b = false := by rw [← h2, p2]
        have hE : Hid (D = d) := by show _ = _; omega
        clear HI2 h1 h2 h3 p1 p2 p3
        go_wp2_with fail
        go_ret
        rw [hE.out]
        exact ⟨rfl, rfl⟩
      · obtain rfl : b = true := by rw [← h2, p2]
        obtain rfl : q = (p : Int) := by rw [← h1, p1]
        have hc := HP.out (p : Int)
        obtain ⟨q2, hq⟩ : ∃ q, parI N L (p : Int) = q := ⟨_, rfl⟩
        obtain ⟨b2, hbq⟩ : ∃ b, parB N L (p : Int) = b := ⟨_, rfl⟩
        rw [hq, hbq] at hc
        have HI3 : Hid (∃ y : Nat, y ∈ nds L ∧ parI N L (y : Int) = q2 ∧ parB N L (y : Int) = b2 ∧ D = (d + 1 : Nat) + dpt N L y) := ⟨p, hp, hq, hbq, by omega⟩
        clear HI2 h1 h2 h3 p1 p2 p3 hq hbq
        go_wp2_with fail
        refine hc.mono ?_
        rintro e w1 ⟨rfl, rfl⟩
        clear hc
        go_wp2_with fail
        go_roundw
        case rel => exact ⟨trivial, d + 1, q2, b2, by go_num, rfl, rfl, HI3.out⟩
        case measure => simp [intOf]; omega
end
end Go.Proofs.Ytlphombjejgbiaa
