/- QueueApart as plain data: a lane of one's own, and what others do. -/
import Derived.Test.YtkgehbonijpdnaaUFifoN
import Derived.Test.YtkgehbonijpdnaaUClaim
namespace Go.Proofs.Ytkgehbonijpdnaa

structure Ap (A B : Qu) (mn ot : List (Int × Int × Int)) (tk : List PMs) (n own i : Nat) : Prop where
  a : A.ok = true
  b : B.ok = true
  la : A.ls.length = n
  lb : B.ls.length = n
  ol : own < n
  same : atP A.ls own = atP B.ls own
  tw : ∀ k, k < n → (atP A.ls k).tw = false
  mine : ∀ c ∈ mn, c.1 = (own : Int)
  oth : ∀ c ∈ ot, c.1 ≠ (own : Int)
  ma : A.ms.length ≤ i
  mb : B.ms.length ≤ i
  nm : mn.length ≤ i
  no : ot.length ≤ i
  nt : tk.length ≤ i
/-- a queue that may be, as a run -/
theorem ok_rn {A : Qu} (h : A.ok = true) : Rn.Ok ⟨A, [], A.ms.map PMs.pay, []⟩ (A.ls.map PLn.cr) A.ms.length := by
  obtain ⟨h1, h2, h3⟩ := (ok_iff A).1 h
  refine ⟨h, by simp, fun k hk => ?_, rfl, Nat.le_refl _, fun m hm => by simp at hm, fun k hk => ?_, Nat.zero_le _, Nat.zero_le _⟩
  · have hk : k < A.ls.length := by simpa using hk
    show (atP A.ls k).cr = atI (A.ls.map PLn.cr) k
    simp [atP, atI, hk]
  · have hk : k < A.ls.length := by simpa using hk
    have := (okL_iff.1 (h3 k hk)).2.2.1
    show ((cnt [] (k : Int) : Nat) : Int) ≤ _
    simpa [cnt] using this
section
variable {A B : Qu} {mn ot : List (Int × Int × Int)} {tk : List PMs} {n own i : Nat}
theorem Ap.up (h : Ap A B mn ot tk n own i) : Ap A B mn ot tk n own (i + 1) :=
  ⟨h.a, h.b, h.la, h.lb, h.ol, h.same, h.tw, h.mine, h.oth, Nat.le_succ_of_le h.ma, Nat.le_succ_of_le h.mb, Nat.le_succ_of_le h.nm, Nat.le_succ_of_le h.no, Nat.le_succ_of_le h.nt⟩
theorem Ap.lane (h : Ap A B mn ot tk n own i) : A.lane (own : Int) = B.lane (own : Int) := h.same
theorem Ap.nam (h : Ap A B mn ot tk n own i) : A.nam (own : Int) = 0 ∧ B.nam (own : Int) = 0 := by
  have h1 := h.ol
  have h2 := h.la
  have h3 := h.lb
  constructor
  · unfold Qu.nam Qu.hasB
    rw [if_pos h.a, if_pos (by simp; omega)]
  · unfold Qu.nam Qu.hasB
    rw [if_pos h.b, if_pos (by simp; omega)]
theorem Ap.clE (h : Ap A B mn ot tk n own i) : A.clE (own : Int) = B.clE (own : Int) := by
  unfold Qu.clE
  rw [h.nam.1, h.nam.2, h.lane]
theorem Ap.clC (h : Ap A B mn ot tk n own i) : A.clC (own : Int) = B.clC (own : Int) := by
  unfold Qu.clC
  rw [h.clE, h.lane]
theorem Ap.pbE (h : Ap A B mn ot tk n own i) (m ep : Int) : A.pbE (own : Int) m ep = B.pbE (own : Int) m ep := by
  unfold Qu.pbE
  rw [h.nam.1, h.nam.2, h.lane]
theorem Ap.rsE (h : Ap A B mn ot tk n own i) : A.rsE (own : Int) = B.rsE (own : Int) := by
  unfold Qu.rsE
  rw [h.nam.1, h.nam.2, h.lane]
theorem cl_set {Q : Qu} {j : Nat} (h : Q.clE (j : Int) = 0) : Q.clQ (j : Int) = ⟨Q.ls.set j (claimL (atP Q.ls j)), Q.ms⟩ := by
  rw [Qu.clQ, if_pos h]
  rfl
theorem pb_set {Q : Qu} {j : Nat} {m ep x : Int} (h : Q.pbE (j : Int) m ep = 0) : Q.pbQ (j : Int) m ep x = ⟨Q.ls.set j (pubL (atP Q.ls j)), Q.ms ++ [⟨(j : Int), ep, m, x⟩]⟩ := by
  rw [Qu.pbQ, if_pos h]
  rfl
/-- lanes of which one is set -/
theorem set_tw {ls : List PLn} {j n : Nat} {x : PLn} (hl : ls.length = n) (hj : j < n) (hx : x.tw = (atP ls j).tw) (h : ∀ k, k < n → (atP ls k).tw = false) : ∀ k, k < n → (atP (ls.set j x) k).tw = false := fun k hk => by
  rw [atP_set (by omega)]
  split
  · rw [hx]; exact h j hj
  · exact h k hk
theorem Ap.claim2 (h : Ap A B mn ot tk n own i) (hE : A.clE (own : Int) = 0) : Ap (A.clQ (own : Int)) (B.clQ (own : Int)) (mn ++ [A.clC (own : Int)]) ot tk n own (i + 1) := by
  have hE' : B.clE (own : Int) = 0 := by rw [← h.clE]; exact hE
  have h1 := h.ol
  have h2 := h.la
  have h3 := h.lb
  have ka := (ok_rn h.a).claim (c := (0, 0, 0)) hE
  have kb := (ok_rn h.b).claim (c := (0, 0, 0)) hE'
  have ea := cl_set hE
  have eb := cl_set hE'
  have hc : (A.clC (own : Int)).1 = (own : Int) := by unfold Qu.clC; rw [if_pos hE]
  have ka' : (A.clQ (own : Int)).ok = true := ka.ok
  have kb' : (B.clQ (own : Int)).ok = true := kb.ok
  rw [ea] at ka' ⊢
  rw [eb] at kb' ⊢
  refine ⟨ka', kb', by simpa using h.la, by simpa using h.lb, h.ol, ?_, set_tw h.la h.ol rfl h.tw, fun c hc' => ?_, h.oth, Nat.le_succ_of_le h.ma, Nat.le_succ_of_le h.mb, by simp; exact h.nm, Nat.le_succ_of_le h.no, Nat.le_succ_of_le h.nt⟩
  · show atP (A.ls.set own _) own = atP (B.ls.set own _) own
    rw [atP_set (by omega), atP_set (by omega), if_pos rfl, if_pos rfl, h.same]
  · rcases List.mem_append.1 hc' with hc' | hc'
    · exact h.mine c hc'
    · obtain rfl : c = A.clC (own : Int) := by simpa using hc'
      exact hc
theorem Ap.claim1 (h : Ap A B mn ot tk n own i) {ln : Int} (hl : ln ≠ (own : Int)) (hE : A.clE ln = 0) : Ap (A.clQ ln) B mn (ot ++ [A.clC ln]) tk n own (i + 1) := by
  have ka := (ok_rn h.a).claim (c := (0, 0, 0)) hE
  obtain ⟨j, rfl, hj, _⟩ := lane_of (nam_zero (clE_zero hE).1).2
  have ea := cl_set hE
  have hc : (A.clC (j : Int)).1 = (j : Int) := by unfold Qu.clC; rw [if_pos hE]
  have ka' : (A.clQ (j : Int)).ok = true := ka.ok
  have h1 := h.ol
  have h2 := h.la
  rw [ea] at ka' ⊢
  refine ⟨ka', h.b, by simpa using h.la, h.lb, h.ol, ?_, set_tw h.la (by omega) rfl h.tw, h.mine, fun c hc' => ?_, Nat.le_succ_of_le h.ma, Nat.le_succ_of_le h.mb, Nat.le_succ_of_le h.nm, by simp; exact h.no, Nat.le_succ_of_le h.nt⟩
  · show atP (A.ls.set j _) own = _
    rw [atP_set hj, if_neg (by omega)]
    exact h.same
  · rcases List.mem_append.1 hc' with hc' | hc'
    · exact h.oth c hc'
    · obtain rfl : c = A.clC (j : Int) := by simpa using hc'
      rw [hc]; exact hl
theorem Ap.pub2 (h : Ap A B mn ot tk n own i) {m ep x : Int} (hE : A.pbE (own : Int) m ep = 0) : Ap (A.pbQ (own : Int) m ep x) (B.pbQ (own : Int) m ep x) mn ot tk n own (i + 1) := by
  have hE' : B.pbE (own : Int) m ep = 0 := by rw [← h.pbE]; exact hE
  have h1 := h.ol
  have h2 := h.la
  have h3 := h.lb
  have ka' : (A.pbQ (own : Int) m ep x).ok = true := ((ok_rn h.a).publish (pay := x) (cl := []) (Nat.zero_le _) hE).ok
  have kb' : (B.pbQ (own : Int) m ep x).ok = true := ((ok_rn h.b).publish (pay := x) (cl := []) (Nat.zero_le _) hE').ok
  rw [pb_set hE] at ka' ⊢
  rw [pb_set hE'] at kb' ⊢
  refine ⟨ka', kb', by simpa using h.la, by simpa using h.lb, h.ol, ?_, set_tw h.la h.ol rfl h.tw, h.mine, h.oth, by simp; exact h.ma, by simp; exact h.mb, Nat.le_succ_of_le h.nm, Nat.le_succ_of_le h.no, Nat.le_succ_of_le h.nt⟩
  show atP (A.ls.set own _) own = atP (B.ls.set own _) own
  rw [atP_set (by omega), atP_set (by omega), if_pos rfl, if_pos rfl, h.same]
theorem Ap.pub1 (h : Ap A B mn ot tk n own i) {ln m ep x : Int} (hl : ln ≠ (own : Int)) (hE : A.pbE ln m ep = 0) : Ap (A.pbQ ln m ep x) B mn ot tk n own (i + 1) := by
  have ka' : (A.pbQ ln m ep x).ok = true := ((ok_rn h.a).publish (pay := x) (cl := []) (Nat.zero_le _) hE).ok
  obtain ⟨j, rfl, hj, _⟩ := lane_of (nam_zero (pbE_zero hE).1).2
  have h1 := h.ol
  have h2 := h.la
  rw [pb_set hE] at ka' ⊢
  refine ⟨ka', h.b, by simpa using h.la, h.lb, h.ol, ?_, set_tw h.la (by omega) rfl h.tw, h.mine, h.oth, by simp; exact h.ma, Nat.le_succ_of_le h.mb, Nat.le_succ_of_le h.nm, Nat.le_succ_of_le h.no, Nat.le_succ_of_le h.nt⟩
  show atP (A.ls.set j _) own = _
  rw [atP_set hj, if_neg (by omega)]
  exact h.same
theorem Ap.take1 (h : Ap A B mn ot tk n own i) (hE : A.tkE = 0) : Ap A.tkQ B mn ot (tk ++ [A.tkM]) n own (i + 1) := by
  have ka' : A.tkQ.ok = true := ((ok_rn h.a).take hE).ok
  have e : A.tkQ = ⟨A.ls, A.ms.tail⟩ := by rw [Qu.tkQ, if_pos hE]
  rw [e] at ka' ⊢
  exact ⟨ka', h.b, h.la, h.lb, h.ol, h.same, h.tw, h.mine, h.oth, by have := h.ma; simp; omega, Nat.le_succ_of_le h.mb, Nat.le_succ_of_le h.nm, Nat.le_succ_of_le h.no, by simp; exact h.nt⟩
theorem Ap.ret1 (h : Ap A B mn ot tk n own i) {ln ep : Int} (hE : A.rtE ln ep = 0) : A.rtQ ln ep = A := by
  have hn : A.nam ln = 0 := by
    unfold Qu.rtE at hE
    by_cases h1 : A.nam ln = 0
    · exact h1
    · rw [if_neg h1] at hE; exact hE
  obtain ⟨j, rfl, hj, hl⟩ := lane_of (nam_zero hn).2
  rw [Qu.rtQ, if_pos hE, hl, if_neg]
  rintro ⟨_, h2⟩
  have h3 := h.tw j (by have := h.la; omega)
  rw [h3] at h2
  cases h2
/-- a lane set anew is one that may be -/
theorem reset_ok {Q : Qu} {j : Nat} (hE : Q.rsE (j : Int) = 0) : (Q.rsQ (j : Int)).ok = true ∧ Q.rsQ (j : Int) = ⟨Q.ls.set j (rstL (atP Q.ls j)), Q.ms.filter fun m => !(m.ln == (j : Int))⟩ := by
  have e : Q.rsQ (j : Int) = ⟨Q.ls.set j (rstL (atP Q.ls j)), Q.ms.filter fun m => !(m.ln == (j : Int))⟩ := by rw [Qu.rsQ, if_pos hE]; rfl
  refine ⟨?_, e⟩
  have hE2 := hE
  unfold Qu.rsE at hE2
  have hn : Q.nam (j : Int) = 0 := by
    by_cases h1 : Q.nam (j : Int) = 0
    · exact h1
    · rw [if_neg h1] at hE2; exact hE2
  rw [if_pos hn] at hE2
  obtain ⟨hok, hH⟩ := nam_zero hn
  have hj : j < Q.ls.length := by simp [Qu.hasB] at hH; omega
  have hcl : (atP Q.ls j).cl.length = 0 ∧ (atP Q.ls j).ep ≠ mxC := by
    have hl : Q.lane (j : Int) = atP Q.ls j := rfl
    rw [hl] at hE2
    split at hE2
    · cases hE2
    · next h1 =>
      split at hE2
      · cases hE2
      · next h2 => exact ⟨by omega, h2⟩
  obtain ⟨h1, h2, h3⟩ := (ok_iff Q).1 hok
  rw [e]
  refine (ok_iff _).2 ⟨by simpa using h1, fun m hm => ?_, fun k hk => ?_⟩
  · have hm : m ∈ Q.ms ∧ ¬ m.ln = (j : Int) := by simpa using hm
    have h4 := h2 m hm.1
    unfold okM Qu.hasB Qu.lane at h4 ⊢
    simp only [List.length_set] at h4 ⊢
    have h5 : ¬ m.ln.toNat = j := by
      intro e2
      simp at h4
      exact hm.2 (by omega)
    rw [atP_set hj, if_neg h5]
    exact h4
  · have hk : k < Q.ls.length := by simpa using hk
    show okL (atP (Q.ls.set j (rstL (atP Q.ls j))) k) (cnt (Q.ms.filter fun m => !(m.ln == (j : Int))) (k : Int)) = true
    rw [atP_set hj]
    by_cases ek : k = j
    · have ek' := ek.symm
      subst ek'
      rw [if_pos rfl]
      have h4 := okL_iff.1 (h3 j hj)
      have h5 := hasCr_iff.1 h4.1
      have h6 := hasNo_iff.1 h4.2.1
      have hz : cnt (Q.ms.filter fun m => !(m.ln == (j : Int))) (j : Int) = 0 := by
        unfold cnt
        rw [List.length_eq_zero_iff, List.filter_eq_nil_iff]
        intro m hm
        have hm : m ∈ Q.ms ∧ ¬ m.ln = (j : Int) := by simpa using hm
        simpa using hm.2
      have hcn : (atP Q.ls j).cl = [] := List.length_eq_zero_iff.1 hcl.1
      have hep : (atP Q.ls j).ep ≠ 1099511627776 := hcl.2
      rw [hz]
      refine okL_iff.2 ⟨hasCr_iff.2 ?_, hasNo_iff.2 ?_, ?_, ?_⟩
      · simp only [rstL]; omega
      · simp only [rstL]; omega
      · simp only [rstL, tkn, hcn]; simp
      · simp only [rstL, hcn]; rfl
    · rw [if_neg ek]
      have h4 := okL_iff.1 (h3 k hk)
      refine okL_iff.2 ⟨h4.1, h4.2.1, ?_, h4.2.2.2⟩
      have h5 := h4.2.2.1
      have h6 : cnt (Q.ms.filter fun m => !(m.ln == (j : Int))) (k : Int) ≤ cnt Q.ms (k : Int) := by
        unfold cnt
        exact (List.filter_sublist.filter _).length_le
      unfold tkn at h5 ⊢
      omega
theorem Ap.res2 (h : Ap A B mn ot tk n own i) (hE : A.rsE (own : Int) = 0) : Ap (A.rsQ (own : Int)) (B.rsQ (own : Int)) mn ot tk n own (i + 1) := by
  have hE' : B.rsE (own : Int) = 0 := by rw [← h.rsE]; exact hE
  obtain ⟨ka', ea⟩ := reset_ok hE
  obtain ⟨kb', eb⟩ := reset_ok hE'
  have h1 := h.ol
  have h2 := h.la
  have h3 := h.lb
  rw [ea] at ka' ⊢
  rw [eb] at kb' ⊢
  refine ⟨ka', kb', by simpa using h.la, by simpa using h.lb, h.ol, ?_, set_tw h.la h.ol rfl h.tw, h.mine, h.oth, Nat.le_succ_of_le (Nat.le_trans (List.length_filter_le _ _) h.ma), Nat.le_succ_of_le (Nat.le_trans (List.length_filter_le _ _) h.mb), Nat.le_succ_of_le h.nm, Nat.le_succ_of_le h.no, Nat.le_succ_of_le h.nt⟩
  show atP (A.ls.set own _) own = atP (B.ls.set own _) own
  rw [atP_set (by omega), atP_set (by omega), if_pos rfl, if_pos rfl, h.same]
theorem Ap.okqA (h : Ap A B mn ot tk n own i) (hi : i ≤ 900) : OkQ A := ((ok_rn h.a).okq (by have := h.ma; omega))
theorem Ap.okqB (h : Ap A B mn ot tk n own i) (hi : i ≤ 900) : OkQ B := ((ok_rn h.b).okq (by have := h.mb; omega))
end
end Go.Proofs.Ytkgehbonijpdnaa
