/- Runs of a queue, as plain data: what every call keeps. -/
import Derived.Test.YtkgehbonijpdnaaUOwn
namespace Go.Proofs.Ytkgehbonijpdnaa
open Go.RowKit

theorem ris_mono {nx : Int} : ∀ {l : List Int} {lo lo' : Int}, lo' ≤ lo → ris nx lo l = true → ris nx lo' l = true
  | [], _, _, _, _ => rfl
  | x :: xs, lo, lo', h, e => by
    rw [ris, Bool.and_eq_true, win_iff] at e ⊢
    exact ⟨⟨by omega, e.1.2⟩, e.2⟩
theorem ris_tail {nx lo : Int} {l : List Int} (h : ris nx lo l = true) : ris nx lo l.tail = true := by
  cases l with
  | nil => rfl
  | cons x xs =>
    rw [ris, Bool.and_eq_true, win_iff] at h
    exact ris_mono (by omega) h.2
theorem ris_snoc {nx : Int} : ∀ {l : List Int} {lo : Int}, lo ≤ nx → ris nx lo l = true → ris (nx + 1) lo (l ++ [nx]) = true
  | [], lo, h, _ => by
    show (win nx lo (nx + 1 - 1) && true) = true
    rw [Bool.and_true, win_iff]
    omega
  | x :: xs, lo, h, e => by
    rw [ris, Bool.and_eq_true, win_iff] at e
    show (win x lo (nx + 1 - 1) && ris (nx + 1) (x + 1) (xs ++ [nx])) = true
    rw [Bool.and_eq_true, win_iff]
    exact ⟨⟨e.1.1, by omega⟩, ris_snoc (by omega) e.2⟩
theorem okL_iff {l : PLn} {q : Nat} : okL l q = true ↔ hasCr l = true ∧ hasNo l = true ∧ 0 ≤ tkn l q ∧ ris l.nx 0 l.cl = true := by
  unfold okL covB
  rw [Bool.and_eq_true, Bool.and_eq_true, Bool.and_eq_true, decide_eq_true_iff]
/-- a lane set to one of the same epoch, messages changed -/
theorem ok_set {Q : Qu} {j : Nat} {x : PLn} {ms : List PMs} (hok : Q.ok = true) (hj : j < Q.ls.length) (hep : x.ep = (atP Q.ls j).ep) (hx : okL x (cnt ms (j : Int)) = true) (hm : ∀ m ∈ ms, okM Q m = true) (hc : ∀ i : Nat, i < Q.ls.length → ¬ i = j → cnt ms (i : Int) ≤ cnt Q.ms (i : Int)) : (⟨Q.ls.set j x, ms⟩ : Qu).ok = true := by
  obtain ⟨h1, h2, h3⟩ := (ok_iff Q).1 hok
  refine (ok_iff _).2 ⟨by simpa using h1, fun m hm' => ?_, fun i hi => ?_⟩
  · have := hm m hm'
    unfold okM Qu.hasB Qu.lane at this ⊢
    simp only [List.length_set] at this ⊢
    rw [atP_set hj]
    by_cases e : m.ln.toNat = j
    · rw [if_pos e, hep, ← e]; exact this
    · rw [if_neg e]; exact this
  · have hi' : i < Q.ls.length := by simpa using hi
    show okL (atP (Q.ls.set j x) i) (cnt ms (i : Int)) = true
    rw [atP_set hj]
    by_cases e : i = j
    · rw [if_pos e, e]; exact hx
    · rw [if_neg e]
      have h4 := okL_iff.1 (h3 i hi')
      refine okL_iff.2 ⟨h4.1, h4.2.1, ?_, h4.2.2.2⟩
      have h5 := h4.2.2.1
      have h6 := hc i hi' e
      unfold tkn at h5 ⊢
      omega
structure Rn where
  q : Qu
  cl : List (Int × Int × Int)
  se : List Int
  tk : List PMs
structure Rn.Ok (R : Rn) (l : List Int) (i : Nat) : Prop where
  ok : R.q.ok = true
  len : R.q.ls.length = l.length
  cr : ∀ k, k < l.length → (atP R.q.ls k).cr = atI l k
  se : R.se = R.q.ms.map PMs.pay
  ms : R.q.ms.length ≤ i
  has : ∀ m ∈ R.tk, R.q.hasB m.ln = true
  tk : ∀ k : Nat, k < l.length → (cnt R.tk (k : Int) : Int) ≤ tkn (atP R.q.ls k) (cnt R.q.ms (k : Int))
  ncl : R.cl.length ≤ i
  ntk : R.tk.length ≤ i
theorem Rn.Ok.up {R : Rn} {l : List Int} {i : Nat} (h : R.Ok l i) : R.Ok l (i + 1) := ⟨h.ok, h.len, h.cr, h.se, Nat.le_succ_of_le h.ms, h.has, h.tk, Nat.le_succ_of_le h.ncl, Nat.le_succ_of_le h.ntk⟩
theorem Rn.Ok.okq {R : Rn} {l : List Int} {i : Nat} (h : R.Ok l i) (hi : i ≤ 900) : OkQ R.q := by
  obtain ⟨h1, h2, h3⟩ := (ok_iff R.q).1 h.ok
  refine ⟨by omega, by have := h.ms; omega, fun j hj => ?_⟩
  have h4 := okL_iff.1 (h3 j hj)
  have h5 := hasCr_iff.1 h4.1
  have h6 := h4.2.2.1
  unfold tkn at h6
  omega
/-- no lane has more messages than its credit -/
theorem Rn.Ok.few {R : Rn} {l : List Int} {i k : Nat} (h : R.Ok l i) (hk : k < l.length) : (cnt R.q.ms (k : Int) : Int) ≤ atI l k := by
  have h3 := ((ok_iff R.q).1 h.ok).2.2 k (by rw [h.len]; exact hk)
  have h4 := okL_iff.1 h3
  have h5 := hasCr_iff.1 h4.1
  have h6 := h4.2.2.1
  have h7 := h.cr k hk
  unfold tkn at h6
  omega
theorem lane_of {Q : Qu} {i : Int} (h : Q.hasB i = true) : ∃ j : Nat, i = (j : Int) ∧ j < Q.ls.length ∧ Q.lane i = atP Q.ls j := by
  simp [Qu.hasB] at h
  exact ⟨i.toNat, by omega, by omega, rfl⟩
theorem clE_zero {Q : Qu} {i : Int} (h : Q.clE i = 0) : Q.nam i = 0 ∧ (Q.lane i).lf ≠ 0 ∧ (Q.lane i).nx ≠ mxC := by
  unfold Qu.clE at h
  by_cases h1 : Q.nam i = 0
  · rw [if_pos h1] at h
    by_cases h2 : (Q.lane i).lf = 0
    · rw [if_pos h2] at h; cases h
    · rw [if_neg h2] at h
      by_cases h3 : (Q.lane i).nx = mxC
      · rw [if_pos h3] at h; cases h
      · exact ⟨h1, h2, h3⟩
  · rw [if_neg h1] at h; exact absurd h h1
theorem atP_set2 {ls : List PLn} {k j : Nat} {x : PLn} (hk : k < ls.length) (p : PLn → Prop) (h1 : p x) (h2 : p (atP ls j)) : p (atP (ls.set k x) j) := by
  rw [atP_set hk]
  split
  · exact h1
  · exact h2
theorem Rn.Ok.claim {R : Rn} {l : List Int} {i : Nat} {ln : Int} {c : Int × Int × Int} (h : R.Ok l i) (hE : R.q.clE ln = 0) : Rn.Ok ⟨R.q.clQ ln, R.cl ++ [c], R.se, R.tk⟩ l (i + 1) := by
  obtain ⟨hn, hlf, hnx⟩ := clE_zero hE
  obtain ⟨hok, hH⟩ := nam_zero hn
  obtain ⟨j, rfl, hj, hl⟩ := lane_of hH
  have e : R.q.clQ (j : Int) = ⟨R.q.ls.set j (claimL (atP R.q.ls j)), R.q.ms⟩ := by rw [Qu.clQ, if_pos hE, hl]; rfl
  rw [hl] at hlf hnx
  obtain ⟨g1, g2, g3⟩ := (ok_iff R.q).1 hok
  have h4 := okL_iff.1 (g3 j hj)
  have h5 := hasCr_iff.1 h4.1
  have h6 := hasNo_iff.1 h4.2.1
  have h7 : (atP R.q.ls j).nx ≠ 1099511627776 := hnx
  have htk : ∀ q, tkn (claimL (atP R.q.ls j)) q = tkn (atP R.q.ls j) q := fun q => by simp [tkn, claimL]; omega
  refine ⟨?_, ?_, fun k hk => ?_, ?_, ?_, fun m hm => ?_, fun k hk => ?_, ?_, Nat.le_succ_of_le h.ntk⟩
  · show (R.q.clQ (j : Int)).ok = true
    rw [e]
    refine ok_set hok hj rfl (okL_iff.2 ⟨hasCr_iff.2 ?_, hasNo_iff.2 ?_, ?_, ?_⟩) g2 fun i _ _ => Nat.le_refl _
    · simp only [claimL]; omega
    · simp only [claimL]; omega
    · rw [htk]; exact h4.2.2.1
    · exact ris_snoc h6.1.1 h4.2.2.2
  · show (R.q.clQ (j : Int)).ls.length = _
    rw [e]; simpa using h.len
  · show (atP (R.q.clQ (j : Int)).ls k).cr = _
    rw [e]
    show (atP (R.q.ls.set j (claimL (atP R.q.ls j))) k).cr = _
    rw [atP_set hj]
    by_cases ek : k = j
    · rw [if_pos ek, ← ek]; exact h.cr k hk
    · rw [if_neg ek]; exact h.cr k hk
  · show R.se = (R.q.clQ (j : Int)).ms.map PMs.pay
    rw [e]; exact h.se
  · show (R.q.clQ (j : Int)).ms.length ≤ _
    rw [e]; exact Nat.le_succ_of_le h.ms
  · show (R.q.clQ (j : Int)).hasB m.ln = true
    have := h.has m hm
    rw [e]
    unfold Qu.hasB at this ⊢
    simpa using this
  · show _ ≤ tkn (atP (R.q.clQ (j : Int)).ls k) (cnt (R.q.clQ (j : Int)).ms (k : Int))
    rw [e]
    show (cnt R.tk (k : Int) : Int) ≤ tkn (atP (R.q.ls.set j (claimL (atP R.q.ls j))) k) (cnt R.q.ms (k : Int))
    rw [atP_set hj]
    by_cases ek : k = j
    · rw [if_pos ek, htk, ← ek]; exact h.tk k hk
    · rw [if_neg ek]; exact h.tk k hk
  · have := h.ncl
    simp
    omega
theorem Rn.Ok.publish {R : Rn} {l : List Int} {i : Nat} {ln n ep pay : Int} {cl : List (Int × Int × Int)} (h : R.Ok l i) (hcl : cl.length ≤ i + 1) (hE : R.q.pbE ln n ep = 0) : Rn.Ok ⟨R.q.pbQ ln n ep pay, cl, R.se ++ [pay], R.tk⟩ l (i + 1) := by
  obtain ⟨hn, hop, _⟩ := pbE_zero hE
  obtain ⟨hok, hH⟩ := nam_zero hn
  have hH' := hH
  obtain ⟨j, rfl, hj, hl⟩ := lane_of hH
  have e : R.q.pbQ (j : Int) n ep pay = ⟨R.q.ls.set j (pubL (atP R.q.ls j)), R.q.ms ++ [⟨(j : Int), ep, n, pay⟩]⟩ := by rw [Qu.pbQ, if_pos hE, hl]; rfl
  have hop' := hop
  rw [hl] at hop
  obtain ⟨g1, g2, g3⟩ := (ok_iff R.q).1 hok
  have h4 := okL_iff.1 (g3 j hj)
  have hpos : 0 < (atP R.q.ls j).cl.length := by
    rcases Nat.eq_zero_or_pos (atP R.q.ls j).cl.length with h0 | h0
    · have : (atP R.q.ls j).cl = [] := List.length_eq_zero_iff.1 h0
      simp [opn, this] at hop
    · exact h0
  have hep : (atP R.q.ls j).ep = ep := by simp [opn] at hop; exact hop.1
  have hcn : ∀ k : Nat, cnt (R.q.ms ++ [⟨(j : Int), ep, n, pay⟩]) (k : Int) = cnt R.q.ms (k : Int) + if k = j then 1 else 0 := fun k => by
    rw [cnt_snoc]
    by_cases ek : k = j
    · simp [ek]
    · rw [if_neg ek, if_neg (show ¬ (j : Int) = (k : Int) by omega)]
  have htk : tkn (pubL (atP R.q.ls j)) (cnt R.q.ms (j : Int) + 1) = tkn (atP R.q.ls j) (cnt R.q.ms (j : Int)) := by simp [tkn, pubL]; omega
  refine ⟨?_, ?_, fun k hk => ?_, ?_, ?_, fun m hm => ?_, fun k hk => ?_, hcl, Nat.le_succ_of_le h.ntk⟩
  · show (R.q.pbQ (j : Int) n ep pay).ok = true
    rw [e]
    refine ok_set hok hj rfl (okL_iff.2 ⟨h4.1, h4.2.1, ?_, ?_⟩) (fun m hm => ?_) fun i _ hi => ?_
    · rw [hcn, if_pos rfl, htk]; exact h4.2.2.1
    · exact ris_tail h4.2.2.2
    · rcases List.mem_append.1 hm with hm | hm
      · exact g2 m hm
      · obtain rfl := List.mem_singleton.1 hm
        show (R.q.hasB (j : Int) && (ep == (R.q.lane (j : Int)).ep)) = true
        rw [hH', hl, hep]
        simp
    · rw [hcn, if_neg hi]
      omega
  · show (R.q.pbQ (j : Int) n ep pay).ls.length = _
    rw [e]; simpa using h.len
  · show (atP (R.q.pbQ (j : Int) n ep pay).ls k).cr = _
    rw [e]
    show (atP (R.q.ls.set j (pubL (atP R.q.ls j))) k).cr = _
    rw [atP_set hj]
    by_cases ek : k = j
    · rw [if_pos ek, ← ek]; exact h.cr k hk
    · rw [if_neg ek]; exact h.cr k hk
  · show R.se ++ [pay] = (R.q.pbQ (j : Int) n ep pay).ms.map PMs.pay
    rw [e, h.se]
    simp
  · show (R.q.pbQ (j : Int) n ep pay).ms.length ≤ _
    rw [e]
    have := h.ms
    simp
    omega
  · show (R.q.pbQ (j : Int) n ep pay).hasB m.ln = true
    have := h.has m hm
    rw [e]
    unfold Qu.hasB at this ⊢
    simpa using this
  · show _ ≤ tkn (atP (R.q.pbQ (j : Int) n ep pay).ls k) (cnt (R.q.pbQ (j : Int) n ep pay).ms (k : Int))
    rw [e]
    show (cnt R.tk (k : Int) : Int) ≤ tkn (atP (R.q.ls.set j (pubL (atP R.q.ls j))) k) (cnt (R.q.ms ++ [⟨(j : Int), ep, n, pay⟩]) (k : Int))
    rw [atP_set hj, hcn]
    by_cases ek : k = j
    · rw [if_pos ek, if_pos ek, ek, htk]
      have := h.tk k hk
      rwa [ek] at this
    · rw [if_neg ek, if_neg ek]; exact h.tk k hk
theorem Rn.Ok.take {R : Rn} {l : List Int} {i : Nat} (h : R.Ok l i) (hE : R.q.tkE = 0) : Rn.Ok ⟨R.q.tkQ, R.cl, R.se.tail, R.tk ++ [R.q.tkM]⟩ l (i + 1) := by
  obtain ⟨m, ms, hm⟩ : ∃ m ms, R.q.ms = m :: ms := by
    cases hms : R.q.ms with
    | nil => rw [Qu.tkE, if_pos h.ok, hms] at hE; cases hE
    | cons m ms => exact ⟨m, ms, rfl⟩
  have e : R.q.tkQ = ⟨R.q.ls, ms⟩ := by rw [Qu.tkQ, if_pos hE, hm]; rfl
  have eM : R.q.tkM = m := by rw [Qu.tkM, if_pos hE, hm]; rfl
  obtain ⟨g1, g2, g3⟩ := (ok_iff R.q).1 h.ok
  have hcn : ∀ k : Int, cnt R.q.ms k = cnt ms k + if m.ln = k then 1 else 0 := fun k => by
    rw [hm]
    unfold cnt
    by_cases e : m.ln = k <;> simp [e]
  rw [e, eM]
  refine ⟨(ok_iff _).2 ⟨g1, fun m' hm' => g2 m' (by rw [hm]; exact List.mem_cons_of_mem _ hm'), fun j hj => ?_⟩, h.len, h.cr, ?_, ?_, fun m' hm' => ?_, fun k hk => ?_, Nat.le_succ_of_le h.ncl, ?_⟩
  · have h4 := okL_iff.1 (g3 j hj)
    refine okL_iff.2 ⟨h4.1, h4.2.1, ?_, h4.2.2.2⟩
    have h5 := h4.2.2.1
    rw [hcn] at h5
    show 0 ≤ tkn (atP R.q.ls j) (cnt ms (j : Int))
    unfold tkn at h5 ⊢
    omega
  · show R.se.tail = ms.map PMs.pay
    rw [h.se, hm]; rfl
  · have := h.ms
    rw [hm] at this
    show ms.length ≤ _
    simp at this
    omega
  · rcases List.mem_append.1 hm' with hm' | hm'
    · exact h.has m' hm'
    · obtain rfl := List.mem_singleton.1 hm'
      have := g2 m' (by rw [hm]; exact List.mem_cons_self)
      unfold okM at this
      rw [Bool.and_eq_true] at this
      exact this.1
  · show (cnt (R.tk ++ [m]) (k : Int) : Int) ≤ tkn (atP R.q.ls k) (cnt ms (k : Int))
    have h5 := h.tk k hk
    rw [hcn] at h5
    rw [cnt_snoc]
    unfold tkn at h5 ⊢
    split at h5 <;> simp_all <;> omega
  · have := h.ntk
    simp
    omega
theorem cnt_erase : ∀ (l : List PMs) (k : Nat) (hk : k < l.length) (i : Int), cnt l i = cnt (l.eraseIdx k) i + if l[k].ln = i then 1 else 0
  | m :: ms, 0, _, i => by
    unfold cnt
    by_cases e : m.ln = i <;> simp [e]
  | m :: ms, k + 1, hk, i => by
    have := cnt_erase ms k (by simpa using hk) i
    have e1 : ∀ l : List PMs, cnt (m :: l) i = cnt l i + if m.ln = i then 1 else 0 := fun l => by
      unfold cnt
      by_cases e : m.ln = i <;> simp [e]
    rw [List.eraseIdx_cons_succ, e1, e1, this]
    simp
    omega
theorem Rn.Ok.retire {R : Rn} {l : List Int} {i k : Nat} (h : R.Ok l i) (hk : k < R.tk.length) : R.q.rtE R.tk[k].ln R.tk[k].ep = 0 ∧ Rn.Ok ⟨R.q.rtQ R.tk[k].ln R.tk[k].ep, R.cl, R.se, R.tk.eraseIdx k⟩ l (i + 1) := by
  have hH := h.has _ (List.getElem_mem hk)
  have hcE := cnt_erase R.tk k hk
  have hn : R.q.nam R.tk[k].ln = 0 := by unfold Qu.nam; rw [if_pos h.ok, if_pos hH]
  obtain ⟨j, hj0, hj, hl⟩ := lane_of hH
  have hjl : j < l.length := by rw [← h.len]; exact hj
  have h5 := h.tk j hjl
  have hE : R.q.rtE R.tk[k].ln R.tk[k].ep = 0 := by
    unfold Qu.rtE
    rw [if_pos hn, if_neg]
    rintro ⟨_, h0⟩
    rw [hl, hj0] at h0
    rw [hcE, if_pos hj0] at h5
    omega
  refine ⟨hE, ?_⟩
  obtain ⟨g1, g2, g3⟩ := (ok_iff R.q).1 h.ok
  have hmem : ∀ m ∈ R.tk.eraseIdx k, m ∈ R.tk := fun m hm => List.mem_of_mem_eraseIdx hm
  have hlen : (R.tk.eraseIdx k).length ≤ i + 1 := by
    have h1 := h.ntk
    have h2 : (R.tk.eraseIdx k).length = R.tk.length - 1 := by rw [List.length_eraseIdx, if_pos hk]
    omega
  have hle : ∀ q : Int, (cnt (R.tk.eraseIdx k) q : Int) ≤ cnt R.tk q := fun q => by rw [hcE q]; omega
  by_cases hc : R.tk[k].ep = (R.q.lane R.tk[k].ln).ep ∧ (R.q.lane R.tk[k].ln).tw = true
  · have e : R.q.rtQ R.tk[k].ln R.tk[k].ep = ⟨R.q.ls.set j (retL (atP R.q.ls j)), R.q.ms⟩ := by
      rw [Qu.rtQ, if_pos hE, if_pos hc, hl, hj0]; rfl
    rw [e]
    have h4 := okL_iff.1 (g3 j hj)
    have h6 := hasCr_iff.1 h4.1
    have hcj := hcE (j : Int)
    rw [if_pos hj0] at hcj
    have htk : ∀ q, tkn (retL (atP R.q.ls j)) q = tkn (atP R.q.ls j) q - 1 := fun q => by simp [tkn, retL]; omega
    have hlf : (atP R.q.ls j).lf + 1 ≤ (atP R.q.ls j).cr := by
      rw [hcj] at h5
      unfold tkn at h5
      omega
    refine ⟨ok_set h.ok hj rfl (okL_iff.2 ⟨hasCr_iff.2 ?_, h4.2.1, ?_, h4.2.2.2⟩) g2 fun _ _ _ => Nat.le_refl _, by simpa using h.len, fun k' hk' => ?_, h.se, Nat.le_succ_of_le h.ms, fun m hm => ?_, fun k' hk' => ?_, Nat.le_succ_of_le h.ncl, hlen⟩
    · simp only [retL]; omega
    · rw [htk]
      rw [hcj] at h5
      omega
    · show (atP (R.q.ls.set j (retL (atP R.q.ls j))) k').cr = _
      rw [atP_set hj]
      by_cases ek : k' = j
      · rw [if_pos ek, ← ek]; exact h.cr k' hk'
      · rw [if_neg ek]; exact h.cr k' hk'
    · have := h.has m (hmem m hm)
      unfold Qu.hasB at this ⊢
      simpa using this
    · show (cnt (R.tk.eraseIdx k) (k' : Int) : Int) ≤ tkn (atP (R.q.ls.set j (retL (atP R.q.ls j))) k') (cnt R.q.ms (k' : Int))
      rw [atP_set hj]
      by_cases ek : k' = j
      · rw [if_pos ek, htk, ek]
        rw [hcj] at h5
        omega
      · rw [if_neg ek]
        exact Int.le_trans (hle _) (h.tk k' hk')
  · have e : R.q.rtQ R.tk[k].ln R.tk[k].ep = R.q := by rw [Qu.rtQ, if_pos hE, if_neg hc]
    rw [e]
    exact ⟨h.ok, h.len, h.cr, h.se, Nat.le_succ_of_le h.ms, fun m hm => h.has m (hmem m hm), fun k' hk' => Int.le_trans (hle _) (h.tk k' hk'), Nat.le_succ_of_le h.ncl, hlen⟩

end Go.Proofs.Ytkgehbonijpdnaa
