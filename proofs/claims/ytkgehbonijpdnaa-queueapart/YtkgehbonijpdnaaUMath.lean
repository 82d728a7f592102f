/- Plain queues: lanes and messages as lists; which may be; what each call answers. -/
import Derived.WalkKit
namespace Go.Proofs.Ytkgehbonijpdnaa

/-- a lane -/
structure PLn where
  cr : Int
  tw : Bool
  lf : Int
  cl : List Int
  nx : Int
  ep : Int
/-- a message -/
structure PMs where
  ln : Int
  ep : Int
  n : Int
  pay : Int
structure Qu where
  ls : List PLn
  ms : List PMs
def pl0 : PLn := ⟨0, false, 0, [], 0, 0⟩
def pm0 : PMs := ⟨0, 0, 0, 0⟩
def atP (l : List PLn) (j : Nat) : PLn := l.getD j pl0
def atM (l : List PMs) (j : Nat) : PMs := l.getD j pm0
def atI (l : List Int) (j : Nat) : Int := l.getD j 0
theorem atP_eq {l : List PLn} {j : Nat} (h : j < l.length) : atP l j = l[j] := by simp [atP, h]
theorem atM_eq {l : List PMs} {j : Nat} (h : j < l.length) : atM l j = l[j] := by simp [atM, h]
theorem atI_eq {l : List Int} {j : Nat} (h : j < l.length) : atI l j = l[j] := by simp [atI, h]

/-- the lane of a number -/
def Qu.lane (Q : Qu) (i : Int) : PLn := atP Q.ls i.toNat
def Qu.hasB (Q : Qu) (i : Int) : Bool := decide (0 ≤ i) && decide (i < (Q.ls.length : Int))
/-- how many messages a lane has -/
def cnt (ms : List PMs) (i : Int) : Nat := (ms.filter fun m => m.ln == i).length
def win (x lo hi : Int) : Bool := decide (lo ≤ x) && decide (x ≤ hi)
/-- claims rise, from lo on, below nx -/
def ris (nx : Int) : Int → List Int → Bool
  | _, [] => true
  | lo, x :: xs => win x lo (nx - 1) && ris nx (x + 1) xs
def mxC : Int := 1099511627776
def hasCr (l : PLn) : Bool := win l.cr 1 64 && win l.lf 0 l.cr
def hasNo (l : PLn) : Bool := win l.nx 0 mxC && win l.ep 0 mxC
/-- what is taken of a lane with so many messages -/
def tkn (l : PLn) (q : Nat) : Int := l.cr - l.lf - l.cl.length - q
def covB (l : PLn) (q : Nat) : Bool := decide (0 ≤ tkn l q)
def okL (l : PLn) (q : Nat) : Bool := hasCr l && (hasNo l && (covB l q && ris l.nx 0 l.cl))
def okM (Q : Qu) (m : PMs) : Bool := Q.hasB m.ln && (m.ep == (Q.lane m.ln).ep)
def lansOk (ms : List PMs) : Nat → List PLn → Bool
  | _, [] => true
  | i, l :: ls => okL l (cnt ms (i : Int)) && lansOk ms (i + 1) ls
/-- a queue may be -/
def Qu.ok (Q : Qu) : Bool := decide (Q.ls.length ≤ 16) && (Q.ms.all (okM Q) && lansOk Q.ms 0 Q.ls)
def Qu.chk (Q : Qu) : Int := if Q.ok = true then 0 else 100
def qu0 : Qu := ⟨[], []⟩

theorem win_iff {x lo hi : Int} : win x lo hi = true ↔ lo ≤ x ∧ x ≤ hi := by unfold win; rw [Bool.and_eq_true, decide_eq_true_iff, decide_eq_true_iff]
theorem hasCr_iff {l : PLn} : hasCr l = true ↔ (1 ≤ l.cr ∧ l.cr ≤ 64) ∧ 0 ≤ l.lf ∧ l.lf ≤ l.cr := by unfold hasCr; rw [Bool.and_eq_true, win_iff, win_iff]
theorem hasNo_iff {l : PLn} : hasNo l = true ↔ (0 ≤ l.nx ∧ l.nx ≤ 1099511627776) ∧ 0 ≤ l.ep ∧ l.ep ≤ 1099511627776 := by unfold hasNo; rw [Bool.and_eq_true, win_iff, win_iff]; rfl
theorem lansOk_iff (ms : List PMs) : ∀ (ls : List PLn) (i : Nat), lansOk ms i ls = true ↔ ∀ j (h : j < ls.length), okL ls[j] (cnt ms ((i + j : Nat) : Int)) = true
  | [], i => by simp [lansOk]
  | l :: ls, i => by
    rw [lansOk, Bool.and_eq_true, lansOk_iff ms ls (i + 1)]
    constructor
    · rintro ⟨h1, h2⟩ j hj
      cases j with
      | zero => exact h1
      | succ j =>
        have := h2 j (by simpa using hj)
        rwa [show i + 1 + j = i + (j + 1) by omega] at this
    · intro h
      refine ⟨h 0 (by simp), fun j hj => ?_⟩
      have := h (j + 1) (by simpa using hj)
      rwa [show i + (j + 1) = i + 1 + j by omega] at this
theorem ok_iff (Q : Qu) : Q.ok = true ↔ Q.ls.length ≤ 16 ∧ (∀ m ∈ Q.ms, okM Q m = true) ∧ ∀ j, j < Q.ls.length → okL (atP Q.ls j) (cnt Q.ms (j : Int)) = true := by
  unfold Qu.ok
  rw [Bool.and_eq_true, Bool.and_eq_true, decide_eq_true_iff, List.all_eq_true, lansOk_iff]
  constructor
  · rintro ⟨h1, h2, h3⟩
    exact ⟨h1, h2, fun j hj => by rw [atP_eq hj]; simpa using h3 j hj⟩
  · rintro ⟨h1, h2, h3⟩
    exact ⟨h1, h2, fun j hj => by have := h3 j hj; rw [atP_eq hj] at this; simpa using this⟩
theorem not_ok {Q : Qu} (h : ¬ Q.ls.length ≤ 16 ∨ (∃ m ∈ Q.ms, okM Q m = false) ∨ ∃ j, j < Q.ls.length ∧ okL (atP Q.ls j) (cnt Q.ms (j : Int)) = false) : Q.ok = false := by
  cases e : Q.ok with
  | false => rfl
  | true =>
    obtain ⟨h1, h2, h3⟩ := (ok_iff Q).1 e
    rcases h with h | ⟨m, hm, h⟩ | ⟨j, hj, h⟩
    · exact absurd h1 h
    · rw [h2 m hm] at h; cases h
    · rw [h3 j hj] at h; cases h
theorem chk_ok {Q : Qu} (h : Q.ok = true) : Q.chk = 0 := by simp [Qu.chk, h]
theorem chk_no {Q : Qu} (h : Q.ok = false) : Q.chk = 100 := by simp [Qu.chk, h]

theorem cnt_snoc (ms : List PMs) (m : PMs) (i : Int) : cnt (ms ++ [m]) i = cnt ms i + if m.ln = i then 1 else 0 := by
  unfold cnt
  rw [List.filter_append, List.length_append]
  by_cases h : m.ln = i <;> simp [h]
theorem cnt_take (ms : List PMs) (k : Nat) (h : k < ms.length) (i : Int) : cnt (ms.take (k + 1)) i = cnt (ms.take k) i + if (atM ms k).ln = i then 1 else 0 := by
  rw [List.take_succ_eq_append_getElem h, cnt_snoc, atM_eq h]
theorem cnt_le (ms : List PMs) (i : Int) : cnt ms i ≤ ms.length := List.length_filter_le _ _

/-- the same lane, the same message, the same queue -/
def eqI : List Int → List Int → Bool
  | [], [] => true
  | a :: l, b :: r => a == b && eqI l r
  | _, _ => false
def eqL (a b : PLn) : Bool := a.cr == b.cr && (a.tw == b.tw && (a.lf == b.lf && (eqI a.cl b.cl && (a.nx == b.nx && a.ep == b.ep))))
def eqM (a b : PMs) : Bool := a.ln == b.ln && (a.ep == b.ep && (a.n == b.n && a.pay == b.pay))
def eqF {α : Type} (f : α → α → Bool) (d : α) (l r : List α) : Bool := decide (l.length = r.length ∧ ∀ j, j < l.length → f (l.getD j d) (r.getD j d) = true)
def eqQ (a b : Qu) : Bool := eqF eqL pl0 a.ls b.ls && eqF eqM pm0 a.ms b.ms
theorem eqI_iff : ∀ (a b : List Int), eqI a b = true ↔ a = b
  | [], [] => by simp [eqI]
  | [], _ :: _ => by simp [eqI]
  | _ :: _, [] => by simp [eqI]
  | x :: l, y :: r => by rw [eqI, Bool.and_eq_true, eqI_iff l r]; simp
theorem eqL_refl (a : PLn) : eqL a a = true := by
  have := (eqI_iff a.cl a.cl).2 rfl
  simp [eqL, this]
theorem eqM_refl (a : PMs) : eqM a a = true := by simp [eqM]
theorem eqQ_refl (a : Qu) : eqQ a a = true := by simp [eqQ, eqF, eqL_refl, eqM_refl]

/-- a lane of other values; a lane set -/
def Qu.setL (Q : Qu) (i : Int) (l : PLn) : Qu := ⟨Q.ls.set i.toNat l, Q.ms⟩
/-- what keeps a call from a lane -/
def Qu.nam (Q : Qu) (i : Int) : Int := if Q.ok = true then (if Q.hasB i = true then 0 else 5) else 100
theorem nam_zero {Q : Qu} {i : Int} (hE : Q.nam i = 0) : Q.ok = true ∧ Q.hasB i = true := by
  unfold Qu.nam at hE
  by_cases h1 : Q.ok = true
  · by_cases h2 : Q.hasB i = true
    · exact ⟨h1, h2⟩
    · simp [h1, h2] at hE
  · simp [h1] at hE
/-- Claim -/
def Qu.clE (Q : Qu) (i : Int) : Int := if Q.nam i = 0 then (if (Q.lane i).lf = 0 then 101 else if (Q.lane i).nx = mxC then 3 else 0) else Q.nam i
def claimL (l : PLn) : PLn := ⟨l.cr, l.tw, l.lf - 1, l.cl ++ [l.nx], l.nx + 1, l.ep⟩
def Qu.clQ (Q : Qu) (i : Int) : Qu := if Q.clE i = 0 then Q.setL i (claimL (Q.lane i)) else qu0
/-- the place of a claim among its lane's: 0 the first one, 1 a later one, 2 none -/
def opn (l : PLn) (n ep : Int) : Bool := l.ep == ep && l.cl.any fun x => x == n
def Qu.pbE (Q : Qu) (ln n ep : Int) : Int := if Q.nam ln = 0 then (if opn (Q.lane ln) n ep = true then (if atI (Q.lane ln).cl 0 = n then 0 else 103) else 102) else Q.nam ln
theorem pbE_nam {Q : Qu} {ln n ep : Int} (h : ¬ Q.nam ln = 0) : Q.pbE ln n ep = Q.nam ln := by rw [Qu.pbE, if_neg h]
theorem pbE_not {Q : Qu} {ln n ep : Int} (h : Q.nam ln = 0) (h2 : opn (Q.lane ln) n ep = false) : Q.pbE ln n ep = 102 := by rw [Qu.pbE, if_pos h, if_neg (by rw [h2]; decide)]
theorem pbE_in {Q : Qu} {ln n ep : Int} (h : Q.nam ln = 0) (h2 : opn (Q.lane ln) n ep = true) : Q.pbE ln n ep = if atI (Q.lane ln).cl 0 = n then 0 else 103 := by rw [Qu.pbE, if_pos h, if_pos h2]
theorem pbE_zero {Q : Qu} {ln n ep : Int} (h : Q.pbE ln n ep = 0) : Q.nam ln = 0 ∧ opn (Q.lane ln) n ep = true ∧ atI (Q.lane ln).cl 0 = n := by
  unfold Qu.pbE at h
  by_cases h1 : Q.nam ln = 0
  · rw [if_pos h1] at h
    by_cases h2 : opn (Q.lane ln) n ep = true
    · rw [if_pos h2] at h
      by_cases h3 : atI (Q.lane ln).cl 0 = n
      · exact ⟨h1, h2, h3⟩
      · rw [if_neg h3] at h; cases h
    · rw [if_neg h2] at h; cases h
  · rw [if_neg h1] at h; exact absurd h h1
def pubL (l : PLn) : PLn := ⟨l.cr, l.tw, l.lf, l.cl.tail, l.nx, l.ep⟩
def Qu.pbQ (Q : Qu) (ln n ep pay : Int) : Qu := if Q.pbE ln n ep = 0 then ⟨Q.ls.set ln.toNat (pubL (Q.lane ln)), Q.ms ++ [⟨ln, ep, n, pay⟩]⟩ else qu0
/-- Take -/
def Qu.tkE (Q : Qu) : Int := if Q.ok = true then (if Q.ms.length = 0 then 105 else 0) else 100
def Qu.tkQ (Q : Qu) : Qu := if Q.tkE = 0 then ⟨Q.ls, Q.ms.tail⟩ else qu0
def Qu.tkM (Q : Qu) : PMs := if Q.tkE = 0 then atM Q.ms 0 else pm0
/-- Retire -/
def Qu.rtE (Q : Qu) (ln ep : Int) : Int := if Q.nam ln = 0 then (if ep = (Q.lane ln).ep ∧ tkn (Q.lane ln) (cnt Q.ms ln) = 0 then 102 else 0) else Q.nam ln
def retL (l : PLn) : PLn := ⟨l.cr, l.tw, l.lf + 1, l.cl, l.nx, l.ep⟩
def Qu.rtQ (Q : Qu) (ln ep : Int) : Qu := if Q.rtE ln ep = 0 then (if ep = (Q.lane ln).ep ∧ (Q.lane ln).tw = true then Q.setL ln (retL (Q.lane ln)) else Q) else qu0
/-- Reset -/
def Qu.rsE (Q : Qu) (i : Int) : Int := if Q.nam i = 0 then (if 0 < (Q.lane i).cl.length then 104 else if (Q.lane i).ep = mxC then 3 else 0) else Q.nam i
def rstL (l : PLn) : PLn := ⟨l.cr, l.tw, l.cr, l.cl, l.nx, l.ep + 1⟩
def Qu.rsQ (Q : Qu) (i : Int) : Qu := if Q.rsE i = 0 then ⟨Q.ls.set i.toNat (rstL (Q.lane i)), Q.ms.filter fun m => !(m.ln == i)⟩ else qu0
/-- New -/
def newE (cs : List Int) (tw : List Bool) : Int := if cs.length = tw.length then (if cs.length ≤ 16 ∧ ∀ c ∈ cs, 1 ≤ c ∧ c ≤ 64 then 0 else 100) else 1
def newL (cs : List Int) (tw : List Bool) : List PLn := (cs.zip tw).map fun x => ⟨x.1, x.2, x.1, [], 0, 0⟩
def newQ (cs : List Int) (tw : List Bool) : Qu := if newE cs tw = 0 then ⟨newL cs tw, []⟩ else qu0

end Go.Proofs.Ytkgehbonijpdnaa
