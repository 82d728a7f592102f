/- Tickets in a row, and what LaneCredit keeps. -/
import Derived.Test.YtmdoiokgfdolpaaJReset
namespace Go.Proofs.Ytmdoiokgfdolpaa
open Go.RowKit Go.Sort
set_option maxRecDepth 100000

/-- tickets in a row -/
def encK (l : List (Int × Int)) : List Value := l.flatMap fun x => [.int .u64 x.1, .int .u64 x.2]
theorem encK_app (l k : List (Int × Int)) : encK (l ++ k) = encK l ++ encK k := by simp [encK]
theorem encK_len (l : List (Int × Int)) : (encK l).length = l.length * 2 := by
  induction l with
  | nil => rfl
  | cons m l ih => simp [encK] at ih ⊢; omega
theorem encK_at : ∀ {l : List (Int × Int)} {j : Nat} {u : Int × Int}, l[j]? = some u → (encK l)[j * 2]? = some (.int .u64 u.1) ∧ (encK l)[j * 2 + 1]? = some (.int .u64 u.2)
  | x :: l, 0, u, h => by
    cases h
    exact ⟨rfl, rfl⟩
  | x :: l, j + 1, u, h => by
    obtain ⟨h1, h2⟩ := encK_at (l := l) (j := j) (u := u) h
    have e : encK (x :: l) = .int .u64 x.1 :: .int .u64 x.2 :: encK l := rfl
    rw [e, show (j + 1) * 2 = j * 2 + 1 + 1 by omega, List.getElem?_cons_succ, List.getElem?_cons_succ, show j * 2 + 1 + 1 + 1 = (j * 2 + 1) + 1 + 1 by omega, List.getElem?_cons_succ, List.getElem?_cons_succ]
    exact ⟨h1, h2⟩
theorem Try.infoTk : (Try.prog.info? 34).map (fun i => (i.zero, i.size, i.bytes)) = some (some (.agg #[.int .u64 0, .int .u64 0]), 2, 16) := by kernel_rfl
/-- a ticket of a row -/
theorem own_tk {w : World} {base : Nat} {e : TypeId} {v : Value} {n : Nat} {l : List (Int × Int)} (h : w.ownsRow base e 2 v n (encK l)) {j : Nat} {u : Int × Int} (hj : l[j]? = some u) :
    ∃ g cap, v = .slice (some ⟨g, 0, none⟩) n cap ∧ n ≤ cap ∧ cap ≤ maxLen ∧ w.cell? ⟨g, j * 2, none⟩ = some (.int .u64 u.1) ∧ w.cell? ⟨g, j * 2 + 1, none⟩ = some (.int .u64 u.2) := by
  obtain ⟨h1, h2⟩ := encK_at hj
  rcases h.2 with ⟨_, hn⟩ | ⟨g, cap, cur, rfl, hb, hg, hc1, hc2, _⟩
  · have h3 := h.1
    rw [hn, encK_len] at h3
    have := (List.getElem?_eq_some_iff.1 hj).1
    omega
  · have hc := h.cells (g := g) rfl
    have a1 := hc (j * 2) _ h1
    have a2 := hc (j * 2 + 1) _ h2
    rw [Go.WideShapes.add_plain, Nat.zero_add] at a1 a2
    exact ⟨g, cap, rfl, hc1, hc2, a1, a2⟩

/-- what LaneCredit keeps: each claimed message has a slot, and its ticket is among those out -/
structure CrI (A : La) (us : List (Int × Int)) (n i : Nat) : Prop where
  cr : A.cr = n
  c : A.c ≤ i
  laid : ∀ m ∈ A.C, m.laid = true
  mem : ∀ m ∈ A.C, (sqI A.st m.k, A.ep) ∈ us
  bd : ∀ u ∈ us, 0 ≤ u.1 ∧ u.1 < 18446744073709551616
  len : us.length ≤ i
section
variable {A : La} {us : List (Int × Int)} {n i : Nat}
theorem CrI.one (h : CrI A us n i) : CrI A us n (i + 1) := ⟨h.cr, Nat.le_succ_of_le h.c, h.laid, h.mem, h.bd, Nat.le_succ_of_le h.len⟩
theorem CrI.new {two : Bool} {st : Int} {n : Nat} : CrI (newA n two st) [] n 0 := ⟨rfl, Nat.le_refl _, by simp [newA], by simp [newA], by simp, Nat.le_refl _⟩
theorem CrI.take (h : CrI A us n i) : CrI (takeA A) us n (i + 1) := by
  have h := h.one
  unfold takeA
  split
  · exact h
  · exact ⟨h.cr, h.c, h.laid, h.mem, h.bd, h.len⟩
theorem CrI.ret (h : CrI A us n i) (q e : Int) : CrI (retA A q e) us n (i + 1) := by
  have h := h.one
  unfold retA
  split
  · split
    · exact ⟨h.cr, h.c, h.laid, h.mem, h.bd, h.len⟩
    · exact ⟨h.cr, h.c, h.laid, h.mem, h.bd, h.len⟩
  · exact h
theorem CrI.res (h : CrI A us n i) : CrI (resA A) us n (i + 1) := by
  have h := h.one
  unfold resA
  split
  · rename_i h0
    have e : A.C = [] := List.length_eq_zero_iff.1 h0
    exact ⟨h.cr, h.c, h.laid, by simp [e], h.bd, h.len⟩
  · exact h
theorem CrI.pub (h : CrI A us n i) (q e t s : Int) : CrI (pubA A q e t s) us n (i + 1) := by
  have h := h.one
  unfold pubA
  split
  · split
    · exact h
    · rename_i m C hC
      exact ⟨h.cr, h.c, fun x hx => h.laid x (by rw [hC]; exact List.mem_cons_of_mem _ hx), fun x hx => h.mem x (by rw [hC]; exact List.mem_cons_of_mem _ hx), h.bd, h.len⟩
  · exact h
theorem claim_in (ok : A.Ok) (hc : A.c < 1000000) (hr : roomB A = true) : inC (claimA A) (sqI A.st A.c) A.ep = true ∧ atC (claimA A) (sqI A.st A.c) = A.C.length ∧ (claimA A).C = A.C ++ [⟨A.c, 1, false, 0, 0, 0, 0⟩] := by
  have h1 := ok.hr
  have e : claimA A = { A with C := A.C ++ [⟨A.c, 1, false, 0, 0, 0, 0⟩], c := A.c + 1 } := by unfold claimA; rw [if_pos hr]
  have hd : dqN A.st (sqI A.st A.c) = A.c := ((sq_iff (by omega) (sqI_0 _ _) (sqI_1 _ _)).1 rfl).symm
  have hr9 : (claimA A).r = A.r := by
    rw [e]
    unfold La.r
    simp
  have hc9 : (claimA A).c = A.c + 1 := by rw [e]
  have hs9 : (claimA A).st = A.st := by rw [e]
  have he9 : (claimA A).ep = A.ep := by rw [e]
  refine ⟨inC_iff.2 ⟨he9.symm, ?_, ?_⟩, ?_, by rw [e]⟩
  · rw [hr9, hs9, hd]; omega
  · rw [hc9, hs9, hd]; omega
  · unfold atC
    rw [hr9, hs9, hd]
    omega
theorem CrI.lays (h : CrI A us n i) (ok : A.Ok) (hc : A.c < 1000000) (hr : roomB A = true) (x g : Int) :
    layE (claimA A) (sqI A.st A.c) A.ep = 0 ∧ CrI (layA (claimA A) (sqI A.st A.c) A.ep x g) (us ++ [(sqI A.st A.c, A.ep)]) n (i + 1) := by
  obtain ⟨h1, h2, h3⟩ := claim_in ok hc hr
  obtain ⟨s1, s2, s3, s4, s5, s6, s7⟩ := claimA_st A
  have hcc := h.c
  have e : (layA (claimA A) (sqI A.st A.c) A.ep x g) = { claimA A with C := A.C ++ [⟨A.c, 1, true, x, g, 0, 0⟩] } := by
    unfold layA
    rw [if_pos h1, h2, h3]
    unfold layL
    congr 1
    rw [modify_at (m := ⟨A.c, 1, false, 0, 0, 0, 0⟩) (by simp)]
    simp
  refine ⟨by unfold layE; rw [if_pos h1], ?_⟩
  rw [e]
  refine ⟨s4.trans h.cr, Nat.le_trans s7 (by omega), fun m hm => ?_, fun m hm => ?_, fun u hu => ?_, by simp; exact h.len⟩
  · rcases List.mem_append.1 hm with hm | hm
    · exact h.laid m hm
    · rw [List.mem_singleton] at hm
      rw [hm]
  · rw [s1, s2]
    rcases List.mem_append.1 hm with hm | hm
    · exact List.mem_append_left _ (h.mem m hm)
    · rw [List.mem_singleton] at hm
      rw [hm]
      simp
  · rcases List.mem_append.1 hu with hu | hu
    · exact h.bd u hu
    · rw [List.mem_singleton] at hu
      rw [hu]
      exact ⟨sqI_0 _ _, sqI_1 _ _⟩
/-- one is ready -/
theorem CrI.ready (h : CrI A us n i) (ok : A.Ok) (h0 : 0 < A.C.length) : ∃ u ∈ us, lackE A u.1 u.2 = 0 := by
  have h1 := ok.hr
  have h2 := ok.bd
  obtain ⟨m, hm⟩ : ∃ m, A.C[0]? = some m := ⟨A.C[0], List.getElem?_eq_getElem h0⟩
  have hmm := List.mem_of_getElem? hm
  have hk := (ok.kC 0 m hm).1
  rw [Nat.add_zero] at hk
  refine ⟨_, h.mem m hmm, ?_⟩
  simp only
  have hd : dqN A.st (sqI A.st m.k) = A.r := by rw [hk]; exact ((sq_iff (by omega) (sqI_0 _ _) (sqI_1 _ _)).1 rfl).symm
  have hin : inC A (sqI A.st m.k) A.ep = true := inC_iff.2 ⟨rfl, by omega, by omega⟩
  have hat : atC A (sqI A.st m.k) = 0 := by unfold atC; omega
  unfold lackE laidB
  rw [hin, hat, hm, hk]
  simp [h.laid m hmm]
theorem count_pos {α : Type} {p : α → Bool} {l : List α} (h : ∃ u ∈ l, p u = true) : l.countP p ≠ 0 := by
  obtain ⟨u, hu, hp⟩ := h
  have := List.countP_pos_iff.2 ⟨u, hu, hp⟩
  omega
/-- how many of the first k are ready -/
def rdN (A : La) (us : List (Int × Int)) (k : Nat) : Nat := (us.take k).countP fun u => decide (lackE A u.1 u.2 = 0)
theorem rdN_succ {k : Nat} {u : Int × Int} (h : us[k]? = some u) : rdN A us (k + 1) = rdN A us k + if lackE A u.1 u.2 = 0 then 1 else 0 := by
  unfold rdN
  rw [List.take_succ_eq_append_getElem (List.getElem?_eq_some_iff.1 h).1, (List.getElem?_eq_some_iff.1 h).2, List.countP_append]
  simp [List.countP_cons]
theorem rdN_le (k : Nat) : rdN A us k ≤ us.length := by
  unfold rdN
  exact Nat.le_trans List.countP_le_length (by rw [List.length_take]; omega)
theorem sums (ok : A.Ok) : leftI A + (A.C.length : Int) + (A.P.length : Int) + ((A.T.filter is3).length : Int) + ((A.T.filter is4).length : Int) = (A.cr : Int) ∧ 0 ≤ leftI A := by
  have h1 := (filter_perm fun m hm => (ok.kT m hm).2).length_eq
  rw [List.length_append] at h1
  have h2 := ok.room
  unfold leftI
  unfold La.len at h2 ⊢
  omega
end
end Go.Proofs.Ytmdoiokgfdolpaa
