/- What a cut takes, and what it leaves. -/
import Derived.Test.YtopjidlhhamjhaaDTwo
namespace Go.Proofs.Ytopjidlhhamjhaa

/-- what goes: all below n, and n itself where it is no pruning -/
def gonG (L : List Fe) (pr : Bool) (n : Nat) : List Nat := if pr then blw L n else n :: blw L n
section
variable {L : List Fe} {n : Nat}
theorem gon_cut (hn : n ∈ nds L) (h16 : n < 16) : askE 16 L (n : Int) = 0 ∧ cutT 16 L (n : Int) = gonG L false n ∧ pruT 16 L (n : Int) = gonG L true n := by
  have hin : inR 16 (n : Int) = true := inR_iff.2 (by omega)
  have ha : askE 16 L (n : Int) = 0 := by simp [askE, hin, hn]
  refine ⟨ha, ?_, ?_⟩
  · unfold cutT; rw [if_pos ha]; rfl
  · unfold pruT; rw [if_pos ha]; rfl
theorem gon_no (hn : n ∉ nds L) (h16 : n < 16) : askE 16 L (n : Int) = 122 ∧ cutT 16 L (n : Int) = [] ∧ pruT 16 L (n : Int) = [] := by
  have hin : inR 16 (n : Int) = true := inR_iff.2 (by omega)
  have ha : askE 16 L (n : Int) = 122 := by simp [askE, hin, hn]
  refine ⟨ha, ?_, ?_⟩
  · unfold cutT; rw [if_neg (by omega)]
  · unfold pruT; rw [if_neg (by omega)]
theorem gon_nodup (h : Fok 16 L) (pr : Bool) (n : Nat) : (gonG L pr n).Nodup := by
  cases pr
  · exact List.nodup_cons.2 ⟨fun hm => by have := (blw_behind h hm).2.2; omega, blw_nod h n⟩
  · exact blw_nod h n
theorem gon_mem (h : Fok 16 L) (hn : n ∈ nds L) {pr : Bool} {c : Nat} (hc : c ∈ gonG L pr n) : c ∈ nds L := by
  cases pr
  · rcases List.mem_cons.1 hc with rfl | hc
    · exact hn
    · exact (blw_behind h hc).1
  · exact (blw_behind h hc).1
theorem gon_closed (h : Fok 16 L) (pr : Bool) (n : Nat) : ∀ q x, q ∈ gonG L pr n → x ∈ kids L q → x ∈ gonG L pr n := by
  cases pr
  · exact cut_closed h n
  · exact below_closed h n
theorem gon_ok (h : Fok 16 L) (pr : Bool) (n : Nat) : Fok 16 (wout L (gonG L pr n)) := h.wout (gon_closed h pr n)
theorem gon_len (h : Fok 16 L) (hn : n ∈ nds L) (pr : Bool) : (gonG L pr n).length ≤ 16 := len_le (gon_nodup h pr n) fun x hx => h.lt x (gon_mem h hn hx)
theorem gon_und (h : Fok 16 L) (hn : n ∈ nds L) (h16 : n < 16) {pr : Bool} {c : Nat} (hc : c ∈ gonG L pr n) : undI 16 L (c : Int) (n : Int) = true ∧ (pr = true → c ≠ n) := by
  have hm := gon_mem h hn hc
  have h1 : inR 16 (c : Int) = true := inR_iff.2 (by have := h.lt c hm; omega)
  have h2 : inR 16 (n : Int) = true := inR_iff.2 (by omega)
  have hu : undB L c n = true := by
    cases pr
    · rcases List.mem_cons.1 hc with rfl | hc
      · simp [undB]
      · exact und_iff.2 (.inr hc)
    · exact und_iff.2 (.inr hc)
  refine ⟨by simp [undI, hasF, h1, h2, hm, hn, hu], ?_⟩
  rintro rfl rfl
  have := (blw_behind h hc).2.2
  omega
theorem gon_notund {pr : Bool} {c : Nat} (hc : c ∉ gonG L pr n) : undI 16 L (c : Int) (n : Int) = false ∨ (pr = true ∧ c = n) := by
  by_cases e : undI 16 L (c : Int) (n : Int) = true
  · right
    unfold undI at e
    simp only [Bool.and_eq_true, Int.toNat_natCast] at e
    rcases und_iff.1 e.2.2 with rfl | hb
    · cases pr
      · exact absurd (List.mem_cons_self) hc
      · exact ⟨rfl, rfl⟩
    · cases pr
      · exact absurd (List.mem_cons_of_mem _ hb) hc
      · exact absurd hb hc
  · left; simpa using e
theorem gon_gone {pr : Bool} {c : Nat} (hc : c ∈ gonG L pr n) : hasF 16 (wout L (gonG L pr n)) (c : Int) = false := by
  have : c ∉ nds (wout L (gonG L pr n)) := fun hm => (mem_wout.1 hm).2 hc
  simp [hasF, this]
theorem gon_has {pr : Bool} {c : Nat} (hc : c ∉ gonG L pr n) : hasF 16 (wout L (gonG L pr n)) (c : Int) = hasF 16 L (c : Int) := by
  unfold hasF
  congr 1
  simp only [Int.toNat_natCast]
  exact decide_eq_decide.2 ⟨fun hm => (mem_wout.1 hm).1, fun hm => mem_wout.2 ⟨hm, hc⟩⟩
theorem gon_par {pr : Bool} {c : Nat} (hc : c ∉ gonG L pr n) : parI 16 (wout L (gonG L pr n)) (c : Int) = parI 16 L c ∧ parB 16 (wout L (gonG L pr n)) (c : Int) = parB 16 L c := by
  have hw := whr_wout (N := 16) L hc
  unfold parI parB ofI ofB
  rw [gon_has hc]
  simp [hw]
theorem gon_dep (h : Fok 16 L) {pr : Bool} {c : Nat} (hc : c ∉ gonG L pr n) : dptI 16 (wout L (gonG L pr n)) (c : Int) = dptI 16 L c := by
  have := (up_same h (gon_ok h pr n) (fun z => z ∉ gonG L pr n) (fun z hz => whr_wout L hz) (fun z p hz hp hm => hz (gon_closed h pr n p z hm (whr_kid h hp))) _ c (Nat.le_refl _) hc).2
  unfold dptI
  rw [gon_has hc]
  simp [this]
end
/-- how often c stands in a row -/
def tmN (T : List Nat) (c : Nat) : Nat := (T.filter fun x => decide (x = c)).length
theorem tm_mem {T : List Nat} (h : T.Nodup) {c : Nat} (hc : c ∈ T) : tmN T c = 1 := by
  induction T with
  | nil => simp at hc
  | cons a T ih =>
    obtain ⟨h1, h2⟩ := List.nodup_cons.1 h
    rcases List.mem_cons.1 hc with rfl | hc
    · have : T.filter (fun x => decide (x = c)) = [] := by
        apply List.filter_eq_nil_iff.2
        intro x hx e
        have : x = c := by simpa using e
        exact h1 (this ▸ hx)
      simp [tmN, this]
    · have hne : a ≠ c := fun e => h1 (e ▸ hc)
      have := ih h2 hc
      unfold tmN at *
      rw [List.filter_cons_of_neg (by simpa using hne)]
      exact this
theorem tm_no {T : List Nat} {c : Nat} (hc : c ∉ T) : tmN T c = 0 := by
  unfold tmN
  rw [List.length_eq_zero_iff]
  apply List.filter_eq_nil_iff.2
  intro x hx e
  have : x = c := by simpa using e
  exact hc (this ▸ hx)
theorem tm_take {T : List Nat} {q : Nat} (hq : q < T.length) (c : Nat) : tmN (T.take (q + 1)) c = tmN (T.take q) c + if T.getD q 0 = c then 1 else 0 := by
  rw [take_at hq]
  unfold tmN
  rw [List.filter_append, List.length_append]
  congr 1
  by_cases e : T.getD q 0 = c
  · rw [if_pos e, List.filter_cons_of_pos (by simpa using e)]; rfl
  · rw [if_neg e, List.filter_cons_of_neg (by simpa using e)]; rfl
end Go.Proofs.Ytopjidlhhamjhaa
