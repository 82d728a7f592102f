/- What is below, each once. -/
import Derived.Test.YtlphombjejgbiaaDMath
namespace Go.Proofs.Ytlphombjejgbiaa

section
variable {N : Nat} {L : List Fe}
theorem mem_blw (h : Fok N L) {k x : Nat} : x ∈ blw L k ↔ x ∈ kids L k ∨ ∃ c, c ∈ kids L k ∧ x ∈ blw L c := by
  rw [blw_eq h k]
  simp only [List.mem_flatMap, List.mem_cons]
  constructor
  · rintro ⟨c, hc, rfl | hx⟩
    · exact .inl hc
    · exact .inr ⟨c, hc, hx⟩
  · rintro (hx | ⟨c, hc, hx⟩)
    · exact ⟨x, hx, .inl rfl⟩
    · exact ⟨c, hc, .inr hx⟩
theorem blw_behind (h : Fok N L) {k x : Nat} (hx : x ∈ blw L k) : x ∈ nds L ∧ k ∈ nds L ∧ (nds L).idxOf k < (nds L).idxOf x := bel_mem h _ k x hx
/-- by the last step -/
theorem blw_up (h : Fok N L) : ∀ (n k x : Nat), (nds L).idxOf x - (nds L).idxOf k ≤ n → x ∈ blw L k → x ∈ kids L k ∨ ∃ y, y ∈ blw L k ∧ x ∈ kids L y := by
  intro n
  induction n with
  | zero => intro k x hn hx; have := (blw_behind h hx).2.2; omega
  | succ n ih =>
    intro k x hn hx
    rcases (mem_blw h).1 hx with hx | ⟨c, hc, hx⟩
    · exact .inl hx
    · have h1 := (h.behind hc).2
      have h2 := (blw_behind h hx).2.2
      rcases ih c x (by omega) hx with h3 | ⟨y, hy, h3⟩
      · exact .inr ⟨c, (mem_blw h).2 (.inl hc), h3⟩
      · exact .inr ⟨y, (mem_blw h).2 (.inr ⟨c, hc, hy⟩), h3⟩
/-- the parent of what is below is the node, or below it -/
theorem blw_par (h : Fok N L) {k x y : Nat} (hx : x ∈ blw L k) (hy : x ∈ kids L y) : y = k ∨ y ∈ blw L k := by
  rcases blw_up h _ k x (Nat.le_refl _) hx with h1 | ⟨z, hz, h1⟩
  · exact .inl (h.one_par hy h1)
  · rw [h.one_par hy h1]; exact .inr hz
theorem blw_kid (h : Fok N L) {k x : Nat} (hx : x ∈ kids L k) : x ∈ blw L k := (mem_blw h).2 (.inl hx)
theorem blw_trans (h : Fok N L) : ∀ (n k x y : Nat), (nds L).idxOf y ≤ n → x ∈ blw L k → y ∈ blw L x → y ∈ blw L k := by
  intro n
  induction n with
  | zero => intro k x y hn hx hy; have := (blw_behind h hy).2.2; omega
  | succ n ih =>
    intro k x y hn hx hy
    have aux : ∀ m k y, (nds L).idxOf y - (nds L).idxOf k ≤ m → x ∈ blw L k → y ∈ blw L x → y ∈ blw L k := by
      intro m
      induction m with
      | zero => intro k y hm hx hy; have := (blw_behind h hx).2.2; have := (blw_behind h hy).2.2; omega
      | succ m ihm =>
        intro k y hm hx hy
        rcases (mem_blw h).1 hx with h1 | ⟨c, hc, h1⟩
        · exact (mem_blw h).2 (.inr ⟨x, h1, hy⟩)
        · have h2 := (h.behind hc).2
          have h3 := (blw_behind h h1).2.2
          have h4 := (blw_behind h hy).2.2
          exact (mem_blw h).2 (.inr ⟨c, hc, ihm c y (by omega) h1 hy⟩)
    exact aux _ k y (Nat.le_refl _) hx hy
/-- two branches have nothing in common -/
theorem blw_apart (h : Fok N L) {k a b : Nat} (ha : a ∈ kids L k) (hb : b ∈ kids L k) (hne : a ≠ b) : ∀ (n x : Nat), (nds L).idxOf x ≤ n → (x = a ∨ x ∈ blw L a) → (x = b ∨ x ∈ blw L b) → False := by
  intro n
  have kab : ∀ {a b : Nat}, a ∈ kids L k → b ∈ kids L k → a ∈ blw L b → False := by
    intro a b ha hb hx
    have h1 := (h.behind hb).2
    rcases blw_par h hx ha with e | e
    · rw [e] at h1; omega
    · have := (blw_behind h e).2.2; omega
  induction n with
  | zero =>
    rintro x hn (rfl | hx) (rfl | hy)
    · exact hne rfl
    · exact kab ha hb hy
    · exact kab hb ha hx
    · have := (blw_behind h hx).2.2; omega
  | succ n ih =>
    rintro x hn (rfl | hx) (rfl | hy)
    · exact hne rfl
    · exact kab ha hb hy
    · exact kab hb ha hx
    · rcases blw_up h _ a x (Nat.le_refl _) hx with h1 | ⟨y, h2, h1⟩
      · have h3 := (h.behind h1).2
        exact ih a (by omega) (.inl rfl) ((blw_par h hy h1))
      · have h3 := (h.behind h1).2
        exact ih y (by omega) (.inr h2) ((blw_par h hy h1))
theorem nodup_flat {r : List Nat} {g : Nat → List Nat} (hr : r.Nodup) (hg : ∀ c, c ∈ r → (g c).Nodup) (hd : ∀ a b x, a ∈ r → b ∈ r → a ≠ b → x ∈ g a → x ∈ g b → False) : (r.flatMap g).Nodup := by
  induction r with
  | nil => simp
  | cons a r ih =>
    rw [List.flatMap_cons]
    obtain ⟨h1, h2⟩ := List.nodup_cons.1 hr
    refine List.nodup_append.2 ⟨hg a (by simp), ih h2 (fun c hc => hg c (by simp [hc])) (fun x y z hx hy => hd x y z (by simp [hx]) (by simp [hy])), ?_⟩
    intro x hx y hy e
    subst e
    obtain ⟨b, hb, hxb⟩ := List.mem_flatMap.1 hy
    exact hd a b x (by simp) (by simp [hb]) (fun e => h1 (e ▸ hb)) hx hxb
theorem blw_nodup (h : Fok N L) : ∀ (n k : Nat), hgt L k ≤ n → (blw L k).Nodup := by
  intro n
  induction n with
  | zero =>
    intro k hk
    rw [← bel_blw h hk]
    exact List.nodup_nil
  | succ n ih =>
    intro k hk
    rw [blw_eq h k]
    refine nodup_flat (h.kids_nodup k) (fun c hc => ?_) (fun a b x ha hb hne hx hy => blw_apart h ha hb hne _ x (Nat.le_refl _) (by simpa using hx) (by simpa using hy))
    have := hgt_kid h hc
    exact List.nodup_cons.2 ⟨fun hm => by have := (blw_behind h hm).2.2; omega, ih c (by omega)⟩
theorem blw_nod (h : Fok N L) (k : Nat) : (blw L k).Nodup := blw_nodup h _ k (Nat.le_refl _)
theorem blw_len (h : Fok N L) (k : Nat) : (blw L k).length ≤ N := by
  have h1 := len_le (blw_nod h k) (n := N) (fun x hx => h.lt x (blw_behind h hx).1)
  exact h1
end
end Go.Proofs.Ytlphombjejgbiaa
