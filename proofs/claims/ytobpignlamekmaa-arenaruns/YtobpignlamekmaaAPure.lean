/- What the calls in one partition hang on. -/
import Derived.Test.YtobpignlamekmaaAAwake
namespace Go.Proofs.Ytobpignlamekmaa
open Go.RowKit Go.Sort
set_option maxRecDepth 100000

set_option maxHeartbeats 400000 in
theorem few6_any (a : Option Addr) (n cap : Nat) (w : World) (hcap : n ≤ cap) (ha : a = none → n = 0) :
    Calls Try.prog 9 #[.slice a n cap] w fun e w' => e = .returned (.slice a (min n 17) cap) ∧ w' = w := by
  by_cases h : 17 < n
  · rw [show min n 17 = 17 by omega]
    cases a with
    | none => exact absurd (ha rfl) (by omega)
    | some ad =>
      clear ha
      go_enter Try.func9, Try.ntmps9
      go_wp2
      go_ret
      exact ⟨rfl, rfl⟩
  · rw [show min n 17 = n by omega]
    clear ha
    go_enter Try.func9, Try.ntmps9
    go_wp2
    go_ret
    exact ⟨rfl, rfl⟩

/-- two arenas agree in a partition -/
def Ag (h : Sh) (part : Int) (x y : Da) : Prop := ∀ k, k < h.P → (k : Int) = part → x.R k = y.R k ∧ ∀ n, n < h.N → h.pt n = k → x.pay n = y.pay n ∧ x.gen n = y.gen n
theorem Ag.refl (h : Sh) (part : Int) (x : Da) : Ag h part x x := fun _ _ _ => ⟨rfl, fun _ _ _ => ⟨rfl, rfl⟩⟩

section
variable {h : Sh} {part : Int} {x y : Da}
theorem ag_popB (ag : Ag h part x y) : popB h.P x.R part = popB h.P y.R part := by
  unfold popB
  cases hh : inR h.P part
  · rfl
  · obtain ⟨k, rfl, hk⟩ := inR_nat hh
    rw [show ((k : Int)).toNat = k by omega, (ag k hk rfl).1]
theorem ag_popI (ag : Ag h part x y) : popI h.P x.R part = popI h.P y.R part := by
  unfold popI
  rw [ag_popB ag]
  split
  · rename_i hb
    obtain ⟨k, rfl, hk⟩ := inR_nat (popB_in hb)
    rw [show ((k : Int)).toNat = k by omega, (ag k hk rfl).1]
  · rfl
theorem ag_alE (ag : Ag h part x y) : alE h x part = alE h y part := by unfold alE; rw [ag_popB ag]
theorem ag_alN (ag : Ag h part x y) : alN h x part = alN h y part := ag_popI ag
theorem ag_alG (ag : Ag h part x y) (hx : x.Ok h) (hr : ∀ k, k < h.P → ∀ n, n ∈ x.R k → n < h.N) : alG h x part = alG h y part := by
  unfold alG
  rw [← ag_popB ag, ← ag_popI ag]
  split
  · rename_i hb
    obtain ⟨k, n, l, rfl, hk, e, hI, _⟩ := pop_head hb
    rw [hI, Int.toNat_natCast]
    have hm : n ∈ x.R k := by rw [e]; simp
    exact ((ag k hk rfl).2 n (hr k hk n hm) (hx.own k hk n hm)).2
  · rfl
theorem popR_at {m : Nat} {R : Nat → List Nat} {i : Int} {k : Nat} : popR m R i k = if popB m R i = true ∧ i = (k : Int) then (R k).tail else R k := by
  by_cases hb : popB m R i = true
  · obtain ⟨j, rfl, hj⟩ := inR_nat (popB_in hb)
    simp only [popR, hb, if_true, true_and, Int.toNat_natCast, upd]
    by_cases e : k = j
    · subst e; simp
    · rw [if_neg e, if_neg (by omega)]
  · simp [popR, hb]
theorem ag_alD (ag : Ag h part x y) : Ag h part (alD h x part) (alD h y part) := by
  intro k hk e
  obtain ⟨h1, h2⟩ := ag k hk e
  refine ⟨?_, h2⟩
  show popR h.P x.R part k = popR h.P y.R part k
  rw [popR_at, popR_at, ag_popB ag, h1]
theorem ag_alD_other (ag : Ag h part x y) {own : Int} (hne : own ≠ part) : Ag h part (alD h x own) y := by
  intro k hk e
  obtain ⟨h1, h2⟩ := ag k hk e
  refine ⟨?_, h2⟩
  show popR h.P x.R own k = y.R k
  rw [popR_at, if_neg (fun hh => hne (hh.2.trans e)), h1]

theorem ag_alvB (ag : Ag h part x y) (ok : h.Ok) {m g : Int} (hp : ptI h m = part) : alvB h x m g = alvB h y m g := by
  unfold alvB
  cases hh : inR h.N m
  · rfl
  · obtain ⟨n, rfl, hn⟩ := inR_nat hh
    have hpt : (h.pt n : Int) = part := by rw [← hp]; simp [ptI, hh]
    obtain ⟨h1, h2⟩ := ag (h.pt n) (ok.at_ n hn).1 hpt
    obtain ⟨_, h4⟩ := h2 n hn rfl
    simp only [Int.toNat_natCast, Da.fr, h1, h4]
theorem ag_alvE (ag : Ag h part x y) (ok : h.Ok) {m g : Int} (hp : ptI h m = part) : alvE h x m g = alvE h y m g := by unfold alvE; rw [ag_alvB ag ok hp]
theorem alv_pt {m g : Int} {d : Da} (hb : alvB h d m g = true) : ∃ n : Nat, m = (n : Int) ∧ n < h.N ∧ ptI h m = (h.pt n : Int) := by
  obtain ⟨n, rfl, hn, _⟩ := alvB_nat hb
  have hh : inR h.N (n : Int) = true := inR_iff.2 (by omega)
  exact ⟨n, rfl, hn, by simp [ptI, hh]⟩
theorem ag_rdI (ag : Ag h part x y) (ok : h.Ok) {m g : Int} (hp : ptI h m = part) : rdI h x m g = rdI h y m g := by
  unfold rdI
  rw [← ag_alvB ag ok hp]
  split
  · rename_i hb
    obtain ⟨n, rfl, hn, e⟩ := alv_pt hb
    rw [Int.toNat_natCast]
    exact ((ag (h.pt n) (ok.at_ n hn).1 (e.symm.trans hp)).2 n hn rfl).1
  · rfl
theorem ag_wrD (ag : Ag h part x y) (ok : h.Ok) {m g u : Int} (hp : ptI h m = part) : Ag h part (wrD h x m g u) (wrD h y m g u) := by
  unfold wrD
  rw [← ag_alvB ag ok hp]
  split
  · intro k hk e
    obtain ⟨h1, h2⟩ := ag k hk e
    refine ⟨h1, fun n hn hpt => ⟨?_, (h2 n hn hpt).2⟩⟩
    show upd x.pay _ u n = upd y.pay _ u n
    unfold upd
    split
    · rfl
    · exact (h2 n hn hpt).1
  · exact ag
theorem ag_wrD_other (ag : Ag h part x y) {m g u : Int} (hp : ptI h m ≠ part) : Ag h part (wrD h x m g u) y := by
  unfold wrD
  split
  · rename_i hb
    obtain ⟨q, rfl, hq, eq⟩ := alv_pt hb
    intro k hk e
    obtain ⟨h1, h2⟩ := ag k hk e
    refine ⟨h1, fun n hn hpt => ⟨?_, (h2 n hn hpt).2⟩⟩
    show upd x.pay _ u n = y.pay n
    rw [upd_ne]
    · exact (h2 n hn hpt).1
    · rintro rfl
      exact hp (by rw [eq, hpt, e])
  · exact ag
theorem ag_frD (ag : Ag h part x y) (ok : h.Ok) {m g : Int} (hp : ptI h m = part) : Ag h part (frD h x m g) (frD h y m g) := by
  unfold frD
  rw [← ag_alvB ag ok hp]
  split
  · rename_i hb
    obtain ⟨q, rfl, hq, eq⟩ := alv_pt hb
    simp only [Int.toNat_natCast]
    intro k hk e
    obtain ⟨h1, h2⟩ := ag k hk e
    have hqk : h.pt q = k := by have := eq.symm.trans (hp.trans e.symm); omega
    refine ⟨?_, fun n hn hpt => ⟨?_, ?_⟩⟩
    · show upd x.R (h.pt q) _ k = upd y.R (h.pt q) _ k
      rw [hqk, upd_at, upd_at, h1]
    · show upd x.pay q 0 n = upd y.pay q 0 n
      unfold upd
      split
      · rfl
      · exact (h2 n hn hpt).1
    · show upd x.gen q _ n = upd y.gen q _ n
      rw [(h2 q hq hqk).2]
      unfold upd
      split
      · rfl
      · exact (h2 n hn hpt).2
  · exact ag
theorem ag_frD_other (ag : Ag h part x y) {m g : Int} (hp : ptI h m ≠ part) : Ag h part (frD h x m g) y := by
  unfold frD
  split
  · rename_i hb
    obtain ⟨q, rfl, hq, eq⟩ := alv_pt hb
    simp only [Int.toNat_natCast]
    intro k hk e
    obtain ⟨h1, h2⟩ := ag k hk e
    have hqk : k ≠ h.pt q := by rintro rfl; exact hp (eq.trans e)
    have hnq : ∀ n, h.pt n = k → n ≠ q := by rintro n hpt rfl; exact hqk hpt.symm
    refine ⟨?_, fun n hn hpt => ⟨?_, ?_⟩⟩
    · show upd x.R (h.pt q) _ k = _
      rw [upd_ne hqk, h1]
    · show upd x.pay q 0 n = _
      rw [upd_ne (hnq n hpt)]; exact (h2 n hn hpt).1
    · show upd x.gen q _ n = _
      rw [upd_ne (hnq n hpt)]; exact (h2 n hn hpt).2
  · exact ag
end

/-- a block of five cells -/
def Five (W : World) (B : Nat) (a b c d e : Value) : Prop := W.cell? ⟨B, 0, none⟩ = some a ∧ W.cell? ⟨B, 1, none⟩ = some b ∧ W.cell? ⟨B, 2, none⟩ = some c ∧ W.cell? ⟨B, 3, none⟩ = some d ∧ W.cell? ⟨B, 4, none⟩ = some e
theorem Five.but {W W' : World} {B : Nat} {a b c d e : Value} {S : Nat → Prop} (h : Five W B a b c d e) (hb : But S W W') (hn : ¬ S B) : Five W' B a b c d e := ⟨hb.cell h.1 hn, hb.cell h.2.1 hn, hb.cell h.2.2.1 hn, hb.cell h.2.2.2.1 hn, hb.cell h.2.2.2.2 hn⟩
theorem Five.below {W W' : World} {B : Nat} {a b c d e : Value} (h : Five W B a b c d e) (hb : Below W.heap.size W W') : Five W' B a b c d e := h.but (But.of (S := fun _ => False) hb) (fun hf => hf)
theorem five_box (W : World) (a b c d e : Value) (T : TypeId) : Five (W.alloc (.cells #[a, b, c, d, e] T)) W.heap.size a b c d e :=
  ⟨new_at W #[a, b, c, d, e] T 0 (by simp), new_at W #[a, b, c, d, e] T 1 (by simp), new_at W #[a, b, c, d, e] T 2 (by simp), new_at W #[a, b, c, d, e] T 3 (by simp), new_at W #[a, b, c, d, e] T 4 (by simp)⟩
end Go.Proofs.Ytobpignlamekmaa
