/- Held and free slots of a partition are all of it. -/
import Derived.Test.YtobpignlamekmaaAHeld
import Derived.Test.YtobpignlamekmaaAPure
namespace Go.Proofs.Ytobpignlamekmaa
open Go.RowKit Go.Sort

theorem acount_all (N : Nat) (l : List Nat) (nd : l.Nodup) (h : ∀ x, x ∈ l → x < N) : l.length = ((List.range N).filter fun x => decide (x ∈ l)).length := by
  induction N generalizing l with
  | zero =>
    cases l with
    | nil => rfl
    | cons x l => exact absurd (h x (by simp)) (by omega)
  | succ N ih =>
    rw [List.range_succ, List.filter_append, List.length_append]
    by_cases hN : N ∈ l
    · obtain ⟨l1, l2, rfl⟩ := List.append_of_mem hN
      have h1 := ih (l1 ++ l2) (by grind) (fun x hx => by
        have h2 := h x (by grind)
        have h3 : x ≠ N := by rintro rfl; grind
        omega)
      have h2 : ((List.range N).filter fun x => decide (x ∈ l1 ++ N :: l2)) = ((List.range N).filter fun x => decide (x ∈ l1 ++ l2)) := by
        apply List.filter_congr
        intro x hx
        have : x ≠ N := by have := List.mem_range.1 hx; omega
        simp [this]
      rw [h2, ← h1]
      simp; omega
    · have h1 := ih l nd (fun x hx => by
        have h2 := h x hx
        have h3 : x ≠ N := by rintro rfl; exact hN hx
        omega)
      rw [← h1]
      simp [hN]
theorem filter_both {α : Type} (l : List α) (p : α → Bool) : (l.filter p).length + (l.filter fun x => !p x).length = l.length := by
  induction l with
  | nil => rfl
  | cons x l ih =>
    cases hp : p x <;> simp [hp] <;> omega
theorem nodup_shift {l : List Nat} {f : Nat} (nd : l.Nodup) (h : ∀ x, x ∈ l → f ≤ x) : (l.map fun x => x - f).Nodup := by
  induction l with
  | nil => simp
  | cons x l ih =>
    rw [List.nodup_cons] at nd
    rw [List.map_cons, List.nodup_cons]
    refine ⟨fun hm => ?_, ih nd.2 fun y hy => h y (by simp [hy])⟩
    obtain ⟨y, hy, e⟩ := List.mem_map.1 hm
    have h1 := h y (by simp [hy])
    have h2 := h x (by simp)
    obtain rfl : y = x := by omega
    exact nd.1 hy
theorem Ax.nodup {w : World} {o : Po} {h : Sh} {d : Da} (a : Ax w o h d) {k : Nat} (hk : k < h.P) : (d.R k).Nodup := by
  obtain ⟨s, e1, e2, _, hi⟩ := a.kv
  exact hi.nod k (by omega)
theorem held_len {w : World} {o : Po} {h : Sh} {d : Da} (a : Ax w o h d) {k : Nat} (hk : k < h.P) : (heldL h d (k : Int)).length + (d.R k).length = h.sz k := by
  have hin : inR h.P (k : Int) = true := inR_iff.2 (by omega)
  have e1 : (heldL h d (k : Int)).length = ((List.range (h.sz k)).filter fun i => !decide (h.fs k + i ∈ d.R k)).length := by
    unfold heldL
    rw [hin]
    simp only [if_true, Int.toNat_natCast, hlOf, List.length_map]
    rw [List.filter_map, List.length_map]
    congr 1
    apply List.filter_congr
    intro i hi
    have hi' := List.mem_range.1 hi
    simp only [Function.comp, Da.fr]
    rw [(a.sh.in_ k i hk hi').2]
  have hin2 : ∀ x, x ∈ d.R k → h.fs k ≤ x ∧ x < h.fs k + h.sz k := fun x hx => by
    have h1 := a.rng hk hx
    have h2 := a.sh.at_ x h1
    rw [a.da.own k hk x hx] at h2
    exact h2.2
  have e2 := acount_all (h.sz k) ((d.R k).map fun x => x - h.fs k) (nodup_shift (a.nodup hk) fun x hx => (hin2 x hx).1) (fun x hx => by
    obtain ⟨y, hy, rfl⟩ := List.mem_map.1 hx
    have := hin2 y hy
    omega)
  rw [List.length_map] at e2
  have e3 : ((List.range (h.sz k)).filter fun i => decide (i ∈ (d.R k).map fun x => x - h.fs k)) = ((List.range (h.sz k)).filter fun i => decide (h.fs k + i ∈ d.R k)) := by
    apply List.filter_congr
    intro i hi
    have hi' := List.mem_range.1 hi
    congr 1
    refine propext ⟨fun hm => ?_, fun hm => ?_⟩
    · obtain ⟨y, hy, e⟩ := List.mem_map.1 hm
      have := hin2 y hy
      rw [show h.fs k + i = y by omega]; exact hy
    · exact List.mem_map.2 ⟨_, hm, by omega⟩
  rw [e3] at e2
  have e4 := filter_both (List.range (h.sz k)) fun i => decide (h.fs k + i ∈ d.R k)
  rw [List.length_range] at e4
  omega

/-- what Alloc just gave is alive, with nothing in it -/
theorem alloc_alive {w : World} {o : Po} {h : Sh} {d : Da} (a : Ax w o h d) {x : Int} (e : alE h d x = 0) : alvB h (alD h d x) (alN h d x) (alG h d x) = true ∧ rdI h (alD h d x) (alN h d x) (alG h d x) = 0 := by
  have hp : popB h.P d.R x = true := by
    unfold alE at e
    cases hh : inR h.P x
    · rw [hh] at e; simp at e
    · rw [hh] at e
      cases hb : popB h.P d.R x
      · rw [hb] at e; simp at e
      · rfl
  obtain ⟨k, n, l, rfl, hk, hR, hI, hR'⟩ := pop_head hp
  have hm : n ∈ d.R k := by rw [hR]; simp
  have hn := a.rng hk hm
  have hpt := a.da.own k hk n hm
  have hnd := a.nodup hk
  rw [hR, List.nodup_cons] at hnd
  have hv : alvB h (alD h d k) (alN h d k) (alG h d k) = true := by
    unfold alvB
    have h1 : alN h d (k : Int) = (n : Int) := hI
    have h2 : alG h d (k : Int) = d.gen n := by simp [alG, hp, hI]
    rw [h1, h2]
    have h3 : inR h.N (n : Int) = true := inR_iff.2 (by omega)
    have h4 : (alD h d (k : Int)).fr h n = false := by
      unfold Da.fr alD
      simp only [hR', hpt, upd_at]
      simpa using hnd.1
    simp only [h3, Int.toNat_natCast, h4]
    simp [alD]
  refine ⟨hv, ?_⟩
  unfold rdI
  rw [hv]
  have h1 : alN h d (k : Int) = (n : Int) := hI
  rw [h1]
  show (if true = true then d.pay n else 0) = 0
  simp [a.da.zero k hk n hm]
theorem look_zero {w : World} {o : Po} {h : Sh} {d : Da} (a : Ax w o h d) {n : Nat} (hn : n < h.N) (hf : d.fr h n = true) : d.pay n = 0 := by
  have h1 := a.sh.at_ n hn
  exact a.da.zero (h.pt n) h1.1 n (by simpa [Da.fr] using hf)
end Go.Proofs.Ytobpignlamekmaa
