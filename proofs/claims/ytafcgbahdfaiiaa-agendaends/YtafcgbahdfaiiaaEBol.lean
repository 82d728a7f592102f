/- A row of bools that came in (AgendaEnds). -/
import Derived.Test.YtafcgbahdfaiiaaEEnds
import Derived.Deep.Slices
namespace Go.Proofs.Ytafcgbahdfaiiaa
open Go.RowKit Go.ChangeShapes Go.WideShapes Go.Deep Go.Joins
set_option maxRecDepth 100000

section
variable {H : Type} {enc : TypeId × Value → H} {w : World} {base : Nat} {held : Bool}
theorem open_ebools {r : Reach} {b0 : Nat} {v : Value} {d : DataW H} {ps : List MemPlace} (hv : Value.okWide Try.prog w r b0 51 v) (hT : DataW.Trod enc Try.prog w base (fun _ => true) held 51 v d ps) :
    ∃ (a : Option Addr) (len cap : Nat) (B : Nat → Bool), v = .slice a len cap ∧ BRow w a len cap B := by
  obtain ⟨a, len, cap, rfl⟩ := okWide_slice Try.underlying51 hv
  obtain ⟨fuel, hf⟩ := hT
  rcases open_bools Try.underlying51 Try.underlying4 (by kernel_rfl) hf with ⟨hcs, _⟩ | ⟨x, l, c, B, hcs, _, hl, hm, _, hcell⟩
  · simp [Value.cells] at hcs
    obtain ⟨rfl, rfl, rfl⟩ := hcs
    exact ⟨none, 0, 0, fun _ => false, rfl, fun j hj => absurd hj (by omega), Nat.le_refl _, Nat.zero_le _⟩
  · simp [Value.cells] at hcs
    obtain ⟨rfl, rfl, rfl⟩ := hcs
    refine ⟨_, _, _, B, rfl, fun j hj => ?_, hl, hm⟩
    have h1 := hcell j (by omega)
    have h2 : x.spot = none := ecell_spot (a := x) (hcell 0 (by omega))
    obtain ⟨b, off, s⟩ := x
    simp only at h2
    subst h2
    rw [add_plain] at h1
    exact ⟨b, off, rfl, h1⟩
end
end Go.Proofs.Ytafcgbahdfaiiaa
