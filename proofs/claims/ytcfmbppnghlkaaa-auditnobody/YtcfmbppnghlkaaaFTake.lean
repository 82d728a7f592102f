/- The first one is taken out of a row. -/
import Derived.Test.YtcfmbppnghlkaaaFLeave
namespace Go.Proofs.Ytcfmbppnghlkaaa
open Go.RowKit Go.Sort
set_option maxRecDepth 100000

set_option maxHeartbeats 1000000 in
theorem etake (g : Nat) (cs : Array Value) (J : World → Prop) (X : Nat → Prop) (Ord : Prop) (o : Ro) (L : Ls g cs J X Ord o.P) (A : Ar) (h0 : 0 < A.n) (w : World) (x : Rx w o A) (hJ : J w) (hlv : o.lv = .func (.func g) #[] cs) (hX : ∀ b, X b → ¬ o.has A b) :
    Calls Try.prog 62 #[ptr o.r] w fun e w' => e = .returned (ptr (o.bl (A.f 0).n)) ∧ ∃ o' A', Gs J X w o A w' o' A' ∧ Out Ord A A' (A.f 0) ∧ ∃ q, Blk w' (o.bl (A.f 0).n) 105 (enC (A.f 0) q) := by
  have cF := efirst o A w x h0
  have cL := eleave g cs J X Ord o L A 0 h0 w x hJ hlv hX
  clear L x hX hJ
  go_enter Try.func62, Try.ntmps62
  go_wp2_with fail
  refine cF.mono ?_
  rintro e w' ⟨rfl, hw'⟩
  subst hw'
  clear cF
  go_wp2_with fail
  refine cL.mono ?_
  rintro e w1 ⟨rfl, h⟩
  clear cL
  have HH := (⟨h⟩ : Nonempty _)
  clear h
  go_wp2_with fail
  go_ret
  obtain ⟨h⟩ := HH
  exact ⟨rfl, h⟩

end Go.Proofs.Ytcfmbppnghlkaaa
