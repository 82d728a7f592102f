/- slices.SortFunc over pairs, by which stands first: the row holds the same pairs, sorted. -/
import Derived.Test.YtlcljchpljeonaaOShelf
import Derived.Test.YtlcljchpljeonaaOStamp
import Derived.Test.YtlcljchpljeonaaOMath
namespace Go.Proofs.Ytlcljchpljeonaa
open Go.RowKit Go.Lib
set_option maxRecDepth 100000

def encP (x : St) : List Value := [.int .i64 x.1, .int .i64 x.2]
def cfS (x y : St) : Int := cmpI x.1 x.2 y.1 y.2
theorem cfS_lt (x y : St) : ltOf cfS x y = decide (ltS x y) := by
  unfold ltOf cfS cmpI ltS
  by_cases h : x.1 = y.1 ∧ x.2 = y.2
  · rw [if_pos h]
    have : ¬ (x.1 < y.1 ∨ x.1 = y.1 ∧ x.2 < y.2) := by omega
    rw [decide_eq_false this]; rfl
  · rw [if_neg h]
    by_cases h2 : x.1 < y.1 ∨ x.1 = y.1 ∧ x.2 < y.2
    · rw [if_pos h2]; simp [h2]
    · rw [if_neg h2]; simp [h2]
theorem cfS_swo : Go.Sort.SWO (ltOf cfS) where
  irrefl x := by rw [cfS_lt]; simp [ltS_irrefl]
  trans x y z h1 h2 := by rw [cfS_lt] at *; simp at *; exact ltS_trans h1 h2
  ntrans x y z h1 h2 := by rw [cfS_lt] at *; simp at *; omega

theorem cmpLays (blk off size : Nat) (w : World) : CmpLays Try.prog 31 #[] encP 2 cfS blk off size w := by
  intro m os dk _ x y
  refine (pcmp_grow x.1 x.2 y.1 y.2 _).mono ?_
  rintro e w' ⟨rfl, rfl⟩
  refine ⟨rfl, 0, #[.cells #[.int .i64 x.1, .int .i64 x.2] 58] ++ #[.cells #[.int .i64 y.1, .int .i64 y.2] 58], ?_⟩
  rw [Go.Sort.alloc_eq_grow, Go.Sort.alloc_eq_grow, Go.Sort.grow_grow]
  rfl

set_option maxHeartbeats 1000000 in
theorem sort_any (blk off cap : Nat) (d : Array St) (w : World) (hH : Go.Sort.HoldsK encP 2 w blk off d) (hblk : blk < w.heap.size) (hsz : d.size < 4611686018427387904) :
    Calls Try.prog 32 #[.slice (some ⟨blk, off, none⟩) d.size cap, .func (.func 31) #[] #[]] w fun e w' =>
      e = .returned (.tuple #[]) ∧ ∃ d' n os, Go.Sort.PermIn 0 d.size d d' ∧ Go.Sort.SortedIn (ltOf cfS) 0 d.size d' ∧ w' = sortWorldK encP 2 w blk off n d' os := by
  have eg : ∀ args w, (callFunc 31 args).run Try.prog w = .ok (.enter 31 args) w := enters_of Try.func31 (by kernel_rfl) rfl
  exact AnyQ.slices_SortFunc Try.sortSt 2 Try.isAgg58 Try.sizeOf58 encP (fun _ => rfl) (fun x v hv => by simp [encP] at hv; rcases hv with rfl | rfl <;> rfl) cfS cfS_swo 31 #[] blk off cap d w eg (cmpLays blk off d.size w) hH hblk hsz

end Go.Proofs.Ytlcljchpljeonaa
