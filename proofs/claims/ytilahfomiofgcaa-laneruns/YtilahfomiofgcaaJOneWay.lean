/- LaneOneWay's walk. -/
import Derived.Test.YtilahfomiofgcaaJTwo
import Derived.Test.YtilahfomiofgcaaJAwake
import Derived.Test.YtilahfomiofgcaaJRow
import Derived.Deep.RegionHeld3
import Derived.Deep.Light
namespace Go.Proofs.Ytilahfomiofgcaa
open Go.RowKit Go.Sort
set_option maxRecDepth 100000

/-- an operation's box -/
structure B7 (w : World) (D : Nat) (o : Jo) : Prop where
  k : w.cell? ⟨D, 0, none⟩ = some (.int .i64 o.k)
  q : w.cell? ⟨D, 1, none⟩ = some (.int .u64 o.q)
  e : w.cell? ⟨D, 2, none⟩ = some (.int .u64 o.e)
  n : w.cell? ⟨D, 3, none⟩ = some (.int .i64 o.n)
  g : w.cell? ⟨D, 4, none⟩ = some (.int .u64 o.g)
  t : w.cell? ⟨D, 5, none⟩ = some (.int .i64 o.t)
  s : w.cell? ⟨D, 6, none⟩ = some (.int .i64 o.s)
theorem b7_new (w : World) (o : Jo) (T : TypeId) : B7 (w.alloc (.cells #[.int .i64 o.k, .int .u64 o.q, .int .u64 o.e, .int .i64 o.n, .int .u64 o.g, .int .i64 o.t, .int .i64 o.s] T)) w.heap.size o :=
  ⟨jnew_at w _ T 0 (by simp), jnew_at w _ T 1 (by simp), jnew_at w _ T 2 (by simp), jnew_at w _ T 3 (by simp), jnew_at w _ T 4 (by simp), jnew_at w _ T 5 (by simp), jnew_at w _ T 6 (by simp)⟩
theorem B7.els {X : Nat → Prop} {w w' : World} {D : Nat} {o : Jo} (h : B7 w D o) (hX : X D) (hb : But (Els X) w w') : B7 w' D o :=
  ⟨els_cell hb hX h.k, els_cell hb hX h.q, els_cell hb hX h.e, els_cell hb hX h.n, els_cell hb hX h.g, els_cell hb hX h.t, els_cell hb hX h.s⟩

theorem B7.bel {w w' : World} {D : Nat} {o : Jo} (h : B7 w D o) (hb : Below w.heap.size w w') : B7 w' D o :=
  ⟨jcells hb h.k, jcells hb h.q, jcells hb h.e, jcells hb h.n, jcells hb h.g, jcells hb h.t, jcells hb h.s⟩
/-- what Reset tells of its error -/
def ResetIs : Prop := ∀ (w : World) (p : Nat) (A : La) (X : Nat → Prop), Ln w p A X → Calls Try.prog 24 #[pV p] w fun e w' => (∃ v, e = .returned (.tuple #[v, .int .i64 (resE A)])) ∧ Ln w' p (resA A) X ∧ But (Els X) w w'

/-- two lanes while the law runs -/
structure Ow (w wr : World) (p r : Nat) (A B : La) (i : Nat) (Y : Nat → Prop) : Prop where
  two : Two wr p r A B Y
  like : Like1 A B
  c : A.c ≤ i
  bel : Below w.heap.size w wr
  sub : ∀ b, b < w.heap.size → Y b
section
variable {w wr w' : World} {p r i j : Nat} {A B A' B' : La} {Y Z : Nat → Prop}
theorem Ow.next (h : Ow w wr p r A B i Y) (t : Two w' p r A' B' Y) (b : But (Els Y) wr w') (l : Like1 A' B') (c : A'.c ≤ j) : Ow w w' p r A' B' j Y :=
  ⟨t, l, c, els_base h.bel b h.sub, h.sub⟩
theorem Ow.less (h : Ow w wr p r A B i Y) (hz : ∀ b, Z b → Y b) (hs : ∀ b, b < w.heap.size → Z b) : Ow w wr p r A B i Z :=
  ⟨h.two.less hz, h.like, h.c, h.bel, hs⟩
theorem Ow.box (h : Ow w wr p r A B i Y) (z : Obj) : Ow w (wr.alloc z) p r A B i (fun b => Y b ∨ b = wr.heap.size) :=
  ⟨h.two.box z, h.like, h.c, Below.onto h.bel (jalloc (Below.refl _ _) z), fun b hb => .inl (h.sub b hb)⟩
theorem claimV_form (A : La) : ∃ q e er : Int, claimV A = .tuple #[.agg #[.int .u64 q, .int .u64 e], .int .i64 er] := by
  unfold claimV tkV
  split
  · exact ⟨_, _, _, rfl⟩
  · exact ⟨_, _, _, rfl⟩
end

end Go.Proofs.Ytilahfomiofgcaa
