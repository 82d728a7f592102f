/- A lane whose numbers are moved; two lanes, the first of which was called. -/
import Derived.Test.YtilahfomiofgcaaJTwo
namespace Go.Proofs.Ytilahfomiofgcaa
open Go.RowKit Go.Sort
set_option maxRecDepth 100000

def mvI (s q : Int) : Int := (q + s) % 18446744073709551616
/-- a lane from another start on -/
def atS (A : La) (s : Int) : La := { A with st := s }
theorem mv_0 (s q : Int) : 0 ≤ mvI s q := by unfold mvI; omega
theorem mv_1 (s q : Int) : mvI s q < 18446744073709551616 := by unfold mvI; omega
theorem dq_mv (s q : Int) : dqN s (mvI s q) = dqN 0 q := by unfold dqN mvI; omega
theorem sq_mv (s : Int) (k : Nat) : (sqI 0 k + s) % 18446744073709551616 = sqI s k := by unfold sqI; omega
section
variable {A : La}  {s q e : Int}
theorem at_room : roomB (atS A s) = roomB A := rfl
theorem at_claim : claimA (atS A s) = atS (claimA A) s := by
  unfold claimA
  rw [at_room]
  split <;> rfl
theorem at_take : takeA (atS A s) = atS (takeA A) s := by
  unfold takeA
  show (match A.P with | [] => _ | m :: P => _) = atS (match A.P with | [] => _ | m :: P => _) s
  cases A.P <;> rfl
theorem at_resE : resE (atS A s) = resE A := rfl
theorem at_resL : resL (atS A s) = resL A := rfl
theorem at_res : resA (atS A s) = atS (resA A) s := by
  unfold resA
  show (if A.C.length = 0 then _ else _) = atS (if A.C.length = 0 then _ else _) s
  split <;> rfl
theorem at_sta : staV (atS A s) = staV A := rfl
theorem at_inC (h : A.st = 0) : inC (atS A s) (mvI s q) e = inC A q e := by
  show (decide (e = A.ep) && (decide (A.r ≤ dqN s (mvI s q)) && decide (dqN s (mvI s q) < A.c))) = _
  rw [dq_mv]
  unfold inC
  rw [h]
theorem at_atC (h : A.st = 0) : atC (atS A s) (mvI s q) = atC A q := by
  show dqN s (mvI s q) - A.r = _
  rw [dq_mv]
  unfold atC
  rw [h]
theorem at_layE (h : A.st = 0) : layE (atS A s) (mvI s q) e = layE A q e := by unfold layE; rw [at_inC h]
theorem at_lay (h : A.st = 0) {n g : Int} : layA (atS A s) (mvI s q) e n g = atS (layA A q e n g) s := by
  unfold layA
  rw [at_inC h, at_atC h]
  split <;> rfl
theorem at_laid (h : A.st = 0) : laidB (atS A s) (mvI s q) e = laidB A q e := by
  unfold laidB
  rw [at_inC h, at_atC h]
  rfl
theorem at_lackE (h : A.st = 0) (q0 : 0 ≤ q) (q1 : q < 18446744073709551616) : lackE (atS A s) (mvI s q) e = lackE A q e := by
  unfold lackE
  rw [at_laid h]
  have : (mvI s q = sqI (atS A s).st (atS A s).r) = (q = sqI A.st A.r) := by
    rw [h]
    show (mvI s q = sqI s A.r) = (q = sqI 0 A.r)
    generalize A.r = k
    unfold mvI sqI
    exact propext ⟨fun _ => by omega, fun _ => by omega⟩
  simp only [this]
theorem at_pub (h : A.st = 0) {t u : Int} (q0 : 0 ≤ q) (q1 : q < 18446744073709551616) : pubA (atS A s) (mvI s q) e t u = atS (pubA A q e t u) s := by
  unfold pubA
  rw [at_lackE h q0 q1]
  split
  · show (match A.C with | [] => _ | m :: C => _) = atS (match A.C with | [] => _ | m :: C => _) s
    cases A.C <;> rfl
  · rfl
theorem at_taken (h : A.st = 0) : takenB (atS A s) (mvI s q) = takenB A q := by
  show A.T.any (tkB (dqN s (mvI s q))) = A.T.any (tkB (dqN A.st q))
  rw [dq_mv, h]
theorem at_tkI (h : A.st = 0) : tkI (atS A s) (mvI s q) = tkI A q := by
  show A.T.findIdx (tkB (dqN s (mvI s q))) = A.T.findIdx (tkB (dqN A.st q))
  rw [dq_mv, h]
theorem at_retS (h : A.st = 0) : retS (atS A s) (mvI s q) e = retS A q e := by
  unfold retS
  rw [at_taken h, at_tkI h]
  rfl
theorem at_retB (h : A.st = 0) : retB (atS A s) (mvI s q) e = retB A q e := by
  unfold retB
  rw [at_taken h]
  rfl
theorem at_retE (h : A.st = 0) : retE (atS A s) (mvI s q) e = retE A q e := by
  unfold retE
  rw [at_taken h]
  rfl
theorem at_ret (h : A.st = 0) : retA (atS A s) (mvI s q) e = atS (retA A q e) s := by
  unfold retA
  rw [at_taken h, at_tkI h]
  show (if e = A.ep ∧ takenB A q = true then if A.two = true then _ else _ else _) = atS (if e = A.ep ∧ takenB A q = true then if A.two = true then _ else _ else _) s
  split
  · split <;> rfl
  · rfl
/-- what Take tells of both -/
theorem at_takeV (h : A.st = 0) : ∃ n g q q' e er : Int, takeV A = .tuple #[.agg #[.int .i64 n, .int .u64 g], .agg #[.int .u64 q, .int .u64 e], .int .i64 er] ∧ takeV (atS A s) = .tuple #[.agg #[.int .i64 n, .int .u64 g], .agg #[.int .u64 q', .int .u64 e], .int .i64 er] ∧ (er = 0 ∧ (q + s) % 18446744073709551616 = q' ∨ er = 82) := by
  unfold takeV
  rw [show (atS A s).P = A.P from rfl]
  cases A.P with
  | nil => exact ⟨_, _, _, _, _, _, rfl, rfl, .inr rfl⟩
  | cons m P => exact ⟨_, _, _, _, _, _, rfl, rfl, .inl ⟨rfl, by rw [h]; exact sq_mv s m.k⟩⟩
/-- what Claim tells of both -/
theorem at_claimV (h : A.st = 0) : ∃ q q' e er : Int, claimV A = .tuple #[.agg #[.int .u64 q, .int .u64 e], .int .i64 er] ∧ claimV (atS A s) = .tuple #[.agg #[.int .u64 q', .int .u64 e], .int .i64 er] ∧ (er = 0 ∧ (q + s) % 18446744073709551616 = q' ∨ er = 81) := by
  unfold claimV
  rw [at_room]
  split
  · exact ⟨_, _, _, _, rfl, rfl, .inl ⟨rfl, by rw [h]; exact sq_mv s A.c⟩⟩
  · exact ⟨_, _, _, _, rfl, rfl, .inr rfl⟩
/-- what First tells of both -/
theorem at_firstV : ∃ (t u q q' e : Int) (b : Bool), firstV A = .tuple #[.agg #[.int .i64 t, .int .i64 u], .agg #[.int .u64 q, .int .u64 e], .bool b] ∧ firstV (atS A s) = .tuple #[.agg #[.int .i64 t, .int .i64 u], .agg #[.int .u64 q', .int .u64 e], .bool b] := by
  unfold firstV
  rw [show (atS A s).P = A.P from rfl]
  cases A.P with
  | nil => exact ⟨_, _, _, _, _, _, rfl, rfl⟩
  | cons m P => exact ⟨_, _, _, _, _, _, rfl, rfl⟩
end

/-- two lanes, the first of which was called: the second one's blocks stand below n -/
def Mid (n : Nat) (w : World) (p r : Nat) (A B : La) (Y : Nat → Prop) : Prop :=
  ∃ o : Lo, o.p = r ∧ Lx w o B ∧ (∀ b, o.has b → b < n) ∧ (∀ b, Y b → ¬ o.has b) ∧ Ln w p A (fun b => Y b ∨ o.has b)
section
variable {w w' : World} {p r n : Nat} {A B A' B' : La} {Y Z : Nat → Prop} {f : FuncId} {args : Array Value}
theorem Two.stepM (t : Two w p r A B Y) {R : Ending → World → Prop} (h : ∀ X, Ln w p A X → Calls Try.prog f args w fun e w' => R e w' ∧ Ln w' p A' X ∧ But (Els X) w w') :
    Calls Try.prog f args w fun e w' => R e w' ∧ Mid w.heap.size w' p r A' B Y ∧ But (Els Y) w w' := by
  obtain ⟨o, ho, x, hY, l⟩ := t
  refine (h _ l).mono ?_
  rintro e w' ⟨he, l', hb⟩
  exact ⟨he, ⟨o, ho, x.but hb (fun b hb' h => h (.inr hb')), fun b hb => x.lt hb, hY, l'⟩, hb.mono fun _ h h' => h (.inl h')⟩
theorem Mid.stepB (m : Mid n w p r A B Y) {R : Ending → World → Prop} (h : ∀ X, Ln w r B X → Calls Try.prog f args w fun e w' => R e w' ∧ Ln w' r B' X ∧ But (Els X) w w') :
    Calls Try.prog f args w fun e w' => R e w' ∧ Two w' p r A B' Y ∧ But (Els fun b => Y b ∨ (n ≤ b ∧ b < w.heap.size)) w w' := by
  obtain ⟨o, ho, x, hn, hY, h1, q, hq, y, hX⟩ := m
  have l : Ln w r B (fun b => (Y b ∨ (n ≤ b ∧ b < w.heap.size)) ∨ q.has b) := by
    refine ⟨fun b hb => ?_, o, ho, x, fun b hb h => ?_⟩
    · rcases hb with (hb | hb) | hb
      · exact h1 b (.inl hb)
      · exact hb.2
      · exact y.lt hb
    · rcases hb with (hb | hb) | hb
      · exact hY b hb h
      · have := hn b h; omega
      · exact hX b (.inr h) hb
  refine (h _ l).mono ?_
  rintro e w' ⟨he, l', hb⟩
  have t : Two w' r p B' A Y := ⟨q, hq, y.but hb (fun b hb' h => h (.inr hb')), fun b hb' h => hX b (.inl hb') h, l'.less fun b hb' => by
    rcases hb' with hb' | hb'
    · exact .inl (.inl hb')
    · exact .inr hb'⟩
  exact ⟨he, t.swap, hb.mono fun _ h h' => h (.inl h')⟩
end
end Go.Proofs.Ytilahfomiofgcaa
