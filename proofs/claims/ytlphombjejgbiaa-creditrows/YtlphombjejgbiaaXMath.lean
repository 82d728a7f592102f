/- Accounts as plain data. -/
import Derived.Test.YtlphombjejgbiaaULeaf
namespace Go.Proofs.Ytlphombjejgbiaa
open Go.RowKit Go.Sort
set_option maxRecDepth 100000

/-- an account -/
structure Ac where
  rm : Int
  sp : Int
  ep : Int
abbrev ac0 : Ac := ⟨0, 0, 0⟩
abbrev acV (a : Ac) : Value := .agg #[.int .i64 a.rm, .int .i64 a.sp, .int .i64 a.ep]
abbrev acL (a : Ac) : List Value := [.int .i64 a.rm, .int .i64 a.sp, .int .i64 a.ep]
def okA (a : Ac) : Bool := win a.rm 1 256 && win a.sp 0 a.rm && win a.ep 0 1099511627776
theorem okA_iff {a : Ac} : okA a = true ↔ (1 ≤ a.rm ∧ a.rm ≤ 256) ∧ (0 ≤ a.sp ∧ a.sp ≤ a.rm) ∧ 0 ≤ a.ep ∧ a.ep ≤ 1099511627776 := by
  simp [okA, win, and_assoc]
def ckE (a : Ac) : Int := if okA a = true then 0 else 131
def lfI (a : Ac) : Int := if okA a = true then a.rm - a.sp else 0
def opE (r : Int) : Int := ckE ⟨r, 0, 0⟩
def opA (r : Int) : Ac := if okA ⟨r, 0, 0⟩ = true then ⟨r, 0, 0⟩ else ac0
/-- what a deed tells of an account that may be -/
def dsE (a : Ac) : Int := if a.rm - a.sp = 0 then 130 else 0
def dsA (a : Ac) : Ac := if a.rm - a.sp = 0 then ac0 else ⟨a.rm, a.sp + 1, a.ep⟩
def dbE (t : Int) (a : Ac) : Int := if t = a.ep then (if a.sp = 0 then 130 else 0) else 0
def dbA (t : Int) (a : Ac) : Ac := if t = a.ep then (if a.sp = 0 then ac0 else ⟨a.rm, a.sp - 1, a.ep⟩) else a
def drE (a : Ac) : Int := if a.ep = 1099511627776 then 3 else 0
def drA (a : Ac) : Ac := if a.ep = 1099511627776 then ac0 else ⟨a.rm, 0, a.ep + 1⟩
/-- a deed to an account, if it may be -/
def bhE (E : Ac → Int) (a : Ac) : Int := if okA a = true then E a else 131
def bhA (E : Ac → Int) (A : Ac → Ac) (a : Ac) : Ac := if okA a = true ∧ E a = 0 then A a else ac0
abbrev spE := bhE dsE
abbrev spA := bhA dsE dsA
abbrev bkE (t : Int) := bhE (dbE t)
abbrev bkA (t : Int) := bhA (dbE t) (dbA t)
abbrev rsE := bhE drE
abbrev rsA := bhA drE drA
theorem acc_three {W : World} {B : Nat} {a : Ac} (h : Bx W B (acL a)) : W.cell? ⟨B, 0, none⟩ = some (.int .i64 a.rm) ∧ W.cell? ⟨B, 1, none⟩ = some (.int .i64 a.sp) ∧ W.cell? ⟨B, 2, none⟩ = some (.int .i64 a.ep) :=
  ⟨h 0 _ rfl, h 1 _ rfl, h 2 _ rfl⟩
end Go.Proofs.Ytlphombjejgbiaa
