/- A forest of 16 nodes behind some calls. -/
import Derived.Test.YtlphombjejgbiaaDAlive
import Derived.Test.YtlphombjejgbiaaUMem
namespace Go.Proofs.Ytlphombjejgbiaa
open Go.RowKit Go.Shelf
attribute [local go_sem] Oper.semAt_some
set_option maxRecDepth 100000

/-- a call -/
structure DOp where
  k : Int
  a : Int
  b : Int
def encD (o : DOp) : Nat → Value
  | 0 => .int .i64 o.k
  | 1 => .int .i64 o.a
  | _ => .int .i64 o.b
def mdS (o : DOp) (L : List Fe) : List Fe := if o.k = 1 then rootL 16 L o.a else if o.k = 2 then derL 16 L o.a o.b else if o.k = 3 then wout L (cutT 16 L o.a) else wout L (pruT 16 L o.a)
def mdL (g : Nat → DOp) : Nat → List Fe
  | 0 => []
  | n + 1 => mdS (g n) (mdL g n)
end Go.Proofs.Ytlphombjejgbiaa
