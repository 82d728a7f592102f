/- queue.isOpen. -/
import Derived.Test.YtkgehbonijpdnaaUChk
namespace Go.Proofs.Ytkgehbonijpdnaa
open Go.RowKit
set_option maxRecDepth 100000

abbrev clV (ln n ep : Int) : Value := .agg #[.int .i64 ln, .int .i64 n, .int .i64 ep]
theorem below_regrown2 (w : World) (d : Nat) (os : Array Obj) : Below w.heap.size w (Go.Sort.grow (redrawn w d) os) := below_regrown w d os
set_option maxHeartbeats 2000000 in
theorem isOpen_any (x : PLn) (v : Value) (ln n ep : Int) (w : World) (hnc : x.cl.length ≤ 1000) (hc : Cl w v x.cl) : Calls Try.prog 34 #[laV x v, clV ln n ep] w fun e w' => e = .returned (.bool (opn x n ep)) ∧ Below w.heap.size w w' := by
  have HC : Hid (Cl w v x.cl) := hc
  obtain ⟨ca, cc, rfl, _⟩ := hc
  obtain ⟨k1, k2, b2, s2⟩ := alloc2 w [.int .i64 x.cr, .bool x.tw, .int .i64 x.lf, .slice ca x.cl.length cc, .int .i64 x.nx, .int .i64 x.ep] 57 [.int .i64 ln, .int .i64 n, .int .i64 ep] 47
  have K1 : Hid (Blk _ _ _ _) := k1
  have K2 : Hid (Blk _ _ _ _) := k2
  have B2 : Hid (Below _ _ _) := b2
  have HCL : Hid (Cl _ _ _) := HC.out.below b2
  clear k1 k2 b2 s2
  by_cases hep : x.ep = ep
  · have HR : Hid (opn x n ep = x.cl.any fun x => x == n) := by show _ = _; simp [opn, hep]
    have hep1 : (x.ep == ep) = true := by simp [hep]
    clear hep
    go_enter Try.func34, Try.ntmps34
    go_wp2_with fail
    generalize (w.alloc (.cells #[.int .i64 x.cr, .bool x.tw, .int .i64 x.lf, .slice ca x.cl.length cc, .int .i64 x.nx, .int .i64 x.ep] 57)).alloc (.cells #[.int .i64 ln, .int .i64 n, .int .i64 ep] 47) = w2 at *
    obtain ⟨p0, p1, p2, p3, p4, p5⟩ := K1.out.bx.six
    obtain ⟨r0, r1, r2⟩ := K2.out.bx.three
    go_wp2_with fail
    refine (ucontains_any (.slice ca x.cl.length cc) x.cl n _ hnc HCL.out).mono ?_
    rintro e w3 ⟨rfl, rfl⟩
    go_wp2_with fail
    go_ret
    exact ⟨ret_bool HR.out.symm, B2.out⟩
  · have HR : Hid (opn x n ep = false) := by show _ = _; simp [opn, hep]
    have hep1 : (x.ep == ep) = false := by simp [hep]
    clear hep
    go_enter Try.func34, Try.ntmps34
    go_wp2_with fail
    generalize (w.alloc (.cells #[.int .i64 x.cr, .bool x.tw, .int .i64 x.lf, .slice ca x.cl.length cc, .int .i64 x.nx, .int .i64 x.ep] 57)).alloc (.cells #[.int .i64 ln, .int .i64 n, .int .i64 ep] 47) = w2 at *
    obtain ⟨p0, p1, p2, p3, p4, p5⟩ := K1.out.bx.six
    obtain ⟨r0, r1, r2⟩ := K2.out.bx.three
    go_wp2_with fail
    go_ret
    exact ⟨ret_bool HR.out.symm, B2.out⟩

end Go.Proofs.Ytkgehbonijpdnaa
