/- The small functions of package lane. -/
import Derived.Test.YtilahfomiofgcaaJMem
import Derived.Lib.QuietBelow
import Derived.BigRegion
namespace Go.Proofs.Ytilahfomiofgcaa
open Go.RowKit Go.Sort
set_option maxRecDepth 100000

theorem jregrown {f : FuncId} {args : Array Value} {w : World} {v : Value} (h : ∀ W, Below w.heap.size w W → Calls Try.prog f args W fun e w' => e = .returned v ∧ Below W.heap.size W w') :
    ∀ d os, Calls Try.prog f args (grow (redrawn w d) os) fun e w'' => e = .returned v ∧ ∃ p : Regrown, w'' = grow (redrawn w p.d) p.os :=
  fun d os => Calls.regrown_of (h _ (below_regrown w d os))
theorem jnew_at (w : World) (zs : Array Value) (T : TypeId) (i : Nat) (hi : i < zs.size) : (w.alloc (.cells zs T)).cell? ⟨w.heap.size, i, none⟩ = some zs[i] := by
  have hb : (w.alloc (.cells zs T)).heap[w.heap.size]? = some (.cells zs T (0, 0)) := World.alloc_heap_new w _
  rw [cell_of_row _ _ i _ T (0, 0) hb]
  simp [hi]
theorem jnew_fz {w w' : World} {zs : Array Value} {T : TypeId} (hb : Below (w.alloc (.cells zs T)).heap.size (w.alloc (.cells zs T)) w') (i : Nat) : w'.frozen? ⟨w.heap.size, i, none⟩ = false := by
  have h : (w.alloc (.cells zs T)).heap[w.heap.size]? = some (.cells zs T (0, 0)) := World.alloc_heap_new w _
  exact frozen_of_row _ _ i _ _ ((hb.block _ (by simp)).trans h)
theorem jbox2 {w w' : World} {x y : Value} {T : TypeId} (hb : Below (w.alloc (.cells #[x, y] T)).heap.size (w.alloc (.cells #[x, y] T)) w') : w'.cell? ⟨w.heap.size, 0, none⟩ = some x ∧ w'.cell? ⟨w.heap.size, 1, none⟩ = some y ∧ ∀ i, w'.frozen? ⟨w.heap.size, i, none⟩ = false :=
  ⟨(hb.cell (p := ⟨w.heap.size, 0, none⟩) (by simp)).trans (jnew_at w #[x, y] T 0 (by simp)), (hb.cell (p := ⟨w.heap.size, 1, none⟩) (by simp)).trans (jnew_at w #[x, y] T 1 (by simp)), jnew_fz hb⟩
theorem own_form {w : World} {base : Nat} {e : TypeId} {size : Nat} {v : Value} {n : Nat} {xs : List Value} (h : w.ownsRow base e size v n xs) : ∃ a cap, v = .slice a n cap := by
  rcases h.2 with ⟨rfl, rfl⟩ | ⟨g, cap, cur, rfl, _⟩
  · exact ⟨none, 0, rfl⟩
  · exact ⟨_, cap, rfl⟩
theorem neq_map (b : Nat) (W : World) : (binOp .neq 54 (.map (some b)) (.map none)).run Try.prog W = .ok (.bool true) W := by
  simpa using run_neq_map_nil (P := Try.prog) W 54 _ _ (some b) Try.underlying54
theorem ring64 : (ringN 64 : Int) = 64 := by decide

set_option maxHeartbeats 1000000 in
theorem jis (o : Lo) (A : La) (w : World) (x : Lx w o A) :
    Calls Try.prog 27 #[o.ptr] w fun e w' => e = .returned (.bool true) ∧ w' = w := by
  have h0 := x.lc.cm
  have hn := neq_map o.bm
  clear x
  go_enter Try.func27, Try.ntmps27
  go_wp2_with fail
  go_ret
  exact ⟨rfl, rfl⟩

def leftI (A : La) : Int := (A.cr : Int) - (A.len : Int)
set_option maxHeartbeats 1000000 in
theorem jleft (o : Lo) (A : La) (w : World) (x : Lx w o A) :
    Calls Try.prog 28 #[o.ptr] w fun e w' => e = .returned (.int .i64 (leftI A)) ∧ Below w.heap.size w w' := by
  obtain ⟨a, cap, hv⟩ := own_form x.hd
  have r0 := cell_regrown x.lc.c0
  have r3 := cell_regrown x.lc.c3
  have r5 := cell_regrown x.lc.c5
  have rm := cell_regrown x.lc.cm
  have rh := cell_regrown x.lc.ch
  rw [hv] at rh
  have hl := fun ty d os => (x.mp.same (w' := grow (redrawn w d) os) ((below_regrown w d os).block _ x.mp.lt)).len ty
  have h1 := x.ok.hr
  have h2 := x.ok.bd
  have h3 := x.tl_len
  have h4 := x.ok.cr
  have h5 := x.ok.room
  have hw : IntKind.u64.wrap (sqI A.st A.c - sqI A.st A.h) = ((A.c - A.h : Nat) : Int) := by rw [lessI_wrap, sq_less (by omega) (by omega)]
  have hE : leftI A = (A.cr : Int) - ((A.c - A.h : Nat) : Int) - (o.tl.length : Int) - (o.hl.length : Int) := by unfold leftI La.len; omega
  rw [hE]
  have e1 : A.c - A.h ≤ 64 := by have := x.ok.span; omega
  clear hE h1 h5 hv x
  generalize sqI A.st A.c = qc at *
  generalize sqI A.st A.h = qh at *
  generalize A.c - A.h = n at *
  generalize o.tl.length = n1 at *
  generalize o.hl.length = n2 at *
  generalize A.cr = cr at *
  generalize A.T.length = n3 at *
  clear h2
  go_enter Try.func28, Try.ntmps28
  go_wp2_with fail
  refine wp_region_quiet_below (by kernel_rfl) (by kernel_rfl) ?_
  repeat (go_big_quiet_step (fail))
  refine wpQuiet_nil ?_
  intro _ hw'
  obtain ⟨⟨dq, osq⟩, hw''⟩ := hw'
  subst hw''
  go_wp2_with fail
  go_ret
  exact ⟨rfl, below_regrown w dq osq⟩

def tkV (q e : Int) : Value := .agg #[.int .u64 q, .int .u64 e]
set_option maxHeartbeats 1000000 in
theorem jticket (o : Lo) (A : La) (q : Int) (w : World) (x : Lx w o A) :
    Calls Try.prog 29 #[o.ptr, .int .u64 q] w fun e w' => e = .returned (tkV q A.ep) ∧ Below w.heap.size w w' := by
  have h2 := (x.alloc (.cells #[.int .u64 0, .int .u64 0] 34)).lc.c2
  clear x
  go_enter Try.func29, Try.ntmps29
  go_wp2_with fail
  exact bodyPost_ret (v := tkV q A.ep) (by simp [results, Try.results29, go_sem, tkV]) rfl ⟨rfl, (Below.refl _ w).alloc (Nat.le_refl _) _⟩

set_option maxHeartbeats 1000000 in
theorem jplace (o : Lo) (A : La) (q : Int) (w : World) (_ : Lx w o A) (hq : 0 ≤ q) :
    Calls Try.prog 30 #[o.ptr, .int .u64 q] w fun e w' => e = .returned (.pointer (some ⟨o.p, plN q, none⟩)) ∧ w' = w := by
  have hc := fun w => place_ok q 64 w hq (by decide) (by decide) ring64
  rw [pz_int] at hc
  have hp := pz_lt q
  unfold plN
  generalize pzN q = n at *
  go_enter Try.func30, Try.ntmps30
  go_wp2_with fail
  refine (hc _).mono ?_
  rintro e w' ⟨rfl, rfl⟩
  go_wp2_with fail
  go_ret
  exact ⟨rfl, rfl⟩
end Go.Proofs.Ytilahfomiofgcaa
